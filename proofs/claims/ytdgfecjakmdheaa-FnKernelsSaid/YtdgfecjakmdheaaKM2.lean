/- Several texts of this proof, one behind the other: each says ahead of it what it shows and under which conditions. -/
import Derived.Test.YtdgfecjakmdheaaKM1
import Derived.Outline
import Derived.Shelf.Slices.Turned
import Derived.Shelf.Slices.Reverse
import Derived.Shelf.Slices.Equal
import Derived.Ground.Names2Prog
import Derived.Shelf.Slices.Clone
import Derived.Shelf.Slices.Cells
import Derived.Shelf.Slices.Empties2
import Derived.Ground.SlgnProg
import Derived.Shelf.SlicesE.Reverse
import Derived.Shelf.SlicesE.Clone
import Derived.Test.YtdgfecjakmdheaaProg
import Derived.Test.YtdgfecjakmdheaaRows
import Derived.WalkKit
import Derived.ProofKit
import Derived.OpenShut
import Derived.PlainAid
import Derived.Lib.Hide
import Derived.BigQuiet
import Derived.Deep.QuietTactic
import Derived.WalkSmall
import Derived.IntWalk
import Derived.Lib.OwnBridge
import Derived.Deep.RegionLaw
import Derived.Deep.RegionHeld3
import Derived.Deep.DeepCutAuto
/- Contracts of IsSequence, of the model. No conditions beyond those that each states. -/
namespace Go.Proofs.Ytdgfecjakmdheaa
open Go.ChangeShapes Go.WideShapes Go.ChangeAt Go.RowKit
open Go.PlainAid Plain
set_option linter.unusedVariables false
namespace Seqs
theorem ends {B : Nat} {w W W' : World} (h : ∀ n, Below B w (W.drewN n)) (he : (∃ n, W' = W.drewN n) ∨ (∃ n m, W' = (W.drewN n).drewN m) := by first | exact .inl ⟨_, rfl⟩ | exact .inr ⟨_, _, rfl⟩) : Below B w W' := by
  rcases he with ⟨n, rfl⟩ | ⟨n, m, rfl⟩
  · exact h n
  · rw [World.drewN_drewN]; exact h _
set_option maxHeartbeats 1000000 in
theorem spec_is (v : Value) (b : Int) (rows : List (List Int)) (out : List Int) (w : World) (h : LiesS w v b rows out) :
    Calls Try.prog 33 #[v] w fun e w' => e = .returned (.bool (seqB b rows out)) ∧ Below w.heap.size w w' := by
  obtain ⟨vn, vo, rfl, hn, ho⟩ := h
  have hB : Below w.heap.size w (w.alloc (Obj.cells #[Value.int .i64 b, vn, vo] 27)) := (Below.refl _ _).alloc (Nat.le_refl _) _
  have hC := Cells3.new w 27 (.int .i64 b) vn vo
  go_enter Try.func33, Try.ntmps33
  go_wp2_with fail
  obtain ⟨W, hW⟩ : ∃ W, W = w.alloc (Obj.cells #[Value.int .i64 b, vn, vo] 27) := ⟨_, rfl⟩
  rw [← hW] at hB hC ⊢
  obtain ⟨a, ca, rfl, hl, hc⟩ := (hn.below hB).row
  obtain ⟨hlo, ao, co, rfl, _, hco⟩ := ho.below hB
  have HC := Lib.hid hc
  have HO := Lib.hid hco
  have HB : Hid (∀ n, Below w.heap.size w (W.drewN n)) := fun n => below_drewN hB n
  have k0 := hC.c0
  have k1 := hC.c1
  have k2 := hC.c2
  clear hc hco hB hC hW hn ho
  obtain ⟨z, hz⟩ : ∃ z, z = w.heap.size := ⟨_, rfl⟩
  rw [← hz] at k0 k1 k2 ⊢
  have HZ := Lib.hid hz
  clear hz
  go_loopw [3] (fun i' wr => ∃ i : Nat, i ≤ rows.length ∧ i' = .int .i64 i ∧ Hid (∀ (j : Nat) (r : List Int), j < i → rows[j]? = some r → (r.length : Int) = b ∧ ∀ (k : Nat) (x : Int), r[k]? = some x → 0 ≤ x ∧ x < (rows.length : Int)) ∧ ∃ n, wr = W.drewN n) (fun i' _ => rows.length - (intOf i').toNat)
  case atStart => exact ⟨0, Nat.zero_le _, rfl, fun j r h => by omega, 0, rfl⟩
  case round =>
    obtain ⟨i, hi, rfl, HI, n, rfl⟩ := hrel
    by_cases hlt : i < rows.length
    · obtain ⟨r, hr⟩ : ∃ r, rows[i]? = some r := ⟨_, List.getElem?_eq_getElem hlt⟩
      obtain ⟨p, o, u, rfl, hx, hlx⟩ := HC.out i r hr
      obtain ⟨hrl, a', ca', rfl, _, hcr⟩ := hlx
      have HX := Lib.hid hcr
      have HR := Lib.hid hr
      clear hcr hr
      by_cases hb : (r.length : Int) = b
      · have HBE := Lib.hid hb
        have hd0 : ((r.length : Int) != b) = false := by rw [hb]; simp
        clear hb
        go_wp2
        go_quiet (fail)
        go_wp2
        go_loopw [4] (fun k' wr => ∃ k : Nat, k ≤ r.length ∧ k' = .int .i64 k ∧ Hid (∀ (j : Nat) (x : Int), j < k → r[j]? = some x → 0 ≤ x ∧ x < (rows.length : Int)) ∧ ∃ n, wr = W.drewN n) (fun k' _ => r.length - (intOf k').toNat)
        case atStart => exact ⟨0, Nat.zero_le _, rfl, fun j x h => by omega, _, World.drewN_drewN _ _ _⟩
        case round =>
          obtain ⟨k, hk, rfl, HK, m, rfl⟩ := hrel
          by_cases hlk : k < r.length
          · obtain ⟨x, hrx⟩ : ∃ x, r[k]? = some x := ⟨_, List.getElem?_eq_getElem hlk⟩
            obtain ⟨q, s, rfl, hcx⟩ := HX.out k x hrx
            have HXX := Lib.hid hrx
            clear hrx
            by_cases hx0 : x < 0
            · have hd := decide_eq_true hx0
              have HE := Lib.hid (not_seq_cell (b := b) (out := out) HR.out HXX.out (.inl hx0))
              go_wp2
              go_quiet (fail)
              go_wp2
              go_ret
              exact ⟨ret_b HE.out.symm, ends HB.out⟩
            · by_cases hx1 : (rows.length : Int) ≤ x
              · have hd := decide_eq_false hx0
                have hd1 := decide_eq_true hx1
                have HE := Lib.hid (not_seq_cell (b := b) (out := out) HR.out HXX.out (.inr hx1))
                go_wp2
                go_quiet (fail)
                go_wp2
                go_ret
                exact ⟨ret_b HE.out.symm, ends HB.out⟩
              · have hd := decide_eq_false hx0
                have hd1 := decide_eq_false hx1
                have HN : Hid (∀ (j : Nat) (x : Int), j < k + 1 → r[j]? = some x → 0 ≤ x ∧ x < (rows.length : Int)) := fun j y hj hy => by
                  by_cases e : j = k
                  · subst e
                    obtain rfl := Option.some.inj (HXX.out.symm.trans hy)
                    omega
                  · exact HK.out j y (by omega) hy
                go_wp2
                go_quiet (fail)
                go_wp2
                go_roundw
                case rel => exact ⟨k + 1, by omega, by go_num, HN, _, rfl⟩
                case measure => simp [intOf]; omega
          · have HN : Hid (∀ (j : Nat) (r : List Int), j < i + 1 → rows[j]? = some r → (r.length : Int) = b ∧ ∀ (k : Nat) (x : Int), r[k]? = some x → 0 ≤ x ∧ x < (rows.length : Int)) := fun j y hj hy => by
              by_cases e : j = i
              · subst e
                obtain rfl := Option.some.inj (HR.out.symm.trans hy)
                exact ⟨HBE.out, fun k' x hx => HK.out k' x (by have := (List.getElem?_eq_some_iff.1 hx).1; omega) hx⟩
              · exact HI.out j y (by omega) hy
            go_wp2
            go_roundw
            case rel => exact ⟨i + 1, by omega, by go_num, HN, _, rfl⟩
            case measure => simp [intOf]; omega
      · have HE := Lib.hid (not_seq_row (out := out) HR.out hb)
        have hd0 : ((r.length : Int) != b) = true := by simpa using hb
        clear hb
        go_wp2
        go_quiet (fail)
        go_wp2
        go_ret
        exact ⟨ret_b HE.out.symm, ends HB.out⟩
    · have HRR : Hid (∀ (j : Nat) (r : List Int), rows[j]? = some r → (r.length : Int) = b ∧ ∀ (k : Nat) (x : Int), r[k]? = some x → 0 ≤ x ∧ x < (rows.length : Int)) := fun j r hr => HI.out j r (by have := (List.getElem?_eq_some_iff.1 hr).1; omega) hr
      clear HI HC
      go_wp2
      go_loopw [5] (fun i' wr => ∃ i : Nat, i ≤ out.length ∧ i' = .int .i64 i ∧ Hid (∀ (j : Nat) (x : Int), j < i → out[j]? = some x → 0 ≤ x ∧ x ≤ 3) ∧ ∃ n, wr = W.drewN n) (fun i' _ => out.length - (intOf i').toNat)
      case atStart => exact ⟨0, Nat.zero_le _, rfl, fun j r h => by omega, _, rfl⟩
      case round =>
        obtain ⟨i, hi, rfl, HI, n, rfl⟩ := hrel
        by_cases hlt : i < out.length
        · obtain ⟨x, hox⟩ : ∃ x, out[i]? = some x := ⟨_, List.getElem?_eq_getElem hlt⟩
          obtain ⟨q, s, rfl, hcx⟩ := HO.out i x hox
          have HXX := Lib.hid hox
          clear hox
          by_cases hin : 0 ≤ x ∧ x ≤ 3
          · obtain ⟨hx0, hx3⟩ := hin
            have HN : Hid (∀ (j : Nat) (x : Int), j < i + 1 → out[j]? = some x → 0 ≤ x ∧ x ≤ 3) := fun j y hj hy => by
              by_cases e : j = i
              · subst e
                obtain rfl := Option.some.inj (HXX.out.symm.trans hy)
                omega
              · exact HI.out j y (by omega) hy
            go_wp2_with fail
            refine (l1In_yes _ _ _ _ hx0 hx3).mono ?_
            rintro e w' ⟨rfl, rfl⟩
            go_wp2
            go_roundw
            case rel => exact ⟨i + 1, by omega, by go_num, HN, _, rfl⟩
            case measure => simp [intOf]; omega
          · have hno : x < 0 ∨ 3 < x := by omega
            have HE := Lib.hid (not_seq_out (b := b) (rows := rows) HXX.out hno)
            have HNO := Lib.hid hno
            clear hin hno
            go_wp2_with fail
            refine (l1In_no _ _ _ _ HNO.out).mono ?_
            rintro e w' ⟨rfl, rfl⟩
            go_wp2
            go_ret
            exact ⟨ret_b HE.out.symm, ends HB.out⟩
        · have HOO : Hid (∀ (j : Nat) (x : Int), out[j]? = some x → 0 ≤ x ∧ x ≤ 3) := fun j r hr => HI.out j r (by have := (List.getElem?_eq_some_iff.1 hr).1; omega) hr
          clear HI HO
          by_cases hb : 2 ≤ b ∧ b ≤ 4
          · obtain ⟨hb1, hb2⟩ := hb
            by_cases hlen : 1 ≤ rows.length ∧ rows.length ≤ 16
            · obtain ⟨hl1, hl2⟩ := hlen
              by_cases heq : out.length = rows.length
              · have HE := Lib.hid (seqB_yes (isSeq_of hb1 hb2 hl1 hl2 heq HRR.out HOO.out))
                have hd : ((out.length : Int) == (rows.length : Int)) = true := by rw [heq]; simp
                clear heq
                go_wp2_with fail
                refine (l1In_yes _ _ _ _ hb1 hb2).mono ?_
                rintro e w' ⟨rfl, rfl⟩
                go_wp2_with fail
                refine (l1In_yes _ _ _ _ (by omega) (by omega)).mono ?_
                rintro e w' ⟨rfl, rfl⟩
                go_wp2
                go_ret
                exact ⟨ret_b HE.out.symm, ends HB.out⟩
              · have HE := Lib.hid (seqB_no (b := b) fun h => heq h.2.2.2.2.1)
                have hd : ((out.length : Int) == (rows.length : Int)) = false := by simp; omega
                clear heq
                go_wp2_with fail
                refine (l1In_yes _ _ _ _ hb1 hb2).mono ?_
                rintro e w' ⟨rfl, rfl⟩
                go_wp2_with fail
                refine (l1In_yes _ _ _ _ (by omega) (by omega)).mono ?_
                rintro e w' ⟨rfl, rfl⟩
                go_wp2
                go_ret
                exact ⟨ret_b HE.out.symm, ends HB.out⟩
            · have HE := Lib.hid (seqB_no (b := b) (out := out) fun h => hlen ⟨h.2.2.1, h.2.2.2.1⟩)
              have hno : (rows.length : Int) < 1 ∨ 16 < (rows.length : Int) := by omega
              have HNO := Lib.hid hno
              clear hlen hno
              go_wp2_with fail
              refine (l1In_yes _ _ _ _ hb1 hb2).mono ?_
              rintro e w' ⟨rfl, rfl⟩
              go_wp2_with fail
              refine (l1In_no _ _ _ _ HNO.out).mono ?_
              rintro e w' ⟨rfl, rfl⟩
              go_wp2
              go_ret
              exact ⟨ret_b HE.out.symm, ends HB.out⟩
          · have HE := Lib.hid (seqB_no (rows := rows) (out := out) fun h => hb ⟨h.1, h.2.1⟩)
            have hno : b < 2 ∨ 4 < b := by omega
            have HNO := Lib.hid hno
            clear hb hno
            go_wp2_with fail
            refine (l1In_no _ _ _ _ HNO.out).mono ?_
            rintro e w' ⟨rfl, rfl⟩
            go_wp2
            go_ret
            exact ⟨ret_b HE.out.symm, ends HB.out⟩
end Seqs
end Go.Proofs.Ytdgfecjakmdheaa
/- Contracts of library functions at this translation, each one application of a theorem of the library. Conditions: those that each states. -/
namespace Go.Proofs
open Go.Shelf
def Try.lays108_ren : Go.Shelf.Ren := ⟨fun | 108 => 73 | n => n, fun | 28 => 25 | 3 => 3 | 0 => 0 | 4 => 4 | n => n, fun | n => n⟩
theorem Try.lays108 : Go.Proofs.Lays.n108 Try.prog Try.lays108_ren := {
  mixed := by kernel_rfl
  f108 := Try.func73.trans (congrArg some (by kernel_rfl))
  t0 := Try.underlying0
  a0 := Try.isAgg0
  z0 := Try.sizeOf0
  v0 := Try.zeroValue0
  t3 := Try.underlying3
  a3 := Try.isAgg3
  z3 := Try.sizeOf3
  v3 := Try.zeroValue3
  t4 := Try.underlying4
  a4 := Try.isAgg4
  z4 := Try.sizeOf4
  v4 := Try.zeroValue4
  t28 := Try.underlying25
  a28 := Try.isAgg25
  z28 := Try.sizeOf25
  v28 := Try.zeroValue25 }
open Go.Lib in
theorem Try.slices_Index_int (b off n c : Nat) (zs : List Int) (x : Int) (w : World) (hz : n ≤ zs.length) (hbig : n ≤ 9223372036854775807) (hc : ∀ j, j < zs.length → w.cell? ⟨b, off + j, none⟩ = some (.int .i64 (zs.getD j 0))) :
    Calls Try.prog 73 #[.slice (some ⟨b, off, none⟩) n c, .int .i64 x] w fun e w' => e = .returned (.int .i64 (Lib.idxOf (zs.take n) x)) ∧ w' = w := Any.slices_Index_int Try.lays108 b off n c zs x w hz hbig hc
open Go.Lib in
theorem Try.slices_Index_int_empty (a : Option Addr) (c : Nat) (x : Int) (w : World) :
    Calls Try.prog 73 #[.slice a 0 c, .int .i64 x] w fun e w' => e = .returned (.int .i64 (Lib.idxOf [] x)) ∧ w' = w := Any.slices_Index_int_empty Try.lays108 a c x w
def Try.lays107_ren : Go.Shelf.Ren := ⟨fun | 107 => 77 | 108 => 73 | n => n, fun | 28 => 25 | 3 => 3 | 4 => 4 | 0 => 0 | n => n, fun | n => n⟩
theorem Try.lays107 : Go.Proofs.Lays.n107 Try.prog Try.lays107_ren := {
  mixed := by kernel_rfl
  f107 := Try.func77.trans (congrArg some (by kernel_rfl))
  f108 := Try.func73.trans (congrArg some (by kernel_rfl))
  t0 := Try.underlying0
  a0 := Try.isAgg0
  z0 := Try.sizeOf0
  v0 := Try.zeroValue0
  t3 := Try.underlying3
  a3 := Try.isAgg3
  z3 := Try.sizeOf3
  v3 := Try.zeroValue3
  t4 := Try.underlying4
  a4 := Try.isAgg4
  z4 := Try.sizeOf4
  v4 := Try.zeroValue4
  t28 := Try.underlying25
  a28 := Try.isAgg25
  z28 := Try.sizeOf25
  v28 := Try.zeroValue25 }
open Go.Lib in
theorem Try.slices_Contains_int (b off n c : Nat) (zs : List Int) (x : Int) (w : World) (hz : n ≤ zs.length) (hbig : n ≤ 9223372036854775807) (hc : ∀ j, j < zs.length → w.cell? ⟨b, off + j, none⟩ = some (.int .i64 (zs.getD j 0))) :
    Calls Try.prog 77 #[.slice (some ⟨b, off, none⟩) n c, .int .i64 x] w fun e w' => e = .returned (.bool ((zs.take n).contains x)) ∧ w' = w := Any.slices_Contains_int Try.lays107 b off n c zs x w hz hbig hc
open Go.Lib in
theorem Try.slices_Contains_int_empty (a : Option Addr) (c : Nat) (x : Int) (w : World) :
    Calls Try.prog 77 #[.slice a 0 c, .int .i64 x] w fun e w' => e = .returned (.bool false) ∧ w' = w := Any.slices_Contains_int_empty Try.lays107 a c x w
def Try.lays112_ren : Go.Shelf.Ren := ⟨fun | 112 => 52 | n => n, fun | 28 => 25 | 3 => 3 | 4 => 4 | 0 => 0 | n => n, fun | n => n⟩
theorem Try.lays112 : Go.Proofs.Lays.n112 Try.prog Try.lays112_ren := {
  mixed := by kernel_rfl
  f112 := Try.func52.trans (congrArg some (by kernel_rfl))
  t0 := Try.underlying0
  a0 := Try.isAgg0
  z0 := Try.sizeOf0
  v0 := Try.zeroValue0
  t3 := Try.underlying3
  a3 := Try.isAgg3
  z3 := Try.sizeOf3
  v3 := Try.zeroValue3
  t4 := Try.underlying4
  a4 := Try.isAgg4
  z4 := Try.sizeOf4
  v4 := Try.zeroValue4
  t28 := Try.underlying25
  a28 := Try.isAgg25
  z28 := Try.sizeOf25
  v28 := Try.zeroValue25 }
open Go.RowKit Go.Lib Go.Sort in
theorem Try.slices_Reverse_int_arr (blk off cap : Nat) (d : Array Int) (w : World) (hH : Holds encI w blk off d) (hsz : d.size ≤ 9223372036854775807) :
    Calls Try.prog 52 #[.slice (some ⟨blk, off, none⟩) d.size cap] w fun e w' => e = .returned (.tuple #[]) ∧ ∃ n, w' = putRow encI (Sort.ahead w n) blk off d.reverse := Any.slices_Reverse_int_arr Try.lays112 blk off cap d w hH hsz
open Go.RowKit Go.Lib Go.Sort in
theorem Try.slices_Reverse_int (blk off cap : Nat) (zs : List Int) (w : World) (hH : Holds (Value.int .i64) w blk off zs.toArray) (hsz : zs.length ≤ 9223372036854775807) :
    Calls Try.prog 52 #[.slice (some ⟨blk, off, none⟩) zs.length cap] w fun e w' => e = .returned (.tuple #[]) ∧ ∃ n, w' = putRow (Value.int .i64) (Sort.ahead w n) blk off zs.reverse.toArray := Any.slices_Reverse_int Try.lays112 blk off cap zs w hH hsz
open Go.RowKit Go.Lib Go.Sort in
theorem Try.slices_Reverse_int_empty (a : Option Addr) (cap : Nat) (w : World) :
    Calls Try.prog 52 #[.slice a 0 cap] w fun e w' => e = .returned (.tuple #[]) ∧ w' = w := Any.slices_Reverse_int_empty Try.lays112 a cap w
def Try.lays111_ren : Go.Shelf.Ren := ⟨fun | 111 => 75 | n => n, fun | 28 => 25 | 3 => 3 | 4 => 4 | 0 => 0 | n => n, fun | n => n⟩
theorem Try.lays111 : Go.Proofs.Lays.n111 Try.prog Try.lays111_ren := {
  mixed := by kernel_rfl
  f111 := Try.func75.trans (congrArg some (by kernel_rfl))
  t0 := Try.underlying0
  a0 := Try.isAgg0
  z0 := Try.sizeOf0
  v0 := Try.zeroValue0
  t3 := Try.underlying3
  a3 := Try.isAgg3
  z3 := Try.sizeOf3
  v3 := Try.zeroValue3
  t4 := Try.underlying4
  a4 := Try.isAgg4
  z4 := Try.sizeOf4
  v4 := Try.zeroValue4
  t28 := Try.underlying25
  a28 := Try.isAgg25
  z28 := Try.sizeOf25
  v28 := Try.zeroValue25 }
open Go.RowKit Go.Lib in
theorem Try.slices_Equal_int (b1 o1 n c b2 o2 m d : Nat) (xs ys : List Int) (w : World) (hx : n ≤ xs.length) (hy : m ≤ ys.length) (hbig : n ≤ 9223372036854775807) (hbig2 : m ≤ 9223372036854775807) (hc1 : ∀ j, j < xs.length → w.cell? ⟨b1, o1 + j, none⟩ = some (.int .i64 (xs.getD j 0))) (hc2 : ∀ j, j < ys.length → w.cell? ⟨b2, o2 + j, none⟩ = some (.int .i64 (ys.getD j 0))) :
    Calls Try.prog 75 #[.slice (some ⟨b1, o1, none⟩) n c, .slice (some ⟨b2, o2, none⟩) m d] w fun e w' => e = .returned (.bool (xs.take n == ys.take m)) ∧ ∃ q, w' = w.drewN q := Any.slices_Equal_int Try.lays111 b1 o1 n c b2 o2 m d xs ys w hx hy hbig hbig2 hc1 hc2
open Go.RowKit Go.Lib in
theorem Try.slices_Equal_int_empty (a1 a2 : Option Addr) (c m d : Nat) (w : World) (hbig2 : m ≤ 9223372036854775807) :
    Calls Try.prog 75 #[.slice a1 0 c, .slice a2 m d] w fun e w' => e = .returned (.bool (decide (m = 0))) ∧ w' = w := Any.slices_Equal_int_empty Try.lays111 a1 a2 c m d w hbig2
def Try.laysNm215_ren : Go.Shelf.Ren := ⟨fun | 15 => 51 | n => n, fun | 22 => 25 | 3 => 3 | 4 => 4 | n => n, fun | n => n⟩
theorem Try.laysNm215 : Go.Proofs.Lays2.n15 Try.prog Try.laysNm215_ren := {
  mixed := by kernel_rfl
  f15 := Try.func51.trans (congrArg some (by kernel_rfl))
  t3 := Try.underlying3
  a3 := Try.isAgg3
  z3 := Try.sizeOf3
  v3 := Try.zeroValue3
  t4 := Try.underlying4
  a4 := Try.isAgg4
  z4 := Try.sizeOf4
  v4 := Try.zeroValue4
  t22 := Try.underlying25
  a22 := Try.isAgg25
  z22 := Try.sizeOf25
  v22 := Try.zeroValue25
  i3 := by kernel_rfl }
open Go.RowKit Go.Lib in
theorem Try.slices_Clone_int (b off n c : Nat) (zs : List Int) (w : World) (hz : n ≤ zs.length) (hbig : n * 8 ≤ 140737488355328) (hc : ∀ j, j < zs.length → w.cell? ⟨b, off + j, none⟩ = some (.int .i64 (zs.getD j 0))) :
    Calls Try.prog 51 #[.slice (some ⟨b, off, none⟩) n c] w fun e w' => ∃ v', e = .returned v' ∧ w'.ownsRow w.heap.size 3 1 v' n ((zs.take n).map (Value.int .i64)) ∧ v' ≠ .slice none 0 0 ∧ Below w.heap.size w w' := Any.slices_Clone_int Try.laysNm215 b off n c zs w hz hbig hc
open Go.RowKit Go.Lib in
theorem Try.slices_Clone_int_nil (n c : Nat) (w : World) :
    Calls Try.prog 51 #[.slice none n c] w fun e w' => e = .returned (.slice none 0 0) ∧ w' = w := Any.slices_Clone_int_nil Try.laysNm215 n c w
open Go.RowKit Go.Lib in
theorem Try.slices_Clone_int_zero (a : Addr) (c : Nat) (w : World) :
    Calls Try.prog 51 #[.slice (some a) 0 c] w fun e w' => ∃ v', e = .returned v' ∧ w'.ownsRow w.heap.size 3 1 v' 0 [] ∧ v' ≠ .slice none 0 0 ∧ Below w.heap.size w w' := Any.slices_Clone_int_zero Try.laysNm215 a c w
open Go.RowKit Go.Lib Go.Sort in
theorem Try.slices_Reverse_int_cells (b off n c : Nat) (zs : List Int) (w : World) (hz : n ≤ zs.length) (hbig : n ≤ 9223372036854775807) (hc : ∀ j, j < zs.length → w.cell? ⟨b, off + j, none⟩ = some (.int .i64 (zs.getD j 0))) (hf : ∀ j, j < n → w.frozen? ⟨b, off + j, none⟩ = false) :
    Calls Try.prog 52 #[.slice (some ⟨b, off, none⟩) n c] w fun e w' => e = .returned (.tuple #[]) ∧ ∃ q, w' = (w.drewN q).setCells b off ((zs.take n).reverse.map (Value.int .i64)) := Any.slices_Reverse_int_cells Try.lays112 b off n c zs w hz hbig hc hf
open Go.RowKit Go.Lib in
theorem Try.slices_Equal_int_lens (a1 a2 : Option Addr) (n c m d : Nat) (w : World) (hnm : n ≠ m) :
    Calls Try.prog 75 #[.slice a1 n c, .slice a2 m d] w fun e w' => e = .returned (.bool false) ∧ w' = w := Any.slices_Equal_int_lens Try.lays111 a1 a2 n c m d w hnm
def Try.laysSlE35_f52_ren : Go.Shelf.Ren := ⟨fun | 35 => 52 | n => n, fun | 22 => 25 | 23 => 3 | 3 => 3 | 4 => 4 | 0 => 0 | n => n, fun | n => n⟩
theorem Try.laysSlE35_f52 : Go.Proofs.SlLaysE.n35 Try.prog Try.laysSlE35_f52_ren := {
  mixed := by kernel_rfl
  f35 := ⟨Try.f52.name, by decide, Try.func52.trans (congrArg some (by kernel_rfl))⟩
  t0 := Try.underlying0
  a0 := Try.isAgg0
  z0 := Try.sizeOf0
  v0 := Try.zeroValue0
  t3 := Try.underlying3
  a3 := Try.isAgg3
  z3 := Try.sizeOf3
  v3 := Try.zeroValue3
  t4 := Try.underlying4
  a4 := Try.isAgg4
  z4 := Try.sizeOf4
  v4 := Try.zeroValue4
  t22 := Try.underlying25
  a22 := Try.isAgg25
  z22 := Try.sizeOf25
  v22 := Try.zeroValue25
  a23 := Try.isAgg3
  z23 := Try.sizeOf3 }
open Go.RowKit Go.Lib Go.Sort in
theorem Try.slices_Reverse_arr {α : Type} [Inhabited α] (enc : α → Value) (h1 : OneCell enc) (blk off cap : Nat) (d : Array α) (w : World) (hH : Holds enc w blk off d) (hsz : d.size ≤ 9223372036854775807) :
    Calls Try.prog 52 #[.slice (some ⟨blk, off, none⟩) d.size cap] w fun e w' => e = .returned (.tuple #[]) ∧ ∃ n, w' = putRow enc (Sort.ahead w n) blk off d.reverse := AnyE.slices_Reverse_arr Try.laysSlE35_f52 enc h1 blk off cap d w hH hsz
open Go.RowKit Go.Lib Go.Sort in
theorem Try.slices_Reverse {α : Type} [Inhabited α] (enc : α → Value) (h1 : OneCell enc) (blk off cap : Nat) (zs : List α) (w : World) (hH : Holds enc w blk off zs.toArray) (hsz : zs.length ≤ 9223372036854775807) :
    Calls Try.prog 52 #[.slice (some ⟨blk, off, none⟩) zs.length cap] w fun e w' => e = .returned (.tuple #[]) ∧ ∃ n, w' = putRow enc (Sort.ahead w n) blk off zs.reverse.toArray := AnyE.slices_Reverse Try.laysSlE35_f52 enc h1 blk off cap zs w hH hsz
open Go.RowKit Go.Lib Go.Sort in
theorem Try.slices_Reverse_empty {α : Type} [Inhabited α] (a : Option Addr) (cap : Nat) (w : World) :
    Calls Try.prog 52 #[.slice a 0 cap] w fun e w' => e = .returned (.tuple #[]) ∧ w' = w := AnyE.slices_Reverse_empty Try.laysSlE35_f52 a cap w
def Try.laysSlE041_f51_ren : Go.Shelf.Ren := ⟨fun | 41 => 51 | n => n, fun | 22 => 25 | 23 => 3 | 4 => 4 | n => n, fun | n => n⟩
theorem Try.laysSlE041_f51 : Go.Proofs.SlLaysE0.n41 Try.prog Try.laysSlE041_f51_ren := {
  mixed := by kernel_rfl
  f41 := ⟨Try.f51.name, by decide, Try.func51.trans (congrArg some (by kernel_rfl))⟩
  t4 := Try.underlying4
  a4 := Try.isAgg4
  z4 := Try.sizeOf4
  v4 := Try.zeroValue4
  t22 := Try.underlying25
  a22 := Try.isAgg25
  z22 := Try.sizeOf25
  v22 := Try.zeroValue25 }
open Go.RowKit Go.Lib in
theorem Try.slices_Clone (i0 : TypeInfo) (z : Value) (size bytes : Nat) (hi : Try.prog.info? 3 = some i0) (hz0 : i0.zero = some z) (hz1 : i0.size = size) (hz2 : i0.bytes = bytes) (hzs : z.cells.size = size) (hsz : 0 < size) (z23 : ∀ w, (Go.sizeOf 3).run Try.prog w = .ok size w) (b off n c : Nat) (news : List Value) (w : World) (hl : news.length = n * size) (hn : n ≤ maxLen) (hbig : n * bytes ≤ 140737488355328) (hc : ∀ j u, news[j]? = some u → w.cell? ⟨b, off + j, none⟩ = some u) (h1 : ∀ u ∈ news, u.oneCell' = true) :
    Calls Try.prog 51 #[.slice (some ⟨b, off, none⟩) n c] w fun e w' => ∃ v', e = .returned v' ∧ w'.ownsRow w.heap.size 3 size v' n news ∧ v' ≠ .slice none 0 0 ∧ Below w.heap.size w w' := AnyE.slices_Clone Try.laysSlE041_f51 i0 z size bytes hi hz0 hz1 hz2 hzs hsz z23 b off n c news w hl hn hbig hc h1
open Go.RowKit Go.Lib in
theorem Try.slices_Clone_nil (n c : Nat) (w : World) :
    Calls Try.prog 51 #[.slice none n c] w fun e w' => e = .returned (.slice none 0 0) ∧ w' = w := AnyE.slices_Clone_nil Try.laysSlE041_f51 n c w
end Go.Proofs
/- Contracts of the functions on digits, of the program and of the model. No conditions beyond those that each states. -/
namespace Go.Proofs.Ytdgfecjakmdheaa
open Go.ChangeShapes Go.WideShapes Go.ChangeAt Go.RowKit
open Go.PlainAid Plain
set_option linter.unusedVariables false
namespace Digits

theorem base_yes (b : Int) (w : World) (h1 : 2 ≤ b) (h2 : b ≤ 4) :
    Calls Try.prog 49 #[.int .i64 b] w fun e w' => e = .returned (.bool true) ∧ w = w' := by
  go_enter Try.func49, Try.ntmps49
  go_wp2
  go_ret
  exact ⟨rfl, rfl⟩
theorem base_no (b : Int) (w : World) (h1 : b < 2 ∨ 4 < b) :
    Calls Try.prog 49 #[.int .i64 b] w fun e w' => e = .returned (.bool false) ∧ w = w' := by
  by_cases h3 : 2 ≤ b
  · have h4 : 4 < b := by omega
    clear h1
    go_enter Try.func49, Try.ntmps49
    go_wp2
    go_ret
    exact ⟨by simp; omega, rfl⟩
  · clear h1
    go_enter Try.func49, Try.ntmps49
    go_wp2
    go_ret
    exact ⟨rfl, rfl⟩

theorem pow_next (b i : Nat) : ((b ^ i : Nat) : Int) * (b : Int) = ((b ^ (i + 1) : Nat) : Int) := by rw [Nat.pow_succ, Int.natCast_mul]
theorem ret_i {a b : Int} (h : a = b) : Ending.returned (.int .i64 a) = Ending.returned (.int .i64 b) := by rw [h]
theorem spec_pow (b k : Nat) (w : World) (h1 : 2 ≤ b) (h2 : b ≤ 4) (hk : k ≤ 16) :
    Calls Try.prog 34 #[.int .i64 b, .int .i64 k] w fun e w' => e = .returned (.int .i64 ((b ^ k : Nat) : Int)) ∧ w = w' := by
  go_enter Try.func34, Try.ntmps34
  go_wp2_with (go_at_call 53; refine (l1In_yes _ _ _ _ (by omega) (by omega)).mono ?_; rintro e w' ⟨rfl, rfl⟩)
  go_loop [5, 6] (fun n' i' => ∃ i : Nat, i ≤ k ∧ i' = .int .i64 i ∧ n' = .int .i64 ((b ^ i : Nat) : Int)) (fun _ i' => k - (intOf i').toNat)
  case atStart => exact ⟨0, Nat.zero_le _, rfl, rfl⟩
  case round =>
    obtain ⟨i, hi, rfl, rfl⟩ := hrel
    by_cases hlt : i < k
    · have hb := pow_bd b (i + 1) h1 h2 (by omega)
      have hb1 := pow_bd b i h1 h2 (by omega)
      have hn := pow_next b i
      obtain ⟨p, hp⟩ : ∃ p, p = b ^ i := ⟨_, rfl⟩
      obtain ⟨q, hq⟩ : ∃ q, q = b ^ (i + 1) := ⟨_, rfl⟩
      rw [← hp] at hb1
      rw [← hq] at hb
      rw [← hp, ← hq] at hn
      have HQ := Lib.hid hq
      rw [← hp]
      clear hp hq
      have h0 : 0 ≤ (p : Int) * (b : Int) := by omega
      have h9 : (p : Int) * (b : Int) ≤ 4294967296 := by omega
      have HN := Lib.hid hn
      clear hn
      go_wp2
      go_round
      case rel => exact ⟨i + 1, by omega, by go_num, by rw [HN.out, HQ.out]⟩
      case measure => simp [intOf]; omega
    · obtain rfl : i = k := by omega
      go_wp2
      go_ret
      exact ⟨rfl, rfl⟩
theorem impl_pow (b k : Nat) (w : World) (h1 : 2 ≤ b) (h2 : b ≤ 4) (hk : k ≤ 16) :
    Calls Try.prog 29 #[.int .i64 b, .int .i64 k] w fun e w' => e = .returned (.int .i64 ((b ^ k : Nat) : Int)) ∧ w = w' := by
  go_enter Try.func29, Try.ntmps29
  go_wp2_with (go_at_call 49; refine (base_yes _ _ (by omega) (by omega)).mono ?_; rintro e w' ⟨rfl, rfl⟩)
  go_loop [5, 18] (fun n' i' => ∃ i : Nat, i ≤ k ∧ i' = .int .i64 i ∧ n' = .int .i64 ((b ^ i : Nat) : Int)) (fun _ i' => k - (intOf i').toNat)
  case atStart => exact ⟨0, Nat.zero_le _, rfl, rfl⟩
  case round =>
    obtain ⟨i, hi, rfl, rfl⟩ := hrel
    by_cases hlt : i < k
    · have hb := pow_bd b (i + 1) h1 h2 (by omega)
      have hb1 := pow_bd b i h1 h2 (by omega)
      have hn := pow_next b i
      obtain ⟨p, hp⟩ : ∃ p, p = b ^ i := ⟨_, rfl⟩
      obtain ⟨q, hq⟩ : ∃ q, q = b ^ (i + 1) := ⟨_, rfl⟩
      rw [← hp] at hb1
      rw [← hq] at hb
      rw [← hp, ← hq] at hn
      have HQ := Lib.hid hq
      rw [← hp]
      clear hp hq
      have h0 : 0 ≤ (p : Int) * (b : Int) := by omega
      have h9 : (p : Int) * (b : Int) ≤ 4294967296 := by omega
      have HN := Lib.hid hn
      clear hn
      go_wp2
      go_round
      case rel => exact ⟨i + 1, by omega, by go_num, by rw [HN.out, HQ.out]⟩
      case measure => simp [intOf]; omega
    · obtain rfl : i = k := by omega
      go_wp2
      go_ret
      exact ⟨rfl, rfl⟩
/-- The power, 0 where base or exponent is out of range. -/
def powV (b k : Int) : Int := if 2 ≤ b ∧ b ≤ 4 ∧ 0 ≤ k ∧ k ≤ 16 then ((b.toNat ^ k.toNat : Nat) : Int) else 0
theorem spec_pow_any (b k : Int) (w : World) : Calls Try.prog 34 #[.int .i64 b, .int .i64 k] w fun e w' => e = .returned (.int .i64 (powV b k)) ∧ w = w' := by
  by_cases h : 2 ≤ b ∧ b ≤ 4 ∧ 0 ≤ k ∧ k ≤ 16
  · rw [powV, if_pos h]
    obtain ⟨n, rfl⟩ := Int.eq_ofNat_of_zero_le (show 0 ≤ b by omega)
    obtain ⟨m, rfl⟩ := Int.eq_ofNat_of_zero_le (show 0 ≤ k by omega)
    exact spec_pow n m w (by omega) (by omega) (by omega)
  · rw [powV, if_neg h]
    by_cases h2 : 2 ≤ b ∧ b ≤ 4
    · have h3 : k < 0 ∨ 16 < k := by omega
      obtain ⟨h4, h5⟩ := h2
      clear h
      go_enter Try.func34, Try.ntmps34
      go_wp2_with fail
      refine (l1In_yes _ _ _ _ h4 h5).mono ?_
      rintro e w' ⟨rfl, rfl⟩
      go_wp2_with fail
      refine (l1In_no _ _ _ _ h3).mono ?_
      rintro e w' ⟨rfl, rfl⟩
      go_wp2
      go_ret
      exact ⟨rfl, rfl⟩
    · have h3 : b < 2 ∨ 4 < b := by omega
      clear h h2
      go_enter Try.func34, Try.ntmps34
      go_wp2_with (go_at_call 53; refine (l1In_no _ _ _ _ h3).mono ?_; rintro e w' ⟨rfl, rfl⟩)
      go_ret
      exact ⟨rfl, rfl⟩
theorem impl_pow_any (b k : Int) (w : World) : Calls Try.prog 29 #[.int .i64 b, .int .i64 k] w fun e w' => e = .returned (.int .i64 (powV b k)) ∧ w = w' := by
  by_cases h : 2 ≤ b ∧ b ≤ 4 ∧ 0 ≤ k ∧ k ≤ 16
  · rw [powV, if_pos h]
    obtain ⟨n, rfl⟩ := Int.eq_ofNat_of_zero_le (show 0 ≤ b by omega)
    obtain ⟨m, rfl⟩ := Int.eq_ofNat_of_zero_le (show 0 ≤ k by omega)
    exact impl_pow n m w (by omega) (by omega) (by omega)
  · rw [powV, if_neg h]
    by_cases h2 : 2 ≤ b ∧ b ≤ 4
    · obtain ⟨h4, h5⟩ := h2
      by_cases h6 : k < 0
      · clear h
        go_enter Try.func29, Try.ntmps29
        go_wp2_with (go_at_call 49; refine (base_yes _ _ h4 h5).mono ?_; rintro e w' ⟨rfl, rfl⟩)
        go_ret
        exact ⟨rfl, rfl⟩
      · have h7 : 16 < k := by omega
        clear h
        go_enter Try.func29, Try.ntmps29
        go_wp2_with (go_at_call 49; refine (base_yes _ _ h4 h5).mono ?_; rintro e w' ⟨rfl, rfl⟩)
        go_ret
        exact ⟨rfl, rfl⟩
    · have h3 : b < 2 ∨ 4 < b := by omega
      clear h h2
      go_enter Try.func29, Try.ntmps29
      go_wp2_with (go_at_call 49; refine (base_no _ _ h3).mono ?_; rintro e w' ⟨rfl, rfl⟩)
      go_ret
      exact ⟨rfl, rfl⟩

/-- slices.Reverse of a slice of the call's own. -/
theorem reverse_has (v : Value) (xs : List Int) (w : World) (base : Nat) (h : Has (Value.int .i64) 3 w base v xs) :
    Calls Try.prog 52 #[v] w fun e w' => e = .returned (.tuple #[]) ∧ Has (Value.int .i64) 3 w' base v xs.reverse ∧ w.grownBy w' v.ownBlock := by
  obtain ⟨a, cap, rfl, hform⟩ := h.form
  cases hx : xs with
  | nil =>
    refine (Try.slices_Reverse_int_empty a cap w).mono ?_
    rintro e w' ⟨rfl, rfl⟩
    subst hx
    exact ⟨rfl, h, World.grownBy.refl _ _⟩
  | cons y ys =>
    obtain ⟨g, rfl⟩ := hform (by rw [hx]; simp)
    rw [← hx]
    obtain ⟨g', cap', he, _, _, _, _, _, hH⟩ := Lib.holds_of_ownsRow (enc := Value.int .i64) h (by simp)
    injection he with e1 _ e3
    injection e1 with e1
    injection e1 with e1
    subst e1; subst e3
    refine (Try.slices_Reverse_int g 0 cap xs w hH h.small).mono ?_
    rintro e w' ⟨rfl, q, rfl⟩
    refine ⟨rfl, ?_, ?_⟩
    · have := Lib.ownsRow_putRow (enc := Value.int .i64) (q := q) (ys := xs.reverse) h (by simp) (Nat.le_refl _)
      rw [List.take_of_length_le (by simp)] at this
      show World.ownsRow _ _ _ _ _ _ _
      rw [List.length_reverse]
      exact this
    · refine ⟨rfl, rfl, rfl, by simp [Sort.putRow, Sort.mapBlock, Sort.ahead], fun k hk hne => ?_⟩
      have hgk : g ≠ k := fun e => hne (by rw [e]; rfl)
      simp [Sort.putRow, Sort.mapBlock, Sort.ahead, Array.getElem?_modify, hgk]
/-- slices.Clone of any slice. -/
theorem clone_lies (v : Value) (xs : List Int) (w : World) (h : Lies (Value.int .i64) w v xs) (hs : xs.length ≤ 1048576) :
    Calls Try.prog 51 #[v] w (Gives (Value.int .i64) 3 xs w) := by
  obtain ⟨hl, a, cap, rfl, hn, hc⟩ := h
  cases a with
  | none =>
    have hy : xs = [] := by
      cases xs with
      | nil => rfl
      | cons y l => obtain ⟨_, _, h', _⟩ := hc 0 y rfl; cases h'
    subst hy
    refine (Try.slices_Clone_int_nil _ _ w).mono ?_
    rintro e w' ⟨rfl, rfl⟩
    exact ⟨_, rfl, World.ownsRow_nil _ _ _ _, Below.refl _ _⟩
  | some ad =>
    cases hx : xs with
    | nil =>
      refine (Try.slices_Clone_int_zero ad cap w).mono ?_
      rintro e w' ⟨v', rfl, ho, _, hb⟩
      exact ⟨_, rfl, ho, hb⟩
    | cons y ys =>
      obtain ⟨b, off, he, _⟩ := hc 0 y (by rw [hx]; rfl)
      obtain rfl := Option.some.inj he
      rw [← hx]
      refine (Try.slices_Clone_int b off xs.length cap xs w (Nat.le_refl _) (by omega) ?_).mono ?_
      · intro j hj
        obtain ⟨b', off', he', hcell⟩ := hc j _ (List.getElem?_eq_getElem hj)
        injection he' with he'
        injection he' with e1 e2
        subst e1; subst e2
        rw [hcell]
        simp [List.getD, hj]
      · rintro e w' ⟨v', rfl, ho, _, hb⟩
        rw [List.take_length] at ho
        exact ⟨_, rfl, ho, hb⟩
end Digits
end Go.Proofs.Ytdgfecjakmdheaa
/- Contracts of IsSequence, of the program. No conditions beyond those that each states. -/
namespace Go.Proofs.Ytdgfecjakmdheaa
open Go.ChangeShapes Go.WideShapes Go.ChangeAt Go.RowKit
open Go.PlainAid Plain
set_option linter.unusedVariables false
namespace Seqs
theorem term_yes (x : Int) (w : World) (h1 : 0 ≤ x) (h2 : x ≤ 3) :
    Calls Try.prog 70 #[.int .i64 x] w fun e w' => e = .returned (.bool true) ∧ w = w' := by
  go_enter Try.func70, Try.ntmps70
  go_wp2
  go_ret
  exact ⟨rfl, rfl⟩
theorem term_no (x : Int) (w : World) (h : x < 0 ∨ 3 < x) :
    Calls Try.prog 70 #[.int .i64 x] w fun e w' => e = .returned (.bool false) ∧ w = w' := by
  by_cases h3 : 0 ≤ x
  · have h4 : decide (x ≤ 3) = false := decide_eq_false (by omega)
    clear h
    go_enter Try.func70, Try.ntmps70
    go_wp2
    go_ret
    exact ⟨rfl, rfl⟩
  · clear h
    go_enter Try.func70, Try.ntmps70
    go_wp2
    go_ret
    exact ⟨rfl, rfl⟩
theorem term_q {x : Int} {w : World} {n : Nat} {c : Bool} (hc : decide (0 ≤ x ∧ x ≤ 3) = c) :
    Calls Try.prog 70 #[.int .i64 x] (w.drewN n) fun e w' => e = .returned (.bool c) ∧ ∃ m, w' = w.drewN m := by
  cases c with
  | true =>
    have h := of_decide_eq_true hc
    exact (term_yes x _ h.1 h.2).mono fun _ _ ⟨he, hw⟩ => ⟨he, n, hw.symm⟩
  | false =>
    have h := of_decide_eq_false hc
    exact (term_no x _ (by omega)).mono fun _ _ ⟨he, hw⟩ => ⟨he, n, hw.symm⟩
set_option maxHeartbeats 1000000 in
theorem impl_row (v : Value) (b : Int) (rows : List (List Int)) (out : List Int) (w : World) (h : LiesS w v b rows out) (i : Nat) (r : List Int) (x : Int) (hr : rows[i]? = some r) (hx : out[i]? = some x) :
    Calls Try.prog 50 #[v, .int .i64 i] w fun e w' => e = .returned (.bool (rowB b rows.length r x)) ∧ Below w.heap.size w w' := by
  obtain ⟨vn, vo, rfl, hn, ho⟩ := h
  have hB : Below w.heap.size w (w.alloc (Obj.cells #[Value.int .i64 b, vn, vo] 27)) := (Below.refl _ _).alloc (Nat.le_refl _) _
  have hC := Cells3.new w 27 (.int .i64 b) vn vo
  have hir := (List.getElem?_eq_some_iff.1 hr).1
  have hio := (List.getElem?_eq_some_iff.1 hx).1
  go_enter Try.func50, Try.ntmps50
  go_wp2_with fail
  obtain ⟨W, hW⟩ : ∃ W, W = w.alloc (Obj.cells #[Value.int .i64 b, vn, vo] 27) := ⟨_, rfl⟩
  rw [← hW] at hB hC ⊢
  obtain ⟨a, ca, rfl, hl, hc⟩ := (hn.below hB).row
  obtain ⟨hlo, ao, co, rfl, _, hco⟩ := ho.below hB
  obtain ⟨p, o, u, rfl, hcu, hlu⟩ := hc i r hr
  obtain ⟨hrl, a', ca', rfl, _, hcr⟩ := hlu
  obtain ⟨q, s, rfl, hcx⟩ := hco i x hx
  have HX := Lib.hid hcr
  have HB : Hid (∀ n, Below w.heap.size w (W.drewN n)) := fun n => below_drewN hB n
  have k0 := hC.c0
  have k1 := hC.c1
  have k2 := hC.c2
  clear hc hco hB hC hW hn ho hcr hr hx
  obtain ⟨z, hz⟩ : ∃ z, z = w.heap.size := ⟨_, rfl⟩
  rw [← hz] at k0 k1 k2 ⊢
  clear hz
  by_cases hb : (r.length : Int) = b
  · have HBE := Lib.hid hb
    have hd0 : ((r.length : Int) != b) = false := by rw [hb]; simp
    clear hb
    by_cases hx03 : 0 ≤ x ∧ x ≤ 3
    case neg =>
      have HE := Lib.hid (rowB_out (b := b) (n := rows.length) (r := r) (o := x) (by omega))
      have HNO := Lib.hid (show decide (0 ≤ x ∧ x ≤ 3) = false from decide_eq_false hx03)
      clear hx03
      go_quiet ((go_at_call 70; exact term_q HNO.out))
      go_wp2
      go_ret
      exact ⟨ret_b HE.out.symm, ends HB.out⟩
    case pos =>
        have HYES := Lib.hid (show decide (0 ≤ x ∧ x ≤ 3) = true from decide_eq_true hx03)
        obtain ⟨hx0, hx3⟩ := hx03
        go_quiet ((go_at_call 70; exact term_q HYES.out))
        go_wp2
        go_loopw [31] (fun k' wr => ∃ k : Nat, k ≤ r.length ∧ k' = .int .i64 k ∧ Hid (∀ (j : Nat) (x : Int), j < k → r[j]? = some x → 0 ≤ x ∧ x < (rows.length : Int)) ∧ ∃ n, wr = W.drewN n) (fun k' _ => r.length - (intOf k').toNat)
        case atStart => exact ⟨0, Nat.zero_le _, rfl, fun j x h => by omega, _, rfl⟩
        case round =>
          obtain ⟨k, hk, rfl, HK, m, rfl⟩ := hrel
          by_cases hlk : k < r.length
          · obtain ⟨y, hry⟩ : ∃ x, r[k]? = some x := ⟨_, List.getElem?_eq_getElem hlk⟩
            obtain ⟨g, t, rfl, hcy⟩ := HX.out k y hry
            have HY := Lib.hid hry
            clear hry
            by_cases hy0 : y < 0
            · have hd3 := decide_eq_true hy0
              have HE := Lib.hid (rowB_cell (b := b) (n := rows.length) (o := x) HY.out (.inl hy0))
              go_wp2
              go_ret
              exact ⟨ret_b HE.out.symm, ends HB.out⟩
            · by_cases hy1 : (rows.length : Int) ≤ y
              · have hd3 := decide_eq_false hy0
                have hd4 := decide_eq_true hy1
                have HE := Lib.hid (rowB_cell (b := b) (n := rows.length) (o := x) HY.out (.inr hy1))
                go_wp2
                go_ret
                exact ⟨ret_b HE.out.symm, ends HB.out⟩
              · have hd3 := decide_eq_false hy0
                have hd4 := decide_eq_false hy1
                have HN : Hid (∀ (j : Nat) (x : Int), j < k + 1 → r[j]? = some x → 0 ≤ x ∧ x < (rows.length : Int)) := fun j z hj hz => by
                  by_cases e : j = k
                  · subst e
                    obtain rfl := Option.some.inj (HY.out.symm.trans hz)
                    omega
                  · exact HK.out j z (by omega) hz
                go_wp2
                go_roundw
                case rel => exact ⟨k + 1, by omega, by go_num, HN, _, rfl⟩
                case measure => simp [intOf]; omega
          · have HE := Lib.hid (rowB_yes (n := rows.length) HBE.out (fun k' x hx => HK.out k' x (by have := (List.getElem?_eq_some_iff.1 hx).1; omega) hx) (show 0 ≤ x by omega) (by omega))
            go_wp2
            go_ret
            exact ⟨ret_b HE.out.symm, ends HB.out⟩
  · have HE := Lib.hid (rowB_len (n := rows.length) (o := x) hb)
    have hd0 : ((r.length : Int) != b) = true := by simpa using hb
    clear hb
    go_quiet (fail)
    go_wp2
    go_ret
    exact ⟨ret_b HE.out.symm, ends HB.out⟩
theorem impl_is_no (v : Value) (b : Int) (rows : List (List Int)) (out : List Int) (w : World) (h : LiesS w v b rows out) (hno : ¬ (2 ≤ b ∧ b ≤ 4 ∧ 1 ≤ rows.length ∧ rows.length ≤ 16 ∧ out.length = rows.length)) :
    Calls Try.prog 28 #[v] w fun e w' => e = .returned (.bool false) ∧ Below w.heap.size w w' := by
  obtain ⟨vn, vo, rfl, hn, ho⟩ := h
  obtain ⟨a, ca, rfl, hl, hc⟩ := hn.row
  obtain ⟨hlo, ao, co, rfl, _, hco⟩ := ho
  clear hc hco hn
  by_cases hb : 2 ≤ b ∧ b ≤ 4
  · obtain ⟨hb1, hb2⟩ := hb
    by_cases h1 : 1 ≤ rows.length
    · have hd1 := decide_eq_false (show ¬ (rows.length : Int) < 1 by omega)
      by_cases h2 : rows.length ≤ 16
      · have hd2 := decide_eq_false (show ¬ (rows.length : Int) > 16 by omega)
        have hd3 : ((out.length : Int) != (rows.length : Int)) = true := by simp; omega
        clear hno
        go_enter Try.func28, Try.ntmps28
        go_wp2_with fail
        refine (Digits.base_yes _ _ hb1 hb2).mono ?_
        rintro e w' ⟨rfl, rfl⟩
        go_wp2
        go_ret
        exact ⟨rfl, (Below.refl _ _).alloc (Nat.le_refl _) _⟩
      · have hd2 := decide_eq_true (show (rows.length : Int) > 16 by omega)
        clear hno
        go_enter Try.func28, Try.ntmps28
        go_wp2_with fail
        refine (Digits.base_yes _ _ hb1 hb2).mono ?_
        rintro e w' ⟨rfl, rfl⟩
        go_wp2
        go_ret
        exact ⟨rfl, (Below.refl _ _).alloc (Nat.le_refl _) _⟩
    · have hd1 := decide_eq_true (show (rows.length : Int) < 1 by omega)
      clear hno
      go_enter Try.func28, Try.ntmps28
      go_wp2_with fail
      refine (Digits.base_yes _ _ hb1 hb2).mono ?_
      rintro e w' ⟨rfl, rfl⟩
      go_wp2
      go_ret
      exact ⟨rfl, (Below.refl _ _).alloc (Nat.le_refl _) _⟩
  · have hno' : b < 2 ∨ 4 < b := by omega
    clear hno hb
    have HNO := Lib.hid hno'
    clear hno'
    go_enter Try.func28, Try.ntmps28
    go_wp2_with fail
    refine (Digits.base_no _ _ HNO.out).mono ?_
    rintro e w' ⟨rfl, rfl⟩
    go_wp2
    go_ret
    exact ⟨rfl, (Below.refl _ _).alloc (Nat.le_refl _) _⟩
set_option maxHeartbeats 1000000 in
theorem impl_is (v : Value) (b : Int) (rows : List (List Int)) (out : List Int) (w : World) (h : LiesS w v b rows out) :
    Calls Try.prog 28 #[v] w fun e w' => e = .returned (.bool (seqB b rows out)) ∧ Below w.heap.size w w' := by
  by_cases hp : 2 ≤ b ∧ b ≤ 4 ∧ 1 ≤ rows.length ∧ rows.length ≤ 16 ∧ out.length = rows.length
  · obtain ⟨hb1, hb2, h1, h2, h3⟩ := hp
    have HS := Lib.hid h
    obtain ⟨vn, vo, rfl, hn, ho⟩ := h
    have hB : Below w.heap.size w (w.alloc (Obj.cells #[Value.int .i64 b, vn, vo] 27)) := (Below.refl _ _).alloc (Nat.le_refl _) _
    have hC := Cells3.new w 27 (.int .i64 b) vn vo
    obtain ⟨a, ca, rfl, hl, hc⟩ := hn.row
    obtain ⟨hlo, ao, co, rfl, _, hco⟩ := ho
    have hd1 := decide_eq_false (show ¬ (rows.length : Int) < 1 by omega)
    have hd2 := decide_eq_false (show ¬ (rows.length : Int) > 16 by omega)
    have hd3 : ((out.length : Int) != (rows.length : Int)) = false := by rw [h3]; simp
    have H3 := Lib.hid h3
    have HB := Lib.hid hB
    have HC := Lib.hid hC
    clear hc hco hn h3 hB hC
    go_enter Try.func28, Try.ntmps28
    go_wp2_with fail
    refine (Digits.base_yes _ _ hb1 hb2).mono ?_
    rintro e w' ⟨rfl, rfl⟩
    go_wp2_with fail
    obtain ⟨z, hz⟩ : ∃ z, z = w.heap.size := ⟨_, rfl⟩
    rw [← hz] at HC ⊢
    have HZ := Lib.hid hz
    clear hz
    go_loopw [28] (fun i' wr => ∃ i : Nat, i ≤ rows.length ∧ i' = .int .i64 i ∧ Hid (∀ (j : Nat) (r : List Int) (o : Int), j < i → rows[j]? = some r → out[j]? = some o → rowB b rows.length r o = true) ∧ Hid (Cells3 wr z 27 (.int .i64 b) (.slice a rows.length ca) (.slice ao out.length co)) ∧ Hid (Below w.heap.size w wr)) (fun i' _ => rows.length - (intOf i').toNat)
    case atStart => exact ⟨0, Nat.zero_le _, rfl, fun j r o h => by omega, HC, HB⟩
    case round =>
      obtain ⟨i, hi, rfl, HI, HCi, HBi⟩ := hrel
      by_cases hlt : i < rows.length
      · obtain ⟨r, hr⟩ : ∃ r, rows[i]? = some r := ⟨_, List.getElem?_eq_getElem hlt⟩
        obtain ⟨x, hx⟩ : ∃ x, out[i]? = some x := ⟨_, List.getElem?_eq_getElem (by have := H3.out; omega)⟩
        have k0 := HCi.out.c0
        have k1 := HCi.out.c1
        have k2 := HCi.out.c2
        have HR := Lib.hid hr
        have HX := Lib.hid hx
        clear hr hx
        cases hrb : rowB b rows.length r x with
        | false =>
          have HF := Lib.hid (rowB_seq HR.out HX.out hrb)
          have HRB := Lib.hid hrb
          clear hrb
          go_wp2_with fail
          refine (impl_row _ b rows out _ (HS.out.below HBi.out) i r x HR.out HX.out).mono ?_
          rintro e W1 ⟨rfl, hb⟩
          have HB1 := Lib.hid (HBi.out.trans (hb.mono HBi.out.size))
          rw [HRB.out]
          clear hb
          go_wp2
          go_ret
          exact ⟨ret_b HF.out.symm, HB1.out⟩
        | true =>
          have HRB := Lib.hid hrb
          have HN : Hid (∀ (j : Nat) (r : List Int) (o : Int), j < i + 1 → rows[j]? = some r → out[j]? = some o → rowB b rows.length r o = true) := fun j r' o' hj hr' ho' => by
            by_cases e : j = i
            · subst e
              obtain rfl := Option.some.inj (HR.out.symm.trans hr')
              obtain rfl := Option.some.inj (HX.out.symm.trans ho')
              exact HRB.out
            · exact HI.out j r' o' (by omega) hr' ho'
          clear hrb
          go_wp2_with fail
          refine (impl_row _ b rows out _ (HS.out.below HBi.out) i r x HR.out HX.out).mono ?_
          rintro e W1 ⟨rfl, hb⟩
          have HB1 := Lib.hid (HBi.out.trans (hb.mono HBi.out.size))
          have HC1 := Lib.hid (HCi.out.below hb)
          rw [HRB.out]
          clear hb k0 k1 k2
          go_wp2
          go_roundw
          case rel => exact ⟨i + 1, by omega, by go_num, HN, HC1, HB1⟩
          case measure => simp [intOf]; omega
      · have HE := Lib.hid (seq_rows hb1 hb2 h1 h2 H3.out (fun j r o hr ho => HI.out j r o (by have := (List.getElem?_eq_some_iff.1 hr).1; omega) hr ho))
        go_wp2
        go_ret
        exact ⟨ret_b HE.out.symm, HBi.out⟩
  · rw [seqB_no fun hs => hp ⟨hs.1, hs.2.1, hs.2.2.1, hs.2.2.2.1, hs.2.2.2.2.1⟩]
    exact impl_is_no v b rows out w h hp
end Seqs
end Go.Proofs.Ytdgfecjakmdheaa
/- Append and slice literals inside a statement whose order is drawn, told of slices as lists. No conditions beyond those that each fact states. -/
namespace Go.Proofs.Ytdgfecjakmdheaa.Plain
open Go.RowKit
section
variable {α : Type} {enc : α → Value} {e : TypeId}
/-- Append inside a drawn region: onto a slice of the call's own, of any slice that reads as a list. -/
theorem step_append_list {P : Program} {ops : Array Oper} {o : Oper} {a : Act} {wx : World} {K : Act → World → Prop} {Q : Exit → Act → World → Prop} {E : Prop}
    (hgd : o.guard = none) (s x : Operand) (t : TypeId) (hop : o.op = Op.call { callee := Callee.builtin Builtin.append, args := #[s, x], argTypes := #[t, t] })
    (base : Nat) (i : TypeInfo) (z : Value) (bytes : Nat) (ht : P.underlying t = some (.slice e)) (hi : P.info? e = some i) (hz : i.zero = some z)
    (hsize : i.size = 1) (hby : i.bytes = bytes) (hzs : z.cells.size = 1)
    (v : Value) (xs : List α) (hs : a.eval s = v) (hown : Has enc e wx base v xs) (u : Value) (ys : List α) (hx : a.eval x = u) (hu : Lies enc wx u ys)
    (h1 : ∀ y ∈ ys, (enc y).oneCell' = true) (hbytes : (xs.length + ys.length) * bytes ≤ 140737488355328) (h63 : xs.length + ys.length ≤ 9223372036854775807) (hb2 : base ≤ wx.heap.size)
    (hK : ∀ v' w', Has enc e w' base v' (xs ++ ys) → wx.grownBy w' v.ownBlock → K (a.put o.dst v') w') :
    if Region.wanted o (yielded ops a.tmps) = true then Oper.wp P o a wx K Q else E := by
  have hw : Region.wanted o (yielded ops a.tmps) = true := by simp [Region.wanted, hgd]
  rw [if_pos hw]
  obtain ⟨hl, A, cap, rfl, hnone, hc⟩ := hu
  have hh : ∀ v' w', w'.ownsRow base e 1 v' (xs.length + ys.length) (xs.map enc ++ ys.map enc) → wx.grownBy w' v.ownBlock → K (a.put o.dst v') w' := by
    intro v' w' ho' hg'
    refine hK v' w' ?_ hg'
    show w'.ownsRow base e 1 v' _ _
    rw [List.length_append, List.map_append]
    exact ho'
  cases A with
  | none =>
    obtain rfl := hnone rfl
    have hy : ys = [] := by
      cases ys with
      | nil => rfl
      | cons y l => obtain ⟨_, _, h', _⟩ := hc 0 y rfl; cases h'
    subst hy
    have hrun := run_append_owned_none (P := P) (w := wx) base t o.type e i 1 ht hi v xs.length (xs.map enc) hown
    unfold Oper.wp
    simp only [List.length_nil] at hx
    simp [execOp, hop, resolve, invoke, builtin, hs, hx, hrun, Result.andThen]
    exact hh v wx (by simpa [Has] using hown) (World.grownBy.refl wx _)
  | some ad =>
    refine wp_append_own _ s x t hop base e i z 1 bytes ht hi hz hsize hby hzs (by decide) v xs.length (xs.map enc) hs hown ad ys.length cap (ys.map enc) hx (by simp) ?_ ?_ (by unfold maxLen; omega) hbytes hb2 (fun v' w' h1 h2 _ => hh v' w' h1 h2)
    · intro j y hj
      rw [List.getElem?_map, Option.map_eq_some_iff] at hj
      obtain ⟨x', hx', rfl⟩ := hj
      obtain ⟨b, off, he, hcell⟩ := hc j x' hx'
      obtain rfl := Option.some.inj he
      rw [addr_plus]
      exact hcell
    · intro y hy
      obtain ⟨x', hx', rfl⟩ := List.mem_map.1 hy
      exact h1 x' hx'
end
end Go.Proofs.Ytdgfecjakmdheaa.Plain
/- What stays of slices, rows and structs behind a draw, a new block, a write elsewhere; rows and a slice in intervals that do not meet. No conditions beyond those that each fact states. -/
namespace Go.Proofs.Ytdgfecjakmdheaa.Plain
open Go.RowKit
theorem with_fact {T G : Prop} (h : T) (k : T → G) : G := k h
section
variable {α : Type} {enc : α → Value} {e : TypeId} {w w1 : World} {v : Value} {xs : List α} {base : Nat}
theorem lies_drew (h : Lies enc w v xs) : Lies enc w.drew v xs := h.below (below_drew' w)
theorem lies_alloc (h : Lies enc w v xs) (o : Obj) : Lies enc (w.alloc o) v xs := h.below ((Below.refl _ _).alloc (Nat.le_refl _) _)
theorem has_drew (h : Has enc e w base v xs) : Has enc e w.drew base v xs := h.below (below_drew' w)
theorem has_alloc (h : Has enc e w base v xs) (o : Obj) : Has enc e (w.alloc o) base v xs := h.below ((Below.refl _ _).alloc (Nat.le_refl _) _)
/-- An empty slice literal that has just been laid, a literal of one element. -/
theorem has_lit0 {g : Nat} (hg : g = w.heap.size) (hb : base ≤ g) : Has enc e (w.alloc (.cells #[] e)) base (.slice (some ⟨g, 0, none⟩) 0 0) [] := by
  subst hg
  exact Has.lit (enc := enc) (e := e) w [] hb (by simp)
theorem lies_lit1 {g : Nat} (x : α) (hg : g = w.heap.size) : Lies enc (w.alloc (.cells #[enc x] e)) (.slice (some ⟨g, 0, none⟩) 1 1) [x] := by
  subst hg
  exact (Has.lit (enc := enc) (e := e) (base := w.heap.size) w [x] (Nat.le_refl _) (by simp)).lies
theorem has_lit1 {g : Nat} (x : α) (hg : g = w.heap.size) (hb : base ≤ g) : Has enc e (w.alloc (.cells #[enc x] e)) base (.slice (some ⟨g, 0, none⟩) 1 1) [x] := by
  subst hg
  exact Has.lit (enc := enc) (e := e) w [x] hb (by simp)
theorem lies_lit1v {w : World} {e : TypeId} {g : Nat} (x : Value) (hg : g = w.heap.size) : Lies id (w.alloc (.cells #[x] e)) (.slice (some ⟨g, 0, none⟩) 1 1) [x] := lies_lit1 (enc := id) x hg
theorem c3_of_below {w w' : World} {B b : Nat} {t : TypeId} {x y z : Value} (h : Below B w w') (hc : Cells3 w b t x y z) (hb : b < B) : Cells3 w' b t x y z := ⟨(h.block b hb).trans hc.row⟩
end
section
variable {w w1 : World} {b : Nat} {t : TypeId} {x y z : Value}
theorem c3_new' (h : b = w.heap.size) : Cells3 (w.alloc (.cells #[x, y, z] t)) b t x y z := by
  subst h
  exact Cells3.new w t x y z
theorem c3_drew (h : Cells3 w b t x y z) : Cells3 w.drew b t x y z := ⟨h.row⟩
theorem c3_all (h : Cells3 w b t x y z) : w.cell? ⟨b, 0, none⟩ = some x ∧ w.cell? ⟨b, 1, none⟩ = some y ∧ w.cell? ⟨b, 2, none⟩ = some z := ⟨h.c0, h.c1, h.c2⟩
/-- A slice's block and a struct's block are two, where their types are. -/
theorem has_ne_c3 {α : Type} {enc : α → Value} {e : TypeId} {v : Value} {xs : List α} {base : Nat} (h : Has enc e w base v xs) (hc : Cells3 w b t x y z) (hne : e ≠ t) : v.ownBlock ≠ some b := by
  rcases h.2 with ⟨rfl, _⟩ | ⟨g, cap, cur, rfl, _, hg, _⟩
  · intro h; cases h
  · intro h
    have e1 : g = b := by simpa [Value.ownBlock] using h
    subst e1
    rw [hc.row] at hg
    simp at hg
    exact hne hg.2.symm
end
theorem grown_alloc {w w1 : World} {o : Obj} {r : Option Nat} (h : (w.alloc o).grownBy w1 r) : w.grownBy w1 r := grown_trans' (World.grownBy_alloc w o r) h
theorem grown_drew {w w1 : World} {r : Option Nat} (h : w.drew.grownBy w1 r) : w.grownBy w1 r := ⟨h.os, h.tape, h.output, h.size, h.block⟩
theorem OwnI.grown {w w' : World} {lo hi : Nat} {v : Value} {xs : List Int} {r : Option Nat} (h : OwnI w lo hi v xs) (hg : w.grownBy w' r) (hr : ∀ k, r = some k → k < lo ∨ hi ≤ k) : OwnI w' lo hi v xs :=
  ⟨h.has.of_same fun k hk => hg.block k (h.has.lt k hk).2 (fun e => by have := h.range k hk; have := hr k e.symm; omega), h.lt, Nat.le_trans h.le hg.size⟩
/-- A write into a block that is not the slice's. -/
theorem OwnI.set {w : World} {lo hi : Nat} {v : Value} {xs : List Int} (h : OwnI w lo hi v xs) {a : Addr} (ha : v.ownBlock ≠ some a.block) (u : Value) : OwnI (w.setCell a u) lo hi v xs :=
  ⟨h.has.of_same fun k hk => by
    have : a.block ≠ k := fun e => ha (by rw [hk, e])
    simp [World.setCell, Array.getElem?_modify, this], h.lt, by simpa [World.setCell] using h.le⟩
theorem OwnRows.set {w : World} {lo hi : Nat} {us : List Value} {rows : List (List Int)} (h : OwnRows w lo hi us rows) {a : Addr} (ha : ∀ u ∈ us, u.ownBlock ≠ some a.block) (x : Value) : OwnRows (w.setCell a x) lo hi us rows :=
  ⟨h.len, fun i u r hu hr => (h.row i u r hu hr).set (ha u (List.mem_of_getElem? hu)) x, h.apart⟩
theorem Has.set {α : Type} {enc : α → Value} {e : TypeId} {w : World} {base : Nat} {v : Value} {xs : List α} (h : Has enc e w base v xs) {a : Addr} (ha : v.ownBlock ≠ some a.block) (u : Value) : Has enc e (w.setCell a u) base v xs :=
  h.of_same fun k hk => by
    have : a.block ≠ k := fun e => ha (by rw [hk, e])
    simp [World.setCell, Array.getElem?_modify, this]
/-- No row lies in a struct's block. -/
theorem OwnRows.ne_c3 {w : World} {lo hi : Nat} {us : List Value} {rows : List (List Int)} (h : OwnRows w lo hi us rows) {b : Nat} {t : TypeId} {x y z : Value} (hc : Cells3 w b t x y z) (hne : (3 : Nat) ≠ t) : ∀ u ∈ us, u.ownBlock ≠ some b := fun u hu => by
  obtain ⟨i, hi⟩ := List.getElem?_of_mem hu
  obtain ⟨r, hr⟩ : ∃ r, rows[i]? = some r := ⟨_, List.getElem?_eq_getElem (by rw [← h.len]; exact (List.getElem?_eq_some_iff.1 hi).1)⟩
  exact has_ne_c3 (h.row i u r hi hr).has hc hne
/-- A slice beside rows, in an interval that does not meet theirs. -/
theorem OwnRows.snoc_apart {w : World} {lo hi lo' hi' L H : Nat} {us : List Value} {rows : List (List Int)} {u : Value} {r : List Int} (h : OwnRows w lo hi us rows) (hu : OwnI w lo' hi' u r) (hd : hi ≤ lo' ∨ hi' ≤ lo) (h1 : L ≤ lo) (h2 : L ≤ lo') (h3 : hi ≤ H) (h4 : hi' ≤ H) (h5 : H ≤ w.heap.size) : OwnRows w L H (us ++ [u]) (rows ++ [r]) := by
  refine ⟨by simp [h.len], fun i x y hx hy => ?_, fun i j x x' hx hx' hij => ?_⟩
  · by_cases hi' : i < us.length
    · rw [List.getElem?_append_left hi'] at hx
      rw [List.getElem?_append_left (by rw [← h.len]; exact hi')] at hy
      exact (h.row i x y hx hy).mono h1 h3 h5
    · have e1 : i = us.length := by have := (List.getElem?_eq_some_iff.1 hx).1; simp at this; omega
      subst e1
      rw [List.getElem?_append_right (Nat.le_refl _)] at hx
      rw [h.len, List.getElem?_append_right (Nat.le_refl _)] at hy
      simp at hx hy
      subst hx; subst hy
      exact hu.mono h2 h4 h5
  · have old : ∀ (i : Nat) (x : Value), us[i]? = some x → ∀ k, x.ownBlock = some k → lo ≤ k ∧ k < hi := fun i x hx k hk => by
      obtain ⟨r', hr'⟩ : ∃ r', rows[i]? = some r' := ⟨_, List.getElem?_eq_getElem (by rw [← h.len]; exact (List.getElem?_eq_some_iff.1 hx).1)⟩
      exact (h.row i x r' hx hr').range k hk
    have new : ∀ k, u.ownBlock = some k → lo' ≤ k ∧ k < hi' := fun k hk => hu.range k hk
    have at_ : ∀ (i : Nat) (x : Value), (us ++ [u])[i]? = some x → (i < us.length ∧ us[i]? = some x) ∨ (i = us.length ∧ x = u) := fun i x hx => by
      by_cases hi' : i < us.length
      · rw [List.getElem?_append_left hi'] at hx
        exact .inl ⟨hi', hx⟩
      · have e1 : i = us.length := by have := (List.getElem?_eq_some_iff.1 hx).1; simp at this; omega
        subst e1
        rw [List.getElem?_append_right (Nat.le_refl _)] at hx
        simp at hx
        exact .inr ⟨rfl, hx.symm⟩
    rcases at_ i x hx with ⟨h1, h2⟩ | ⟨h1, rfl⟩ <;> rcases at_ j x' hx' with ⟨h3, h4⟩ | ⟨h3, rfl⟩
    · exact h.apart i j x x' h2 h4 hij
    · cases hb : x.ownBlock with
      | none => exact .inl rfl
      | some k =>
        refine .inr fun e => ?_
        have := old i x h2 k hb
        have := new k e.symm
        omega
    · cases hb : x.ownBlock with
      | none => exact .inl rfl
      | some k =>
        refine .inr fun e => ?_
        have := old j x' h4 k e.symm
        have := new k hb
        omega
    · omega
/-- A sequence whose terms were laid ahead of its rows. -/
theorem OwnS.make_out {w : World} {base lo mid hi : Nat} {vn vo : Value} {us : List Value} {b : Int} {rows : List (List Int)} {out : List Int} (ho : OwnI w lo mid vo out) (h : OwnR w mid hi vn us rows) (h0 : base ≤ lo) (h1 : lo ≤ mid) (h2 : mid ≤ hi) :
    OwnS w base hi (.agg #[.int .i64 b, vn, vo]) b rows out :=
  ⟨vn, vo, us, rfl, ⟨h.top.mono (Nat.le_trans h0 h1), h.lt, h.le, h.rows.lower (Nat.le_trans h0 h1)⟩, h.rows.snoc_apart ho (.inr (Nat.le_refl _)) (Nat.le_trans h0 h1) h0 (Nat.le_refl _) h2 h.le⟩
end Go.Proofs.Ytdgfecjakmdheaa.Plain
/- Append told with the block that the result lies in; the terms of a sequence kept ahead of its rows while both grow. No conditions beyond those that each fact states. -/
namespace Go.Proofs.Ytdgfecjakmdheaa.Plain
open Go.RowKit
/-- The result of an append lies where the slice lay, or in a new block. -/
theorem append_block {P : Program} {w : World} {base : Nat} {t ty e : TypeId} {i : TypeInfo} {z : Value} {bytes : Nat} (ht : P.underlying t = some (.slice e)) (hi : P.info? e = some i) (hz : i.zero = some z)
    (hsize : i.size = 1) (hby : i.bytes = bytes) (hzs : z.cells.size = 1) {v : Value} {n : Nat} {xs : List Value} (hown : w.ownsRow base e 1 v n xs)
    {a : Addr} {m c : Nat} {news : List Value} (hl : news.length = m * 1) (hnews : ∀ j u, news[j]? = some u → w.cell? (a.add j) = some u) (h1 : ∀ u ∈ news, u.oneCell' = true)
    (h63 : n + m ≤ maxLen) (hbytes : (n + m) * bytes ≤ 140737488355328) {v' : Value} {w' : World} (hr : (Builtin.append_ #[t, t] ty #[v, .slice (some a) m c]).run P w = .ok v' w') :
    ∀ k, v'.ownBlock = some k → v.ownBlock = some k ∨ w.heap.size ≤ k := by
  intro k hk
  rcases hown.2 with ⟨rfl, rfl⟩ | ⟨g, cap, cur, rfl, hbg, hg, hnc, hcm, hcs, htake⟩
  · obtain ⟨v1, w1, hr1, ho1, _⟩ := run_append_own (P := P) w w.heap.size t ty e i z 1 bytes ht hi hz hsize hby hzs (by decide) (.slice none 0 0) 0 [] (World.ownsRow_nil w w.heap.size e 1) a m c news hl hnews h1 h63 hbytes (Nat.le_refl _)
    rw [hr] at hr1
    injection hr1 with e1 e2
    subst e1; subst e2
    exact .inr (World.ownsRow.lt ho1 k hk).1
  · by_cases hroom : n + m ≤ cap
    · have hfit : n * i.size + news.length ≤ cur.size := by rw [hl, hcs, hsize]; omega
      have hr2 := run_append_room (P := P) w t ty e i ht hi g n cap cur hg a m c news (by rw [hsize]; exact hl) hnews h1 hroom hfit
      rw [hr] at hr2
      injection hr2 with e1 e2
      subst e1
      exact .inl hk
    · have holds : ∀ j u, xs[j]? = some u → w.cell? ((⟨g, 0, none⟩ : Addr).add j) = some u := hown.cells (g := g) rfl
      have hr2 := run_append_grow (P := P) w t ty e i z ht hi hz ⟨g, 0, none⟩ n cap xs (by rw [hsize]; exact hown.1) holds a m c news (by rw [hsize]; exact hl) hnews (by omega) (by unfold maxLen at h63; omega) (growslice_fits (by omega) (by rw [hby]; exact hbytes))
      rw [hr] at hr2
      injection hr2 with e1 e2
      subst e1
      exact .inr (by have e2 : w.heap.size = k := Option.some.inj hk
                     omega)
section
variable {α : Type} {enc : α → Value} {e : TypeId}
/-- step_append_list, told also where the result lies. -/
theorem step_append_at_list {P : Program} {ops : Array Oper} {o : Oper} {a : Act} {wx : World} {K : Act → World → Prop} {Q : Exit → Act → World → Prop} {E : Prop}
    (hgd : o.guard = none) (s x : Operand) (t : TypeId) (hop : o.op = Op.call { callee := Callee.builtin Builtin.append, args := #[s, x], argTypes := #[t, t] })
    (base : Nat) (i : TypeInfo) (z : Value) (bytes : Nat) (ht : P.underlying t = some (.slice e)) (hi : P.info? e = some i) (hz : i.zero = some z)
    (hsize : i.size = 1) (hby : i.bytes = bytes) (hzs : z.cells.size = 1)
    (v : Value) (xs : List α) (hs : a.eval s = v) (hown : Has enc e wx base v xs) (u : Value) (ys : List α) (hx : a.eval x = u) (hu : Lies enc wx u ys)
    (h1 : ∀ y ∈ ys, (enc y).oneCell' = true) (hbytes : (xs.length + ys.length) * bytes ≤ 140737488355328) (h63 : xs.length + ys.length ≤ 9223372036854775807) (hb2 : base ≤ wx.heap.size)
    (hK : ∀ v' w', Has enc e w' base v' (xs ++ ys) → wx.grownBy w' v.ownBlock → (∀ k, v'.ownBlock = some k → v.ownBlock = some k ∨ wx.heap.size ≤ k) → K (a.put o.dst v') w') :
    if Region.wanted o (yielded ops a.tmps) = true then Oper.wp P o a wx K Q else E := by
  have hw : Region.wanted o (yielded ops a.tmps) = true := by simp [Region.wanted, hgd]
  rw [if_pos hw]
  obtain ⟨hl, A, cap, rfl, hnone, hc⟩ := hu
  have hh : ∀ v' w', w'.ownsRow base e 1 v' (xs.length + ys.length) (xs.map enc ++ ys.map enc) → wx.grownBy w' v.ownBlock → (∀ k, v'.ownBlock = some k → v.ownBlock = some k ∨ wx.heap.size ≤ k) → K (a.put o.dst v') w' := by
    intro v' w' ho' hg' hb'
    refine hK v' w' ?_ hg' hb'
    show w'.ownsRow base e 1 v' _ _
    rw [List.length_append, List.map_append]
    exact ho'
  cases A with
  | none =>
    obtain rfl := hnone rfl
    have hy : ys = [] := by
      cases ys with
      | nil => rfl
      | cons y l => obtain ⟨_, _, h', _⟩ := hc 0 y rfl; cases h'
    subst hy
    have hrun := run_append_owned_none (P := P) (w := wx) base t o.type e i 1 ht hi v xs.length (xs.map enc) hown
    unfold Oper.wp
    simp only [List.length_nil] at hx
    simp [execOp, hop, resolve, invoke, builtin, hs, hx, hrun, Result.andThen]
    exact hh v wx (by simpa [Has] using hown) (World.grownBy.refl wx _) (fun k hk => .inl hk)
  | some ad =>
    have hnews : ∀ j u, (ys.map enc)[j]? = some u → wx.cell? (ad.add j) = some u := by
      intro j y hj
      rw [List.getElem?_map, Option.map_eq_some_iff] at hj
      obtain ⟨x', hx', rfl⟩ := hj
      obtain ⟨b, off, he, hcell⟩ := hc j x' hx'
      obtain rfl := Option.some.inj he
      rw [addr_plus]
      exact hcell
    have hone : ∀ u ∈ ys.map enc, u.oneCell' = true := by
      intro y hy
      obtain ⟨x', hx', rfl⟩ := List.mem_map.1 hy
      exact h1 x' hx'
    obtain ⟨v', w', hr, h2, h3, _⟩ := run_append_own (P := P) wx base t o.type e i z 1 bytes ht hi hz hsize hby hzs (by decide) v xs.length (xs.map enc) hown ad ys.length cap (ys.map enc) (by simp) hnews hone (by unfold maxLen; omega) hbytes hb2
    have hblk := append_block ht hi hz hsize hby hzs hown (by simp) hnews hone (by unfold maxLen; omega) hbytes hr
    unfold Oper.wp execOp
    simp only [hop, resolve, invoke, builtin, Sem.run_bind, Sem.run_pure, Result.andThen_ok, List.map_toArray, List.map_cons, List.map_nil, hs, hx, hr]
    exact hh v' w' h2 h3 hblk
end
section
variable {α : Type} {enc : α → Value} {e : TypeId}
/-- Append as a statement in a fixed order. -/
theorem wpList_append_list {P : Program} {w : World} {ops : Array Oper} {rest : List Oper} {o : Oper} {a : Act} {Q : Exit → Act → World → Prop} (hgd : o.guard = none) (s x : Operand) (t : TypeId)
    (ho : o.op = .call { callee := .builtin .append, args := #[s, x], argTypes := #[t, t] })
    (base : Nat) (i : TypeInfo) (z : Value) (bytes : Nat) (ht : P.underlying t = some (.slice e)) (hi : P.info? e = some i) (hz : i.zero = some z)
    (hsize : i.size = 1) (hby : i.bytes = bytes) (hzs : z.cells.size = 1)
    (v : Value) (xs : List α) (hs : a.eval s = v) (hown : Has enc e w base v xs) (u : Value) (ys : List α) (hx : a.eval x = u) (hu : Lies enc w u ys)
    (h1 : ∀ y ∈ ys, (enc y).oneCell' = true) (hbytes : (xs.length + ys.length) * bytes ≤ 140737488355328) (h63 : xs.length + ys.length ≤ 9223372036854775807) (hb2 : base ≤ w.heap.size)
    (h : ∀ v' w', Has enc e w' base v' (xs ++ ys) → w.grownBy w' v.ownBlock → (∀ k, v'.ownBlock = some k → v.ownBlock = some k ∨ w.heap.size ≤ k) → wpList P ops Q rest (a.put o.dst v') w') :
    wpList P ops Q (o :: rest) a w :=
  wpList_plain hgd fun K hK => by
    have hh := step_append_at_list (ops := ops) (E := True) (K := K) (Q := Q) hgd s x t ho base i z bytes ht hi hz hsize hby hzs v xs hs hown u ys hx hu h1 hbytes h63 hb2 (fun v' w' k1 k2 k3 => hK _ _ (h v' w' k1 k2 k3))
    rw [if_pos (by simp [Region.wanted, hgd])] at hh
    exact hh
end
/-- The head's slice has grown: it lies where it lay, or in a new block. -/
theorem OwnRows.head_grown {w w' : World} {lo hi base : Nat} {vo vo' : Value} {us : List Value} {out out' : List Int} {rows : List (List Int)} (h : OwnRows w lo hi (vo :: us) (out :: rows)) (ho : Has (Value.int .i64) 3 w' base vo' out') (hlo : lo ≤ base) (hle : hi ≤ w.heap.size)
    (hg : w.grownBy w' vo.ownBlock) (hb : ∀ k, vo'.ownBlock = some k → vo.ownBlock = some k ∨ w.heap.size ≤ k) : OwnRows w' lo w'.heap.size (vo' :: us) (out' :: rows) := by
  have hlen := h.len
  have hold : ∀ (i : Nat) (u : Value), us[i]? = some u → ∃ r, rows[i]? = some r ∧ OwnI w lo hi u r := fun i u hu => by
    obtain ⟨r, hr⟩ : ∃ r, rows[i]? = some r := ⟨_, List.getElem?_eq_getElem (by simp at hlen; rw [← hlen]; exact (List.getElem?_eq_some_iff.1 hu).1)⟩
    exact ⟨r, hr, h.row (i + 1) u r (by simpa using hu) (by simpa using hr)⟩
  have hne : ∀ (i : Nat) (u : Value), us[i]? = some u → u.ownBlock = none ∨ u.ownBlock ≠ vo.ownBlock := fun i u hu => h.apart (i + 1) 0 u vo (by simpa using hu) rfl (by omega)
  have hnew : ∀ (i : Nat) (u : Value), us[i]? = some u → ∀ k, u.ownBlock = some k → vo'.ownBlock ≠ some k := fun i u hu k hk e => by
    obtain ⟨r, _, hI⟩ := hold i u hu
    have h1 := hI.lt k hk
    rcases hb k e with h2 | h2
    · rcases hne i u hu with h3 | h3
      · rw [hk] at h3; cases h3
      · exact h3 (by rw [hk, h2])
    · omega
  refine ⟨by simpa using hlen, fun i u r hu hr => ?_, fun i j u u' hu hu' hij => ?_⟩
  · cases i with
    | zero =>
      simp at hu hr
      subst hu; subst hr
      exact ⟨ho.mono hlo, fun k hk => (ho.lt k hk).2, Nat.le_refl _⟩
    | succ i =>
      simp at hu hr
      have hI := h.row (i + 1) u r (by simpa using hu) (by simpa using hr)
      exact ⟨hI.has.of_same fun k hk => hg.block k (hI.has.lt k hk).2 (fun e => by
        rcases hne i u hu with h3 | h3
        · rw [hk] at h3; cases h3
        · exact h3 (by rw [hk, e])), fun k hk => Nat.lt_of_lt_of_le (hI.lt k hk) (Nat.le_trans hle hg.size), Nat.le_refl _⟩
  · cases i with
    | zero =>
      cases j with
      | zero => omega
      | succ j =>
        simp at hu hu'
        subst hu
        cases hk : vo'.ownBlock with
        | none => exact .inl rfl
        | some k => exact .inr fun e => hnew j u' hu' k e.symm hk
    | succ i =>
      cases j with
      | zero =>
        simp at hu hu'
        subst hu'
        cases hk : u.ownBlock with
        | none => exact .inl rfl
        | some k => exact .inr fun e => hnew i u hu k hk e.symm
      | succ j =>
        simp at hu hu'
        exact h.apart (i + 1) (j + 1) u u' (by simpa using hu) (by simpa using hu') (by omega)
/-- The head goes to the end. -/
theorem OwnRows.rotate {w : World} {lo hi : Nat} {vo : Value} {us : List Value} {out : List Int} {rows : List (List Int)} (h : OwnRows w lo hi (vo :: us) (out :: rows)) : OwnRows w lo hi (us ++ [vo]) (rows ++ [out]) := by
  have hlen : us.length = rows.length := by simpa using h.len
  have key : ∀ (i : Nat) (x : Value), (us ++ [vo])[i]? = some x → ∃ j, (vo :: us)[j]? = some x ∧ (i < us.length ∧ j = i + 1 ∨ i = us.length ∧ j = 0) := fun i x hx => by
    by_cases hi' : i < us.length
    · rw [List.getElem?_append_left hi'] at hx
      exact ⟨i + 1, by simpa using hx, .inl ⟨hi', rfl⟩⟩
    · have e1 : i = us.length := by have := (List.getElem?_eq_some_iff.1 hx).1; simp at this; omega
      subst e1
      rw [List.getElem?_append_right (Nat.le_refl _)] at hx
      exact ⟨0, by simpa using hx, .inr ⟨rfl, rfl⟩⟩
  refine ⟨by simp [hlen], fun i u r hu hr => ?_, fun i j u u' hu hu' hij => ?_⟩
  · obtain ⟨j, hj, ⟨h1, rfl⟩ | ⟨rfl, rfl⟩⟩ := key i u hu
    · rw [List.getElem?_append_left (by omega)] at hr
      exact h.row (i + 1) u r hj (by simpa using hr)
    · rw [hlen, List.getElem?_append_right (Nat.le_refl _)] at hr
      exact h.row 0 u r hj (by simpa using hr)
  · obtain ⟨i1, hi1, c1⟩ := key i u hu
    obtain ⟨j1, hj1, c2⟩ := key j u' hu'
    exact h.apart i1 j1 u u' hi1 hj1 (by omega)
/-- A sequence out of its rows and its terms, the terms told first. -/
theorem OwnS.make_head {w : World} {base : Nat} {vn vo : Value} {us : List Value} {b : Int} {rows : List (List Int)} {out : List Int} (ht : Has id 25 w base vn us) (h : OwnRows w base w.heap.size (vo :: us) (out :: rows)) :
    OwnS w base w.heap.size (.agg #[.int .i64 b, vn, vo]) b rows out := by
  refine ⟨vn, vo, us, rfl, ⟨ht, fun k hk => (ht.lt k hk).2, Nat.le_refl _, ⟨by simpa using h.len, fun i u r hu hr => h.row (i + 1) u r (by simpa using hu) (by simpa using hr), fun i j u u' hu hu' hij => h.apart (i + 1) (j + 1) u u' (by simpa using hu) (by simpa using hu') (by omega)⟩⟩, h.rotate⟩
theorem OwnRows.one {w : World} {lo hi : Nat} {v : Value} {xs : List Int} (h : OwnI w lo hi v xs) : OwnRows w lo hi [v] [xs] :=
  ⟨rfl, fun i u r hu hr => by
    cases i with
    | zero => simp at hu hr; subst hu; subst hr; exact h
    | succ i => simp at hu, fun i j u u' hu hu' hij => by
    cases i with
    | zero => cases j with
      | zero => omega
      | succ j => simp at hu'
    | succ i => simp at hu⟩
theorem own_of_has {w : World} {base : Nat} {v : Value} {xs : List Int} (h : Has (Value.int .i64) 3 w base v xs) : OwnI w base w.heap.size v xs := ⟨h, fun k hk => (h.lt k hk).2, Nat.le_refl _⟩
theorem own_pair {w : World} {lo mid : Nat} {v vo : Value} {xs ys : List Int} (h1 : OwnI w lo mid v xs) (h2 : OwnI w mid w.heap.size vo ys) (h3 : lo ≤ mid) (h4 : mid ≤ w.heap.size) : OwnRows w lo w.heap.size [vo, v] [ys, xs] :=
  ((OwnRows.one h1).snoc h2 h3 h4).rotate
theorem has_lit1v {w : World} {e : TypeId} {base g : Nat} (x : Value) (hg : g = w.heap.size) (hb : base ≤ g) : Has id e (w.alloc (.cells #[x] e)) base (.slice (some ⟨g, 0, none⟩) 1 1) [x] := has_lit1 (enc := id) x hg hb
theorem below_allocs {a w : World} {o : Obj} (h : Below a.heap.size a w) : Below a.heap.size a (w.alloc o) := h.alloc h.size o
theorem grown_below2 {w w1 : World} {B : Nat} (h : w.grownBy w1 (some w.heap.size) ∨ w.grownBy w1 (some (w.heap.size + 1))) (hB : B ≤ w.heap.size) : Below B w w1 := by
  rcases h with h | h
  · exact (Below.refl B w).grown h hB (fun k hk => by cases hk; exact hB)
  · exact (Below.refl B w).grown h hB (fun k hk => by cases hk; omega)
/-- A row that is not empty: its slice's cell and its own cells. -/
theorem row_at {w : World} {pa off n cn : Nat} {rows : List (List Int)} (h : LiesR w (.slice (some ⟨pa, off, none⟩) n cn) rows) {i : Nat} {r : List Int} (hr : rows[i]? = some r) (hne : 0 < r.length) :
    ∃ q s c, w.cell? ⟨pa, off + i, none⟩ = some (.slice (some ⟨q, s, none⟩) r.length c) ∧ (∀ (k : Nat) (x : Int), r[k]? = some x → w.cell? ⟨q, s + k, none⟩ = some (.int .i64 x)) ∧ pa < w.heap.size ∧ q < w.heap.size := by
  obtain ⟨a, cap, hv, _, hc⟩ := h.row
  obtain ⟨b, o, u, h1, h2, _, a', c', rfl, _, h3⟩ := hc i r hr
  injection hv with e1 e2 e3
  rw [← e1] at h1
  injection h1 with h1
  injection h1 with h1 h4
  subst h1; subst h4
  obtain ⟨q, s, rfl, h5⟩ := h3 0 _ (List.getElem?_eq_getElem hne)
  refine ⟨q, s, c', h2, fun k x hx => ?_, World.block_lt_of_cell? w _ h2, World.block_lt_of_cell? w _ h5⟩
  obtain ⟨q', s', h6, h7⟩ := h3 k x hx
  injection h6 with h6
  injection h6 with h6 h8
  subst h6; subst h8
  exact h7
theorem Touch.of_grown_none {w w1 : World} (h : w.grownBy w1 none) : Plain.Touch 0 0 w w1 := ⟨h.os, h.tape, h.output, h.size, fun k hk _ => h.block k hk (by simp)⟩
end Go.Proofs.Ytdgfecjakmdheaa.Plain
/- Contracts of ReachedStates, of the program and of the model. No conditions beyond those that each states. -/
namespace Go.Proofs.Ytdgfecjakmdheaa
open Go.ChangeShapes Go.WideShapes Go.ChangeAt Go.RowKit
open Go.PlainAid Plain
set_option linter.unusedVariables false
namespace Mins
open Seqs
/-- Does the list hold the number? -/
def inB (x : Int) (xs : List Int) : Bool := decide (x ∈ xs)
theorem inB_yes {x : Int} {xs : List Int} (h : x ∈ xs) : inB x xs = true := decide_eq_true h
theorem inB_no {x : Int} {xs : List Int} (h : x ∉ xs) : inB x xs = false := decide_eq_false h
theorem inB_at {x y : Int} {xs : List Int} {k : Nat} (h : xs[k]? = some y) (e : y = x) : inB x xs = true := inB_yes (e ▸ List.mem_of_getElem? h)
theorem inB_none {x : Int} {xs : List Int} (h : ∀ (j : Nat) (y : Int), xs[j]? = some y → ¬ y = x) : inB x xs = false := inB_no fun hm => by
  obtain ⟨j, hj⟩ := List.getElem?_of_mem hm
  exact h j x hj rfl
/-- A slice of ints that is not empty: its cells. -/
theorem ints_at {w : World} {v : Value} {xs : List Int} (h : Lies (Value.int .i64) w v xs) (hp : 0 < xs.length) : ∃ q s c, v = .slice (some ⟨q, s, none⟩) xs.length c ∧ ∀ (k : Nat) (x : Int), xs[k]? = some x → w.cell? ⟨q, s + k, none⟩ = some (.int .i64 x) := by
  obtain ⟨_, a, c, rfl, _, hc⟩ := h
  obtain ⟨q, s, rfl, _⟩ := hc 0 _ (List.getElem?_eq_getElem hp)
  refine ⟨q, s, c, rfl, fun k x hx => ?_⟩
  obtain ⟨q', s', h1, h2⟩ := hc k x hx
  injection h1 with h1
  injection h1 with h1 h3
  subst h1; subst h3
  exact h2
theorem impl_has (v : Value) (xs : List Int) (x : Int) (w : World) (h : Lies (Value.int .i64) w v xs) (c : Bool) (hc : inB x xs = c) :
    Calls Try.prog 77 #[v, .int .i64 x] w fun e w' => e = .returned (.bool c) ∧ w = w' := by
  have hin : xs.contains x = c := by rw [← hc, inB, List.contains_eq_mem]
  rcases Nat.eq_zero_or_pos xs.length with h0 | h0
  · have hx : xs = [] := List.eq_nil_of_length_eq_zero h0
    subst hx
    obtain ⟨_, a, ca, rfl, _, _⟩ := h
    exact (Try.slices_Contains_int_empty a ca x w).mono fun _ _ ⟨he, hw⟩ => ⟨by rw [he, ← hin]; rfl, hw.symm⟩
  · obtain ⟨q, s, c', rfl, hcl⟩ := ints_at h h0
    refine (Try.slices_Contains_int q s xs.length c' xs x w (Nat.le_refl _) h.1 (fun j hj => ?_)).mono fun _ _ ⟨he, hw⟩ => ⟨?_, hw.symm⟩
    · rw [hcl j _ (List.getElem?_eq_getElem hj), List.getD_eq_getElem?_getD, List.getElem?_eq_getElem hj]
      rfl
    · rw [he, List.take_length, hin]
theorem old_cell {w w' : World} {p o : Nat} {u : Value} (hb : Below w.heap.size w w') (h : w.cell? ⟨p, o, none⟩ = some u) : w'.cell? ⟨p, o, none⟩ = some u := (hb.cell (p := ⟨p, o, none⟩) (World.block_lt_of_cell? w _ h)).trans h
/-- A row of a sequence that is not empty: its slice's cell and its own cells. -/
theorem seq_row {w : World} {b : Int} {rows : List (List Int)} {out : List Int} {an ao : Option Addr} {cn co : Nat} (h : LiesS w (.agg #[.int .i64 b, .slice an rows.length cn, .slice ao out.length co]) b rows out) {i : Nat} {r : List Int} (hr : rows[i]? = some r) (hp : 0 < r.length) :
    ∃ pa off, an = some ⟨pa, off, none⟩ ∧ ∃ q s c, w.cell? ⟨pa, off + i, none⟩ = some (.slice (some ⟨q, s, none⟩) r.length c) ∧ ∀ (k : Nat) (x : Int), r[k]? = some x → w.cell? ⟨q, s + k, none⟩ = some (.int .i64 x) := by
  obtain ⟨p, o, a', c', h1, h2, h3⟩ := h.cells.1 i r hr
  obtain ⟨q, s, rfl, _⟩ := h3 0 _ (List.getElem?_eq_getElem hp)
  refine ⟨p, o, h1, q, s, c', h2, fun k x hx => ?_⟩
  obtain ⟨q', s', h4, h5⟩ := h3 k x hx
  injection h4 with h4
  injection h4 with h4 h6
  subst h4; subst h6
  exact h5
theorem four_cells {w w' : World} {a0 b0 a1 b1 a2 b2 a3 b3 : Nat} {u0 u1 u2 u3 : Value} (hb : Below w.heap.size w w') (h0 : w.cell? ⟨a0, b0, none⟩ = some u0) (h1 : w.cell? ⟨a1, b1, none⟩ = some u1) (h2 : w.cell? ⟨a2, b2, none⟩ = some u2) (h3 : w.cell? ⟨a3, b3, none⟩ = some u3) :
    w'.cell? ⟨a0, b0, none⟩ = some u0 ∧ w'.cell? ⟨a1, b1, none⟩ = some u1 ∧ w'.cell? ⟨a2, b2, none⟩ = some u2 ∧ w'.cell? ⟨a3, b3, none⟩ = some u3 := ⟨old_cell hb h0, old_cell hb h1, old_cell hb h2, old_cell hb h3⟩
theorem take_snoc' {xs : List Int} {k : Nat} {x : Int} (h : xs[k]? = some x) : xs.take (k + 1) = xs.take k ++ [x] := by
  obtain ⟨hk, rfl⟩ := List.getElem?_eq_some_iff.1 h
  exact List.take_succ_eq_append_getElem hk
theorem addAll_old {l xs : List Int} {k : Nat} {x : Int} (h : xs[k]? = some x) (hm : x ∈ addAll l (xs.take k)) : addAll l (xs.take (k + 1)) = addAll l (xs.take k) := by
  rw [take_snoc' h, addAll_snoc, addTo_in hm]
theorem addAll_new {l xs : List Int} {k : Nat} {x : Int} (h : xs[k]? = some x) (hm : x ∉ addAll l (xs.take k)) : addAll l (xs.take (k + 1)) = addAll l (xs.take k) ++ [x] := by
  rw [take_snoc' h, addAll_snoc, addTo_new hm]
/-- What a round of the search starts from. -/
theorem round_facts {b : Int} {rows : List (List Int)} {out : List Int} (hv : IsSeq b rows out) {i : Nat} (hi : i < (reachI rows i).length) :
    ∃ (sn : Nat) (r : List Int), (reachI rows i)[i]? = some (sn : Int) ∧ sn < rows.length ∧ rows[sn]? = some r ∧ (r.length : Int) = b ∧ 0 < r.length ∧ r.length ≤ 4 ∧ (∀ x ∈ r, 0 ≤ x ∧ x < (rows.length : Int)) ∧ reachI rows (i + 1) = addAll (reachI rows i) r ∧ i < rows.length ∧ rows.length ≤ 16 := by
  have hc := hv.closed
  have h1 : (reachI rows i)[i]? = some (reachI rows i)[i] := List.getElem?_eq_getElem hi
  have h2 := (reachI_ok hc i).2 _ (List.getElem_mem hi)
  have h3 := rowOf_get h2.1 h2.2
  have h4 := hv.2.2.2.2.2.1 _ (rowOf_mem h2.1 h2.2)
  have h5 := hv.1
  have h6 := hv.2.1
  have h7 := reachI_len hc i
  refine ⟨(reachI rows i)[i].toNat, rowOf rows (reachI rows i)[i], by rw [h1]; congr 1; omega, by omega, h3, h4.1, by omega, by omega, h4.2, reachI_step h1, by omega, hv.2.2.2.1⟩
/-- What stands in the middle of a round. -/
theorem mid_facts {rows : List (List Int)} (hc : Closed rows) {i k : Nat} {r : List Int} (hr : ∀ x ∈ r, 0 ≤ x ∧ x < (rows.length : Int)) (hi : i < (reachI rows i).length) :
    (addAll (reachI rows i) (r.take k)).length ≤ rows.length ∧ i < (addAll (reachI rows i) (r.take k)).length := by
  refine ⟨nodup_bounded _ _ (addAll_nodup _ _ (reachI_ok hc i).1) fun x hx => ?_, ?_⟩
  · rcases (mem_addAll _ _ _).1 hx with h | h
    · exact (reachI_ok hc i).2 x h
    · exact hr x (List.mem_of_mem_take h)
  · exact Nat.lt_of_lt_of_le hi (addAll_prefix _ _).length_le

theorem impl_reach_no (v : Value) (b : Int) (rows : List (List Int)) (out : List Int) (w : World) (h : LiesS w v b rows out) (hq : seqB b rows out = false) :
    Calls Try.prog 72 #[v] w (Gives (Value.int .i64) 3 [] w) := by
  have HS := Lib.hid h
  obtain ⟨an, cn, ao, co, rfl⟩ := h.form
  clear h
  have HB : Hid (Below w.heap.size w (w.alloc (Obj.cells #[Value.int .i64 b, Value.slice an rows.length cn, Value.slice ao out.length co] 27))) := (Below.refl _ _).alloc (Nat.le_refl _) _
  have HC := Lib.hid (Cells3.new w 27 (.int .i64 b) (.slice an rows.length cn) (.slice ao out.length co))
  have HQ := Lib.hid hq
  have k0 := HC.out.c0
  have k1 := HC.out.c1
  have k2 := HC.out.c2
  clear hq HC
  go_enter Try.func72, Try.ntmps72
  go_wp2_with fail
  refine (impl_is _ b rows out _ (HS.out.below HB.out)).mono ?_
  rintro e W1 ⟨rfl, b1⟩
  rw [HQ.out]
  have HB3 := Lib.hid (HB.out.trans (b1.mono HB.out.size))
  clear b1
  go_wp2
  go_ret
  exact ⟨_, rfl, World.ownsRow_nil _ _ _ _, HB3.out⟩
set_option maxHeartbeats 1000000 in
theorem impl_reach_yes (v : Value) (b : Int) (rows : List (List Int)) (out : List Int) (w : World) (h : LiesS w v b rows out) (hq : seqB b rows out = true) :
    Calls Try.prog 72 #[v] w (Gives (Value.int .i64) 3 (reached rows) w) := by
  obtain ⟨i0, hi, hz0, hz1, hz2⟩ := info_parts Ints.infoI
  have HS := Lib.hid h
  obtain ⟨an, cn, ao, co, rfl⟩ := h.form
  clear h
  have HB : Hid (Below w.heap.size w (w.alloc (Obj.cells #[Value.int .i64 b, Value.slice an rows.length cn, Value.slice ao out.length co] 27))) := (Below.refl _ _).alloc (Nat.le_refl _) _
  have HC := Lib.hid (Cells3.new w 27 (.int .i64 b) (.slice an rows.length cn) (.slice ao out.length co))
  have HQ := Lib.hid hq
  have HV := Lib.hid (seqB_out hq)
  clear hq
  have hN : rows.length ≤ 16 := HV.out.2.2.2.1
  have k0 := HC.out.c0
  have k1 := HC.out.c1
  have k2 := HC.out.c2
  go_enter Try.func72, Try.ntmps72
  go_wp2_with fail
  refine (impl_is _ b rows out _ (HS.out.below HB.out)).mono ?_
  rintro e W1 ⟨rfl, b1⟩
  rw [HQ.out]
  have HB3 := Lib.hid (HB.out.trans (b1.mono HB.out.size))
  have HC3 := Lib.hid (HC.out.below b1)
  have HZ3 : Hid (w.heap.size + 1 ≤ W1.heap.size) := by
    have := b1.size
    rw [size_alloc'] at this
    exact this
  have hO4 : Hid (Has (Value.int .i64) 3 (W1.alloc (.cells #[.int .i64 0] 3)) (w.heap.size + 1) (.slice (some ⟨W1.heap.size, 0, none⟩) 1 1) (reachI rows 0)) := has_lit1 (enc := Value.int .i64) 0 rfl HZ3.out
  have hB4 : Hid (Below w.heap.size w (W1.alloc (.cells #[.int .i64 0] 3))) := HB3.out.alloc HB3.out.size _
  have hC4 := Lib.hid (HC3.out.alloc (.cells #[.int .i64 0] 3))
  have hZ4 : Hid (w.heap.size + 1 ≤ (W1.alloc (.cells #[.int .i64 0] 3)).heap.size) := by have := HZ3.out; show _ ≤ _; simp; omega
  clear b1 HB HC k0 k1 k2 HB3 HC3 HZ3
  go_wp2_with fail
  go_loopw [3, 4] (fun o' i' wr => ∃ i : Nat, i ≤ (reachI rows i).length ∧ i' = .int .i64 i ∧ Hid (Has (Value.int .i64) 3 wr (w.heap.size + 1) o' (reachI rows i)) ∧ Hid (Cells3 wr w.heap.size 27 (.int .i64 b) (.slice an rows.length cn) (.slice ao out.length co)) ∧ Hid (Below w.heap.size w wr) ∧ Hid (w.heap.size + 1 ≤ wr.heap.size)) (fun _ i' _ => rows.length - (intOf i').toNat)
  case atStart => exact ⟨0, Nat.zero_le _, rfl, hO4, hC4, hB4, hZ4⟩
  case round =>
    obtain ⟨i, hil, rfl, hown, hC, hB, hZ⟩ := hrel
    by_cases hlt : i < (reachI rows i).length
    case neg =>
      have HE := Lib.hid (reachI_end HV.out.closed (i := i) (by omega))
      have hd : decide ((i : Int) < ((reachI rows i).length : Int)) = false := decide_eq_false (by omega)
      have HX : Hid (Has (Value.int .i64) 3 wr w.heap.size u3 (reached rows)) := by rw [← HE.out]; exact hown.out.mono (Nat.le_succ _)
      obtain ⟨oa, oc, rfl, _⟩ := hown.out.form
      go_wp2
      go_ret
      exact ⟨_, rfl, HX.out, hB.out⟩
    case pos =>
      obtain ⟨sn, r, hs, hsn, hr, hrb, hr0, hr4, hrB, hst, hi1, _⟩ := round_facts HV.out hlt
      have HS1 := Lib.hid hs
      have HR := Lib.hid hr
      have HRB := Lib.hid hrB
      have HST := Lib.hid hst
      have HRBL := Lib.hid hrb
      clear hs hr hrB hst hrb
      obtain ⟨q0, s0, c0, rfl, hoc⟩ := ints_at hown.out.lies (by omega)
      have o1 := hoc i _ HS1.out
      obtain ⟨pa, off, hpa, q, s, c, o2', hcl⟩ := seq_row HS.out HR.out hr0
      have o2 := old_cell hB.out o2'
      have HCL := Lib.hid hcl
      clear hoc hcl o2'
      have hd0 : decide ((i : Int) < ((reachI rows i).length : Int)) = true := decide_eq_true (by omega)
      have k0 := hC.out.c0
      have k1 := hC.out.c1
      have k2 := hC.out.c2
      rw [hpa] at k1
      clear hpa
      go_wp2
      go_quiet (fail)
      have HBD := Lib.hid (below_drewN (Below.refl wr.heap.size wr) nq)
      have hC2 := Lib.hid (hC.out.below HBD.out)
      have hB2 := Lib.hid (hB.out.trans (HBD.out.mono hB.out.size))
      have hO2 := Lib.hid (hown.out.below HBD.out)
      have hZ2 := Lib.hid (Nat.le_trans hZ.out HBD.out.size)
      go_wp2_with fail
      obtain ⟨W2, hW2⟩ : ∃ W, W = wr.drewN nq := ⟨_, rfl⟩
      rw [← hW2] at hO2 hC2 hB2 hZ2 ⊢
      clear hW2 HBD k0 k1 k2 o1 o2 hown hC hB hZ
      go_loopw [3, 26] (fun o' k' wr => ∃ k : Nat, k ≤ r.length ∧ k' = .int .i64 k ∧ Hid (Has (Value.int .i64) 3 wr (w.heap.size + 1) o' (addAll (reachI rows i) (r.take k))) ∧ Hid (Cells3 wr w.heap.size 27 (.int .i64 b) (.slice an rows.length cn) (.slice ao out.length co)) ∧ Hid (Below w.heap.size w wr) ∧ Hid (w.heap.size + 1 ≤ wr.heap.size)) (fun _ k' _ => r.length - (intOf k').toNat)
      case atStart => exact ⟨0, Nat.zero_le _, rfl, hO2, hC2, hB2, hZ2⟩
      case round =>
        clear hO2 hC2 hB2 hZ2
        obtain ⟨k, hk, rfl, hown, hC, hB, hZ⟩ := hrel
        by_cases hlk : k < r.length
        case neg =>
          have HT : Hid (reachI rows (i + 1) = addAll (reachI rows i) (r.take k)) := by show _ = _; rw [HST.out, List.take_of_length_le (by omega)]
          have hm := mid_facts HV.out.closed (i := i) (k := k) HRB.out hlt
          have hH : Has (Value.int .i64) 3 wr (w.heap.size + 1) u3 (reachI rows (i + 1)) := by rw [HT.out]; exact hown.out
          have HH := Lib.hid hH
          have hle : i + 1 ≤ (reachI rows (i + 1)).length := by rw [HT.out]; exact hm.2
          clear hm hH
          go_wp2
          go_roundw
          case rel => exact ⟨i + 1, hle, by go_num, HH, hC, hB, hZ⟩
          case measure => simp [intOf]; omega
        case pos =>
          obtain ⟨x, hx⟩ : ∃ x, r[k]? = some x := ⟨_, List.getElem?_eq_getElem hlk⟩
          have HX := Lib.hid hx
          clear hx
          have hm := mid_facts HV.out.closed (i := i) (k := k) HRB.out hlt
          have hml : (addAll (reachI rows i) (r.take k)).length ≤ 16 := by have := hm.1; omega
          clear hm
          have o3 := old_cell hB.out (HCL.out k x HX.out)
          by_cases hin : x ∈ addAll (reachI rows i) (r.take k)
          · have HE := Lib.hid (addAll_old HX.out hin)
            have HI := Lib.hid (inB_yes hin)
            clear hin
            obtain ⟨oa, oc, rfl, _⟩ := hown.out.form
            go_wp2_with (go_at_call 77; refine (impl_has _ _ _ _ hown.out.lies _ HI.out).mono ?_; rintro e w' ⟨rfl, rfl⟩)
            have hO2 : Hid (Has (Value.int .i64) 3 wr (w.heap.size + 1) (.slice oa (addAll (reachI rows i) (r.take k)).length oc) (addAll (reachI rows i) (r.take (k + 1)))) := by
              show Has _ _ _ _ _ _
              rw [HE.out]
              exact hown.out
            go_roundw
            case rel => exact ⟨k + 1, by omega, by go_num, hO2, hC, hB, hZ⟩
            case measure => simp [intOf]; omega
          · have HE := Lib.hid (addAll_new HX.out hin)
            have HI := Lib.hid (inB_no hin)
            clear hin
            go_wp2_with (first | (go_at_call 77; refine (impl_has _ _ _ _ hown.out.lies _ HI.out).mono ?_; rintro e w' ⟨rfl, rfl⟩) | (at_builtin; refine append_one (enc := Value.int .i64) (e := 3) wr rfl _ _ 25 rfl (w.heap.size + 1) i0 (.int .i64 0) 8 Try.underlying25 hi hz0 hz1 hz2 rfl u3 (addAll (reachI rows i) (r.take k)) rfl hown.out x rfl (fun _ => rfl) (by omega) (by omega) hZ.out ?_; intro v' w' hown' hgrow'))
            have hB4 : Hid (Below w.heap.size w w') := hown.out.frame hB.out (Nat.le_succ _) hgrow'
            have hC4 := Lib.hid (hC.out.grown hgrow' (fun e => by have := (hown.out.lt _ e).1; omega))
            have hO4 : Hid (Has (Value.int .i64) 3 w' (w.heap.size + 1) v' (addAll (reachI rows i) (r.take (k + 1)))) := by show Has _ _ _ _ _ _; rw [HE.out]; exact hown'
            have hZ4 := Lib.hid (Nat.le_trans hZ.out hgrow'.size)
            clear hown' hgrow' hown hC hB hZ o3
            go_wp2
            go_roundw
            case rel => exact ⟨k + 1, by omega, by go_num, hO4, hC4, hB4, hZ4⟩
            case measure => simp [intOf]; omega
theorem reach_ends {b : Int} {rows : List (List Int)} {out : List Int} : (reachV b rows out).length ≤ 16 := by
  unfold reachV
  split
  · rename_i h
    have hv := seqB_out h
    have := reached_len hv.closed
    have := hv.2.2.2.1
    omega
  · simp
theorem impl_reach (v : Value) (b : Int) (rows : List (List Int)) (out : List Int) (w : World) (h : LiesS w v b rows out) : Calls Try.prog 72 #[v] w (Gives (Value.int .i64) 3 (reachV b rows out) w) := by
  cases hq : seqB b rows out with
  | false => rw [reachV, if_neg (by simp [hq])]; exact impl_reach_no v b rows out w h hq
  | true => rw [reachV, if_pos hq]; exact impl_reach_yes v b rows out w h hq
end Mins
end Go.Proofs.Ytdgfecjakmdheaa
/- Contracts of the model's StateClasses and of the function that numbers equal lists. No conditions beyond those that each states. -/
namespace Go.Proofs.Ytdgfecjakmdheaa
open Go.ChangeShapes Go.WideShapes Go.ChangeAt Go.RowKit
open Go.PlainAid Plain
set_option linter.unusedVariables false
namespace Mins
open Seqs
theorem same_q {u v : Value} {xs ys : List Int} {w : World} {n : Nat} {c : Bool} (h1 : Lies (Value.int .i64) w u xs) (h2 : Lies (Value.int .i64) w v ys) (hc : decide (xs = ys) = c) :
    Calls Try.prog 27 #[u, v] (w.drewN n) fun e w' => e = .returned (.bool c) ∧ ∃ m, w' = w.drewN m :=
  (same_ints u v xs ys _ (h1.below (below_drewN (Below.refl _ _) n)) (h2.below (below_drewN (Below.refl _ _) n))).mono fun _ _ ⟨he, m, hm⟩ => ⟨by rw [he, hc], n + m, by rw [hm, World.drewN_drewN]⟩
/-- What the search for an equal key has found. -/
def FoundR (keys : List (List Int)) (i : Nat) (key : List Int) (k : Nat) (f : Int) : Prop := (f = -1 ∧ ∀ j < k, keys[j]? ≠ some key) ∨ (0 ≤ f ∧ key ∈ keys.take i ∧ f = (ix (dist (keys.take i)) key : Int))
theorem found_end {keys : List (List Int)} {i : Nat} {key : List Int} {k : Nat} {f : Int} (hi : keys[i]? = some key) (h : FoundR keys i key k f) (he : k = i ∨ 0 ≤ f) (hk : k ≤ i) :
    (f = -1 ∧ numb (keys.take (i + 1)) = numb (keys.take i) ++ [((dist (keys.take i)).length : Int)] ∧ (dist (keys.take (i + 1))).length = (dist (keys.take i)).length + 1) ∨
    (0 ≤ f ∧ numb (keys.take (i + 1)) = numb (keys.take i) ++ [f] ∧ (dist (keys.take (i + 1))).length = (dist (keys.take i)).length) := by
  have ht : keys.take (i + 1) = keys.take i ++ [key] := by
    obtain ⟨hk, rfl⟩ := List.getElem?_eq_some_iff.1 hi
    exact List.take_succ_eq_append_getElem hk
  rcases h with ⟨rfl, hn⟩ | ⟨h0, hm, rfl⟩
  · have hki : k = i := by omega
    subst hki
    have hno : key ∉ keys.take k := fun hm => by
      obtain ⟨j, hj⟩ := List.getElem?_of_mem hm
      have hjl := (List.getElem?_eq_some_iff.1 hj).1
      rw [List.length_take] at hjl
      rw [List.getElem?_take, if_pos (by omega)] at hj
      exact hn j (by omega) hj
    refine .inl ⟨rfl, ?_, ?_⟩
    · rw [ht, numb_new hno]
    · rw [ht, dist_snoc, addTo_new (fun h => hno (mem_dist.1 h))]
      simp
  · refine .inr ⟨h0, ?_, ?_⟩
    · rw [ht, numb_old hm]
    · rw [ht, dist_snoc, addTo_in (mem_dist.2 hm)]
/-- A row's slice and its cells in a slice of rows. -/
theorem rows_at {w : World} {v : Value} {rows : List (List Int)} (h : LiesR w v rows) (hp : 0 < rows.length) : ∃ p o c, v = .slice (some ⟨p, o, none⟩) rows.length c ∧ rows.length ≤ 9223372036854775807 ∧
    ∀ (i : Nat) (r : List Int), rows[i]? = some r → ∃ u, w.cell? ⟨p, o + i, none⟩ = some u ∧ Lies (Value.int .i64) w u r := by
  obtain ⟨a, cap, rfl, hl, hc⟩ := h.row
  obtain ⟨p, o, u, rfl, _, _⟩ := hc 0 _ (List.getElem?_eq_getElem hp)
  refine ⟨p, o, cap, rfl, hl, fun i r hr => ?_⟩
  obtain ⟨p', o', u', h1, h2, h3⟩ := hc i r hr
  injection h1 with h1
  injection h1 with h1 h4
  subst h1; subst h4
  exact ⟨u', h2, h3⟩
set_option maxHeartbeats 1000000 in
theorem number_any (v : Value) (keys : List (List Int)) (w : World) (h : LiesR w v keys) (hk : keys.length ≤ 1000) :
    Calls Try.prog 69 #[v] w (Gives (Value.int .i64) 3 (numb keys) w) := by
  obtain ⟨i0, hi, hz0, hz1, hz2⟩ := info_parts Ints.infoI
  have HS := Lib.hid h
  obtain ⟨va, vc, rfl, hl63, _⟩ := h.row
  clear h
  have hO : Hid (Has (Value.int .i64) 3 (w.alloc (.cells #[] 3)) w.heap.size (.slice (some ⟨w.heap.size, 0, none⟩) 0 0) (numb (keys.take 0))) := has_lit0 (enc := Value.int .i64) rfl (Nat.le_refl _)
  have hB : Hid (Below w.heap.size w (w.alloc (.cells #[] 3))) := (Below.refl _ _).alloc (Nat.le_refl _) _
  go_enter Try.func69, Try.ntmps69
  go_wp2_with fail
  obtain ⟨W0, hW0⟩ : ∃ W, W = w.alloc (.cells #[] 3) := ⟨_, rfl⟩
  rw [← hW0] at hO hB ⊢
  clear hW0
  go_loopw [3, 4, 5] (fun o' n' i' wr => ∃ (i c : Nat), i ≤ keys.length ∧ i' = .int .i64 i ∧ n' = .int .i64 c ∧ Hid (c = (dist (keys.take i)).length) ∧ c ≤ i ∧ Hid (Has (Value.int .i64) 3 wr w.heap.size o' (numb (keys.take i))) ∧ Hid (Below w.heap.size w wr)) (fun _ _ i' _ => keys.length - (intOf i').toNat)
  case atStart => exact ⟨0, 0, Nat.zero_le _, rfl, rfl, rfl, Nat.le_refl _, hO, hB⟩
  case round =>
    clear hO hB
    obtain ⟨i, c, hil, rfl, rfl, hc, hci, hO, hB⟩ := hrel
    by_cases hlt : i < keys.length
    case neg =>
      have HX : Hid (Has (Value.int .i64) 3 wr w.heap.size u3 (numb keys)) := by
        have h1 := hO.out
        rw [List.take_of_length_le (by omega)] at h1
        exact h1
      obtain ⟨oa, oc, rfl, _⟩ := hO.out.form
      go_wp2
      go_ret
      exact ⟨_, rfl, HX.out, hB.out⟩
    case pos =>
      obtain ⟨key, hkey⟩ : ∃ x, keys[i]? = some x := ⟨_, List.getElem?_eq_getElem hlt⟩
      have HKEY := Lib.hid hkey
      have HNL : Hid ((numb (keys.take i)).length = i) := by show _ = _; rw [numb_len, List.length_take]; omega
      obtain ⟨vp, vo, vcap, hv, _, hrow⟩ := rows_at (HS.out.below hB.out) (by omega)
      injection hv with e1 e2 e3
      subst e1; subst e3
      have HROW := Lib.hid hrow
      clear hkey hrow e2
      obtain ⟨oa, oc, rfl, _⟩ := hO.out.form
      have HOC := Lib.hid hO.out.lies
      go_wp2
      go_loopw [6, 7] (fun f' k' wx => ∃ (k : Nat) (f : Int), k ≤ i ∧ k' = .int .i64 k ∧ f' = .int .i64 f ∧ Hid (FoundR keys i key k f) ∧ Hid (Below wr.heap.size wr wx)) (fun _ k' _ => i - (intOf k').toNat)
      case atStart => exact ⟨0, -1, Nat.zero_le _, rfl, rfl, .inl ⟨rfl, fun j hj => by omega⟩, Below.refl _ _⟩
      case round =>
        obtain ⟨k, f, hki, rfl, rfl, hF, hBx⟩ := hrel
        by_cases hgo : k < i ∧ f < 0
        case pos =>
          obtain ⟨hk2, hf⟩ := hgo
          have hdf := decide_eq_true hf
          obtain ⟨kx, hkx⟩ : ∃ x, keys[k]? = some x := ⟨_, List.getElem?_eq_getElem (by omega)⟩
          have HKX := Lib.hid hkx
          obtain ⟨u1, c1, l1⟩ := HROW.out k kx hkx
          obtain ⟨u2, c2, l2⟩ := HROW.out i key HKEY.out
          have q1 := old_cell hBx.out c1
          have q2 := old_cell hBx.out c2
          have L1 := Lib.hid (l1.below hBx.out)
          have L2 := Lib.hid (l2.below hBx.out)
          have hk3 : (k : Int) < (keys.length : Int) := by omega
          have hi3 : (i : Int) < (keys.length : Int) := by omega
          have hk0 : (0 : Int) ≤ (k : Int) := Int.natCast_nonneg _
          have hi0 : (0 : Int) ≤ (i : Int) := Int.natCast_nonneg _
          have hKT : (keys.take i)[k]? = some kx := by rw [List.getElem?_take, if_pos hk2, hkx]
          have HKT := Lib.hid hKT
          obtain ⟨m, hm⟩ : ∃ m : Int, m = (ix (dist (keys.take i)) kx : Int) := ⟨_, rfl⟩
          have hnk := numb_get hKT
          rw [← hm] at hnk
          obtain ⟨_, oa', oc', hv', _, hcl⟩ := HOC.out.below hBx.out
          injection hv' with f1 f2 f3
          obtain ⟨ob, oo, hoa, q3⟩ := hcl k m hnk
          rw [← f1] at hoa
          have hk4 : (k : Int) < ((numb (keys.take i)).length : Int) := by have := HNL.out; omega
          have hk5 : k < (numb (keys.take i)).length := by have := HNL.out; omega
          have HM := Lib.hid hm
          clear hkx c1 c2 l1 l2 hKT hnk hcl f1 f2 f3 hm hf
          subst hoa
          have HB4 := Lib.hid (fun n => below_drewN hBx.out n)
          by_cases he : kx = key
          · have HE := Lib.hid (decide_eq_true he)
            have HFN : Hid (FoundR keys i key (k + 1) m) := .inr ⟨by rw [HM.out]; exact Int.natCast_nonneg _, by rw [← he]; exact List.mem_of_getElem? HKT.out, by rw [HM.out, he]⟩
            clear he
            go_wp2
            go_quiet ((go_at_call 27; exact same_q L1.out L2.out HE.out))
            go_wp2
            go_roundw
            case rel => exact ⟨k + 1, m, by omega, by go_num, rfl, HFN, HB4.out _⟩
            case measure => simp [intOf]; omega
          · have HE := Lib.hid (decide_eq_false he)
            have HFN : Hid (FoundR keys i key (k + 1) f) := by
              rcases hF.out with ⟨h1, h2⟩ | h1
              · refine .inl ⟨h1, fun j hj hje => ?_⟩
                by_cases e : j = k
                · subst e
                  exact he (Option.some.inj (HKX.out.symm.trans hje))
                · exact h2 j (by omega) hje
              · exact .inr h1
            clear he
            go_wp2
            go_quiet ((go_at_call 27; exact same_q L1.out L2.out HE.out))
            go_wp2
            go_roundw
            case rel => exact ⟨k + 1, f, by omega, by go_num, rfl, HFN, HB4.out _⟩
            case measure => simp [intOf]; omega
        case neg =>
          have hxx := found_end HKEY.out hF.out (by omega) hki
          have HO5 := Lib.hid (hO.out.below hBx.out)
          have HB5 := Lib.hid (hB.out.trans (hBx.out.mono hB.out.size))
          have HZ5 := Lib.hid HB5.out.size
          rcases hxx with ⟨hf1, hn1, hd1⟩ | ⟨hf1, hn1, hd1⟩
          · have hki2 : ¬ k < i := fun h => hgo ⟨h, by omega⟩
            have hdf : decide (f < 0) = true := decide_eq_true (by omega)
            have HNN : Hid (numb (keys.take (i + 1)) = numb (keys.take i) ++ [(c : Int)]) := by show _ = _; rw [hn1, hc.out]
            have HDD : Hid (c + 1 = (dist (keys.take (i + 1))).length) := by show _ = _; rw [hd1, hc.out]
            clear hgo hn1 hd1 hf1
            go_wp2_with (at_builtin; refine append_one (enc := Value.int .i64) (e := 3) wr rfl _ _ 25 rfl w.heap.size i0 (.int .i64 0) 8 Try.underlying25 hi hz0 hz1 hz2 rfl (.slice oa (numb (keys.take i)).length oc) (numb (keys.take i)) rfl HO5.out (c : Int) rfl (fun _ => rfl) (by rw [HNL.out]; omega) (by rw [HNL.out]; omega) HZ5.out ?_; intro v' w' hown' hgrow')
            have hB4 : Hid (Below w.heap.size w w') := HO5.out.frame HB5.out (Nat.le_refl _) hgrow'
            have hO4 : Hid (Has (Value.int .i64) 3 w' w.heap.size v' (numb (keys.take (i + 1)))) := by show Has _ _ _ _ _ _; rw [HNN.out]; exact hown'
            clear hown' hgrow' HO5 HB5 HZ5
            go_wp2
            go_roundw
            case rel => exact ⟨i + 1, c + 1, by omega, by go_num, by go_num, HDD, by omega, hO4, hB4⟩
            case measure => simp [intOf]; omega
          · have hdf : decide (f < 0) = false := decide_eq_false (by omega)
            have HNN := Lib.hid hn1
            have HDD : Hid (c = (dist (keys.take (i + 1))).length) := by show _ = _; rw [hd1, hc.out]
            clear hgo hn1 hd1
            by_cases hki2 : k < i
            all_goals
              go_wp2_with (at_builtin; refine append_one (enc := Value.int .i64) (e := 3) wr rfl _ _ 25 rfl w.heap.size i0 (.int .i64 0) 8 Try.underlying25 hi hz0 hz1 hz2 rfl (.slice oa (numb (keys.take i)).length oc) (numb (keys.take i)) rfl HO5.out f rfl (fun _ => rfl) (by rw [HNL.out]; omega) (by rw [HNL.out]; omega) HZ5.out ?_; intro v' w' hown' hgrow')
              have hB4 : Hid (Below w.heap.size w w') := HO5.out.frame HB5.out (Nat.le_refl _) hgrow'
              have hO4 : Hid (Has (Value.int .i64) 3 w' w.heap.size v' (numb (keys.take (i + 1)))) := by show Has _ _ _ _ _ _; rw [HNN.out]; exact hown'
              clear hown' hgrow' HO5 HB5 HZ5
              go_wp2
              go_roundw
              case rel => exact ⟨i + 1, c, by omega, by go_num, rfl, HDD, by omega, hO4, hB4⟩
              case measure => simp [intOf]; omega
end Mins
end Go.Proofs.Ytdgfecjakmdheaa
/- A slice of rows of ints that the call builds row by row: what it is that the call owns it, what stays of it, and the law at the operation that puts a row behind it. No conditions beyond those that each fact states. -/
namespace Go.Proofs.Ytdgfecjakmdheaa.Plain
open Go.RowKit
set_option linter.unusedVariables false
/-- The slice v of rows is the call's own, from block lo on; the rows' blocks are below hi. -/
def HasRows (w : World) (lo hi : Nat) (v : Value) (rows : List (List Int)) : Prop := ∃ us, Has id 25 w lo v us ∧ OwnRows w lo hi us rows ∧ lo ≤ hi ∧ hi ≤ w.heap.size
section
variable {w w' : World} {lo hi : Nat} {v : Value} {rows : List (List Int)}
theorem HasRows.liesR (h : HasRows w lo hi v rows) : LiesR w v rows := by
  obtain ⟨us, h1, h2, _⟩ := h
  exact h2.lies h1.lies
theorem HasRows.below (h : HasRows w lo hi v rows) (hb : Below w.heap.size w w') : HasRows w' lo hi v rows := by
  obtain ⟨us, h1, h2, h3, h4⟩ := h
  exact ⟨us, h1.below hb, h2.below hb, h3, Nat.le_trans h4 hb.size⟩
theorem HasRows.nil {base : Nat} (h : Has id 25 w base v []) (hb : base ≤ w.heap.size) : HasRows w base base v [] := ⟨[], h, OwnRows.nil _ _ _, Nat.le_refl _, hb⟩
theorem HasRows.hi_le (h : HasRows w lo hi v rows) : lo ≤ hi ∧ hi ≤ w.heap.size := by
  obtain ⟨us, h1, h2, h3, h4⟩ := h
  exact ⟨h3, h4⟩
theorem HasRows.form (h : HasRows w lo hi v rows) : ∃ a c, v = .slice a rows.length c := by
  obtain ⟨us, h1, h2, _⟩ := h
  obtain ⟨a, c, h3, _⟩ := h1.form
  exact ⟨a, c, by rw [h3, h2.len]⟩
/-- What is written into the slice's own block touches nothing below. -/
theorem HasRows.frame {w0 : World} (h : HasRows w lo hi v rows) (hb : Below w0.heap.size w0 w) (hB : w0.heap.size ≤ lo) (hg : w.grownBy w' v.ownBlock) : Below w0.heap.size w0 w' := by
  obtain ⟨us, h1, _⟩ := h
  exact h1.frame hb hB hg
theorem HasRows.other {base : Nat} {u : Value} {xs : List Int} (h : HasRows w lo hi v rows) (hu : Has (Value.int .i64) 3 w base u xs) (hg : w.grownBy w' v.ownBlock) : Has (Value.int .i64) 3 w' base u xs := by
  obtain ⟨us, h1, _⟩ := h
  exact hu.grown hg (h1.ne_row hu)
theorem HasRows.c3 {b : Nat} {t : TypeId} {x y z : Value} (h : HasRows w lo hi v rows) (hc : Cells3 w b t x y z) (hne : (25 : Nat) ≠ t) (hg : w.grownBy w' v.ownBlock) : Cells3 w' b t x y z := by
  obtain ⟨us, h1, _⟩ := h
  exact hc.grown hg (has_ne_c3 h1 hc hne)
theorem HasRows.lift {hi' : Nat} (h : HasRows w lo hi v rows) (h1 : hi ≤ hi') (h2 : hi' ≤ w.heap.size) : HasRows w lo hi' v rows := by
  obtain ⟨us, a, b, c, d⟩ := h
  exact ⟨us, a, b.mono h1 h2, Nat.le_trans c h1, h2⟩
theorem HasRows.ownR (h : HasRows w lo hi v rows) : ∃ us, OwnR w lo w.heap.size v us rows := by
  obtain ⟨us, a, b, c, d⟩ := h
  exact ⟨us, a, fun k hk => (a.lt k hk).2, Nat.le_refl _, b.mono d (Nat.le_refl _)⟩
/-- 'v = append(v, x)', x a row that was made behind all the others. -/
theorem wpList_append_row {P : Program} {wr : World} {ops : Array Oper} {rest : List Oper} {o : Oper} {a : Act} {Q : Exit → Act → World → Prop} (hgd : o.guard = none) (s x : Operand) (t : TypeId)
    (ho : o.op = .call { callee := .builtin .append, args := #[s, x], argTypes := #[t, t] })
    (i : TypeInfo) (ht : P.underlying t = some (.slice 25)) (hi' : P.info? 25 = some i) (hz : i.zero = some (.slice none 0 0))
    (hsize : i.size = 1) (hby : i.bytes = 24) (v : Value) (hs : a.eval s = v) (hown : HasRows wr lo hi v rows) (u : Value) (r : List Int) (hu : Has (Value.int .i64) 3 wr hi u r)
    (g : Nat) (hx : a.eval x = .slice (some ⟨g, 0, none⟩) 1 1) (hgs : g = wr.heap.size) (hlen : rows.length ≤ 100000)
    (h : ∀ v' w', HasRows w' lo w'.heap.size v' (rows ++ [r]) → wr.grownBy w' v.ownBlock → wpList P ops Q rest (a.put o.dst v') w') :
    wpList P ops Q (o :: rest) a (wr.alloc (.cells #[u] 25)) := by
  subst hgs
  obtain ⟨us, h1, h2, h3, h4⟩ := hown
  have hu1 : u.oneCell' = true := by
    obtain ⟨a, c, h5, _⟩ := hu.form
    rw [h5]
    rfl
  have hul := h2.len
  refine wpList_append_list (enc := id) (e := 25) hgd s x t ho lo i (.slice none 0 0) 24 ht hi' hz hsize hby rfl v us hs (has_alloc h1 _) (.slice (some ⟨wr.heap.size, 0, none⟩) 1 1) [u] hx (lies_lit1v u rfl) (fun y hy => by simp at hy; subst hy; exact hu1) (by simp; omega) (by simp; omega) (by simp; omega) ?_
  intro v' w' hv' hg _
  have hg' : wr.grownBy w' v.ownBlock := grown_alloc hg
  have hI : OwnI wr hi wr.heap.size u r := ⟨hu, fun k hk => (hu.lt k hk).2, Nat.le_refl _⟩
  have h5 := h2.snoc hI h3 h4
  have h6 := h5.top_grown h1 hg'
  exact h v' w' ⟨us ++ [u], hv', h6.mono hg'.size (Nat.le_refl _), Nat.le_trans h3 (Nat.le_trans h4 hg'.size), Nat.le_refl _⟩ hg'
end
end Go.Proofs.Ytdgfecjakmdheaa.Plain
/- Contracts of the exact laws' own helpers on sequences, second part: copying one. No conditions beyond those that each states. -/
namespace Go.Proofs.Ytdgfecjakmdheaa
open Go.ChangeShapes Go.WideShapes Go.ChangeAt Go.RowKit
open Go.PlainAid Plain
set_option linter.unusedVariables false
namespace Seqs
theorem infoR : (Try.prog.info? 25).map (fun i => (i.zero, i.size, i.bytes)) = some (some (.slice none 0 0), 1, 24) := by kernel_rfl
end Seqs
end Go.Proofs.Ytdgfecjakmdheaa
/- Contracts of the copies of sequences, of the program and of the model. No conditions beyond those that each states. -/
namespace Go.Proofs.Ytdgfecjakmdheaa
open Go.ChangeShapes Go.WideShapes Go.ChangeAt Go.RowKit
open Go.PlainAid Plain
set_option linter.unusedVariables false
namespace Seqs
open Digits
theorem liesS_open {w : World} {v : Value} {b : Int} {rows : List (List Int)} {out : List Int} (h : LiesS w v b rows out) : ∃ an cn ao co, v = .agg #[.int .i64 b, .slice an rows.length cn, .slice ao out.length co] ∧ LiesR w (.slice an rows.length cn) rows ∧ Lies (Value.int .i64) w (.slice ao out.length co) out := by
  obtain ⟨vn, vo, rfl, hn, ho⟩ := h
  obtain ⟨an, cn, rfl, _⟩ := hn.row
  obtain ⟨_, ao, co, rfl, _⟩ := id ho
  exact ⟨an, cn, ao, co, rfl, hn, ho⟩
theorem has_row {w : World} {base : Nat} {v : Value} {us : List Value} (h : Has id 25 w base v us) : w.ownsRow base 25 1 v us.length (us.map id) := h
theorem impl_copied (v : Value) (b : Int) (rows : List (List Int)) (out : List Int) (w : World) (h : LiesS w v b rows out) (hs : rows.length + tot rows + out.length ≤ 1048576) :
    Calls Try.prog 57 #[v] w (GivesS b rows out w) := by
  obtain ⟨i0, hi, hz0, hz1, hz2⟩ := info_parts infoR
  obtain ⟨an, cn, ao, co, rfl, hN, hO⟩ := liesS_open h
  have HN := Lib.hid hN
  have HO := Lib.hid hO
  clear h hN hO
  have hB : Below w.heap.size w ((w.alloc (Obj.cells #[Value.int .i64 b, Value.slice an rows.length cn, Value.slice ao out.length co] 27)).alloc (Obj.cells #[Value.int .i64 0, Value.slice none 0 0, Value.slice none 0 0] 27)) := ((Below.refl _ _).alloc (Nat.le_refl _) _).alloc (by simp) _
  have hA := Lib.hid ((Cells3.new w 27 (.int .i64 b) (.slice an rows.length cn) (.slice ao out.length co)).alloc (Obj.cells #[Value.int .i64 0, Value.slice none 0 0, Value.slice none 0 0] 27))
  have hZ := Lib.hid (Cells3.new (w.alloc (Obj.cells #[Value.int .i64 b, Value.slice an rows.length cn, Value.slice ao out.length co] 27)) 27 (.int .i64 0) (.slice none 0 0) (.slice none 0 0))
  rw [size_alloc'] at hZ
  have HB := Lib.hid hB
  have hz : ((w.alloc (Obj.cells #[Value.int .i64 b, Value.slice an rows.length cn, Value.slice ao out.length co] 27)).alloc (Obj.cells #[Value.int .i64 0, Value.slice none 0 0, Value.slice none 0 0] 27)).heap.size = w.heap.size + 2 := by simp
  have HZ := Lib.hid hz
  clear hB hz
  go_enter Try.func57, Try.ntmps57
  go_wp2_with (at_make; obtain ⟨W0, hW0⟩ : ∃ W, W = (w.alloc (Obj.cells #[Value.int .i64 b, Value.slice an rows.length cn, Value.slice ao out.length co] 27)).alloc (Obj.cells #[Value.int .i64 0, Value.slice none 0 0, Value.slice none 0 0] 27) := ⟨_, rfl⟩; rw [← hW0] at hA hZ HB HZ ⊢; refine wpList_make_full W0 rfl _ _ 24 rfl W0.heap.size 25 i0 (.slice none 0 0) 1 Try.underlying24 hi hz0 hz1 .i64 .i64 _ _ rows.length rfl rfl rfl rfl (by rw [hz2]; omega) (by unfold maxLen; omega) (Nat.le_refl _) ?_; intro w1 hown hgrow; clear hW0)
  have hb1 := below_of_grown hgrow
  have hown0 : Hid (Has id 25 w1 (w.heap.size + 2) (.slice (some ⟨w.heap.size + 2, 0, none⟩) rows.length rows.length) ([] ++ List.replicate (rows.length - 0) (.slice none 0 0))) := by
    have := made_rows hown
    rw [HZ.out] at this
    exact this
  have HA1 := Lib.hid (hA.out.below hb1)
  have HZ1 := Lib.hid (hZ.out.below hb1)
  have HB1 := Lib.hid (HB.out.trans (hb1.mono HB.out.size))
  have hsz : Hid (w.heap.size + 2 ≤ w1.heap.size) := by have := hb1.size; rw [HZ.out] at this; exact this
  rw [HZ.out] at *
  clear hown hgrow hb1 hA hZ HB HZ
  go_loopw [11] (fun i' wr => ∃ (i : Nat) (us : List Value) (hi : Nat), i ≤ rows.length ∧ us.length = i ∧ i' = .int .i64 i ∧ Hid (Has id 25 wr (w.heap.size + 2) (.slice (some ⟨w.heap.size + 2, 0, none⟩) rows.length rows.length) (us ++ List.replicate (rows.length - i) (.slice none 0 0))) ∧ Hid (OwnRows wr (w.heap.size + 2) hi us (rows.take i)) ∧ Hid (w.heap.size + 2 ≤ hi ∧ hi ≤ wr.heap.size) ∧ Hid (Cells3 wr w.heap.size 27 (.int .i64 b) (.slice an rows.length cn) (.slice ao out.length co)) ∧ Hid (Cells3 wr (w.heap.size + 1) 27 (.int .i64 0) (.slice none 0 0) (.slice none 0 0)) ∧ Hid (Below w.heap.size w wr)) (fun i' _ => rows.length - (intOf i').toNat)
  case atStart => exact ⟨0, [], w.heap.size + 2, Nat.zero_le _, rfl, rfl, hown0, OwnRows.nil _ _ _, ⟨Nat.le_refl _, hsz.out⟩, HA1, HZ1, HB1⟩
  case round =>
    obtain ⟨i, us, hi, hile, hul, rfl, hown, hrows, hle, hA, hZ, hbel⟩ := hrel
    by_cases hlt : i < rows.length
    · obtain ⟨r, hr⟩ : ∃ r, rows[i]? = some r := ⟨_, List.getElem?_eq_getElem hlt⟩
      obtain ⟨a0, c0, hv0, _, hcl⟩ := (HN.out.below hbel.out).row
      obtain ⟨p, off, u, rfl, hcell, hlies⟩ := hcl i r hr
      have HL := Lib.hid hlies
      have HRL := Lib.hid (row_le rows i r hr)
      have HT := Lib.hid (show rows.take (i + 1) = rows.take i ++ [r] from by
        obtain ⟨h1, rfl⟩ := List.getElem?_eq_some_iff.1 hr
        exact List.take_succ_eq_append_getElem h1)
      have HUL := Lib.hid hul
      injection hv0 with e1 e2 e3
      subst e1; subst e3
      have k0 := hA.out.c0
      have k1 := hA.out.c1
      have k2 := hA.out.c2
      clear hlies hr hul hcl
      go_wp2_with fail
      refine (clone_lies _ r _ HL.out (by have := HRL.out; omega)).mono ?_
      rintro e W1 ⟨v1, rfl, hv1, hb1⟩
      obtain ⟨a1, cap1, rfl, _⟩ := hv1.form
      have HN1 := Lib.hid (hown.out.below hb1)
      have HR1 := Lib.hid ((hrows.out.below hb1).snoc ((OwnI.of_gives hv1).mono hle.out.2 (Nat.le_refl _) (Nat.le_refl _)) hle.out.1 (Nat.le_trans hle.out.2 hb1.size))
      have HB1 := Lib.hid (hbel.out.trans (hb1.mono hbel.out.size))
      have HS1 := Lib.hid (Nat.le_trans hle.out.1 (Nat.le_trans hle.out.2 hb1.size))
      have HA1 := Lib.hid (hA.out.below hb1)
      have HZ1 := Lib.hid (hZ.out.below hb1)
      clear hown hrows hb1 hv1 hle hbel hA hZ k0 k1 k2 HL hcell
      have H1 : W1.ownsRow (w.heap.size + 2) 25 1 (.slice (some ⟨w.heap.size + 2, 0, none⟩) rows.length rows.length) rows.length ((us ++ List.replicate (rows.length - i) (Value.slice none 0 0)).map id) := by
        have := HN1.out
        unfold Has at this
        rw [show (us ++ List.replicate (rows.length - i) (Value.slice none 0 0)).length = rows.length from by rw [List.length_append, List.length_replicate, HUL.out]; omega] at this
        exact this
      have hc : W1.cell? ⟨w.heap.size + 2, i, none⟩ = some (.slice none 0 0) := by
        rw [H1.cellAt i (by omega), List.getElem?_map, List.getElem?_append_right (by rw [HUL.out]; omega), List.getElem?_replicate, if_pos (by rw [HUL.out]; omega)]
        rfl
      have hfr := H1.frozenAt i
      have hst := H1.stored i (id (.slice a1 r.length cap1))
      rw [← HUL.out, set_next us _ _ (.slice a1 r.length cap1) (by rw [HUL.out]; omega), HUL.out] at hst
      have HST := Lib.hid hst
      clear hst H1
      go_wp2
      go_roundw
      case rel =>
        refine ⟨i + 1, us ++ [.slice a1 r.length cap1], W1.heap.size, by omega, by simp [HUL.out], by go_num, ?_, ?_, ⟨HS1.out, HST.out.2.size⟩, HA1.out.grown HST.out.2 (by simp), HZ1.out.grown HST.out.2 (by simp), HB1.out.grown HST.out.2 HB1.out.size (fun k hk => by cases hk; omega)⟩
        · show World.ownsRow _ _ _ _ _ _ _
          rw [show (us ++ [Value.slice a1 r.length cap1] ++ List.replicate (rows.length - (i + 1)) (Value.slice none 0 0)).length = rows.length from by simp [HUL.out]; omega]
          exact HST.out.1
        · rw [HT.out]
          exact HR1.out.top_grown HN1.out HST.out.2
      case measure => simp [intOf]; omega
    · obtain rfl : i = rows.length := by omega
      have HE : Hid (OwnR wr (w.heap.size + 2) wr.heap.size (.slice (some ⟨w.heap.size + 2, 0, none⟩) rows.length rows.length) us rows) := by
        have h1 := hown.out
        have h2 := hrows.out
        rw [List.take_length] at h2
        rw [Nat.sub_self, List.replicate_zero, List.append_nil] at h1
        exact ⟨h1, fun k hk => (h1.lt k hk).2, Nat.le_refl _, h2.mono hle.out.2 (Nat.le_refl _)⟩
      have HUL := Lib.hid hul
      clear hown hrows hul
      go_wp2
      have bd := below_drew' wr
      obtain ⟨Wd, hWd⟩ : ∃ W, W = wr.drew := ⟨_, rfl⟩
      rw [← hWd] at bd
      have HEd := Lib.hid (HE.out.below bd)
      have HAd := Lib.hid (hA.out.below bd)
      have HZd := Lib.hid (hZ.out.below bd)
      have HBd := Lib.hid (hbel.out.trans (bd.mono hbel.out.size))
      clear bd HE hA hZ hbel
      have k0 := HAd.out.c0
      have k1 := HAd.out.c1
      have k2 := HAd.out.c2
      have z0 := HZd.out.c0
      have z1 := HZd.out.c1
      have z2 := HZd.out.c2
      have z3 := HZd.out.f
      rw [hWd] at k0 k1 k2 z0 z1 z2 z3
      go_region_with (go_at_call 51; rw [← hWd]; refine (clone_lies _ out _ (HO.out.below HBd.out) (by omega)).mono ?_; rintro e Wt ⟨vt, rfl, ht, bt⟩; obtain ⟨av, cv, rfl, _⟩ := ht.form; have m0 := (HAd.out.below bt).c0; have m2 := (HAd.out.below bt).c2; have n0 := (HZd.out.below bt).c0; have n1 := (HZd.out.below bt).c1; have n2 := (HZd.out.below bt).c2; have n3 := (HZd.out.below bt).f)
      all_goals
        have HE2 := Lib.hid (HEd.out.below bt)
        have HO2 := Lib.hid ((OwnI.of_gives ht).mono HEd.out.le (Nat.le_refl _) (Nat.le_refl _))
        have HB2 := Lib.hid (HBd.out.trans (bt.mono HBd.out.size))
        have HZ2 := Lib.hid ((((HZd.out.below bt).set0 (.int .i64 b)).set1 (.slice (some ⟨w.heap.size + 2, 0, none⟩) rows.length rows.length)).set2 (.slice av out.length cv))
        have hz1 := Lib.hid bt.size
        have hz2 := Lib.hid HEd.out.le
        have hz3 : Hid (w.heap.size + 2 ≤ wr.heap.size) := by show _ ≤ _; have := hle.out; omega
        clear ht bt k0 k1 k2 z0 z1 z2 z3 m0 m2 n0 n1 n2 n3
        go_wp2
        have m0 := HZ2.out.c0
        have m1 := HZ2.out.c1
        have m2 := HZ2.out.c2
        refine bodyPost_ret (v := .agg #[.int .i64 b, (.slice (some ⟨w.heap.size + 2, 0, none⟩) rows.length rows.length), .slice av out.length cv]) (by simp [results, Try.results57, go_sem, m0, m1, m2]) rfl ⟨_, rfl, ?_, ?_⟩
        · have T0 : Plain.Touch w.heap.size (w.heap.size + 2) Wt (((Wt.setCell ⟨w.heap.size + 1, 0, none⟩ (.int .i64 b)).setCell ⟨w.heap.size + 1, 1, none⟩ (.slice (some ⟨w.heap.size + 2, 0, none⟩) rows.length rows.length)).setCell ⟨w.heap.size + 1, 2, none⟩ (.slice av out.length cv)) :=
            ((Plain.Touch.of_set _ (by show _ ≤ _ + 1; omega) (by show _ + 1 < _; omega)).trans (Plain.Touch.of_set _ (by show _ ≤ _ + 1; omega) (by show _ + 1 < _; omega))).trans (Plain.Touch.of_set _ (by show _ ≤ _ + 1; omega) (by show _ + 1 < _; omega))
          have g1 := hz1.out
          have g2 := hz2.out
          have g3 := hz3.out
          simp only [size_setCell']
          exact OwnS.make (HE2.out.touch T0 (.inr (Nat.le_refl _))) (HO2.out.touch T0 (.inr (by omega))) (by omega) (by omega) (by omega)
        · exact ((HB2.out.setCell (by show _ ≤ _ + 1; omega) _).setCell (by show _ ≤ _ + 1; omega) _).setCell (by show _ ≤ _ + 1; omega) _
end Seqs
end Go.Proofs.Ytdgfecjakmdheaa
/- Contract of the model's StateClasses. No conditions beyond those that each states. -/
namespace Go.Proofs.Ytdgfecjakmdheaa
open Go.ChangeShapes Go.WideShapes Go.ChangeAt Go.RowKit
open Go.PlainAid Plain
set_option linter.unusedVariables false
namespace Mins
open Seqs
def keys0 (out : List Int) (i : Nat) : List (List Int) := (out.take i).map fun o => [o]
def keysM (rows : List (List Int)) (cls : List Int) (i : Nat) : List (List Int) := (List.range i).map (keyM rows cls)
theorem keys0_succ {out : List Int} {i : Nat} {o : Int} (h : out[i]? = some o) : keys0 out (i + 1) = keys0 out i ++ [[o]] := by
  rw [keys0, take_snoc' h, List.map_append]
  rfl
theorem keys0_len {out : List Int} {i : Nat} (h : i ≤ out.length) : (keys0 out i).length = i := by simp [keys0]; omega
theorem keysM_succ (rows : List (List Int)) (cls : List Int) (i : Nat) : keysM rows cls (i + 1) = keysM rows cls i ++ [keyM rows cls i] := by simp [keysM, List.range_succ]
theorem keysM_len (rows : List (List Int)) (cls : List Int) (i : Nat) : (keysM rows cls i).length = i := by simp [keysM]
/-- A key in the making. -/
def partM (x : Int) (r cls : List Int) (k : Nat) : List Int := x :: (r.take k).map fun y => cls.getD y.toNat 0
theorem partM_succ {x y : Int} {r cls : List Int} {k : Nat} (h : r[k]? = some y) : partM x r cls (k + 1) = partM x r cls k ++ [cls.getD y.toNat 0] := by
  rw [partM, take_snoc' h, List.map_append]
  rfl
theorem partM_len {x : Int} {r cls : List Int} {k : Nat} (h : k ≤ r.length) : (partM x r cls k).length = k + 1 := by simp [partM]; omega
theorem partM_end {rows : List (List Int)} {cls r : List Int} {i : Nat} {x : Int} (hr : rows[i]? = some r) (hx : cls[i]? = some x) : partM x r cls r.length = keyM rows cls i := by
  rw [partM, List.take_length, keyM, List.getD_eq_getElem?_getD, List.getD_eq_getElem?_getD, hx, hr]
  rfl
theorem clsM_len {rows : List (List Int)} {out : List Int} (h : out.length = rows.length) : ∀ k, (clsM rows out k).length = rows.length
  | 0 => by rw [clsM, numb_len, List.length_map, h]
  | k + 1 => by rw [clsM, numb_len, List.length_map, List.length_range]
set_option maxRecDepth 100000 in
set_option maxHeartbeats 2000000 in
theorem spec_class_yes (v : Value) (b : Int) (rows : List (List Int)) (out : List Int) (w : World) (h : LiesS w v b rows out) (hq : seqB b rows out = true) :
    Calls Try.prog 48 #[v] w (Gives (Value.int .i64) 3 (classes rows out) w) := by
  obtain ⟨i0, hi, hz0, hz1, hz2⟩ := info_parts Ints.infoI
  obtain ⟨i2, hi2, hz20, hz21, hz22⟩ := info_parts infoR
  have HS := Lib.hid h
  obtain ⟨an, cn, ao, co, rfl⟩ := h.form
  clear h
  have HB : Hid (Below w.heap.size w (w.alloc (Obj.cells #[Value.int .i64 b, Value.slice an rows.length cn, Value.slice ao out.length co] 27))) := (Below.refl _ _).alloc (Nat.le_refl _) _
  have HC := Lib.hid (Cells3.new w 27 (.int .i64 b) (.slice an rows.length cn) (.slice ao out.length co))
  have HQ := Lib.hid hq
  have HV := Lib.hid (seqB_out hq)
  have HA := Lib.hid (seqB_out hq).auto
  have hn16 : rows.length ≤ 16 := HV.out.2.2.2.1
  have hol : out.length = rows.length := HV.out.2.2.2.2.1
  have HOL := Lib.hid hol
  have hb2 : 2 ≤ b := HV.out.1
  have hb4 : b ≤ 4 := HV.out.2.1
  have ho16 : out.length ≤ 16 := by omega
  have k0 := HC.out.c0
  have k1 := HC.out.c1
  have k2 := HC.out.c2
  clear hq hol
  go_enter Try.func48, Try.ntmps48
  go_wp2_with fail
  refine (spec_is _ b rows out _ (HS.out.below HB.out)).mono ?_
  rintro e W1 ⟨rfl, b1⟩
  rw [HQ.out]
  have HB1 := Lib.hid (HB.out.trans (b1.mono HB.out.size))
  have HC1 := Lib.hid (HC.out.below b1)
  clear b1 HB HC k0 k1 k2
  have hR : Hid (HasRows (W1.alloc (.cells #[] 25)) (w.heap.size + 1) W1.heap.size (.slice (some ⟨W1.heap.size, 0, none⟩) 0 0) (keys0 out 0)) := by
    have h1 : w.heap.size + 1 ≤ W1.heap.size := by have := HC1.out.lt; omega
    exact (HasRows.nil (has_lit0 (enc := id) (e := 25) rfl h1) (by simp; omega)).lift h1 (by simp)
  have hB : Hid (Below w.heap.size w (W1.alloc (.cells #[] 25))) := HB1.out.alloc HB1.out.size _
  have hC := Lib.hid (HC1.out.alloc (.cells #[] 25))
  go_wp2_with fail
  obtain ⟨W2, hW2⟩ : ∃ W, W = W1.alloc (.cells #[] 25) := ⟨_, rfl⟩
  rw [← hW2] at hR hB hC ⊢
  have hR : Hid (∃ hi, HasRows W2 (w.heap.size + 1) hi (.slice (some ⟨W1.heap.size, 0, none⟩) 0 0) (keys0 out 0)) := ⟨_, hR.out⟩
  clear hW2 HB1 HC1
  go_loopw [3, 4] (fun o' i' wr => ∃ i : Nat, i ≤ out.length ∧ i' = .int .i64 i ∧ Hid (∃ hi, HasRows wr (w.heap.size + 1) hi o' (keys0 out i)) ∧ Hid (Cells3 wr w.heap.size 27 (.int .i64 b) (.slice an rows.length cn) (.slice ao out.length co)) ∧ Hid (Below w.heap.size w wr)) (fun _ i' _ => out.length - (intOf i').toNat)
  case atStart => exact ⟨0, Nat.zero_le _, rfl, hR, hC, hB⟩
  case round =>
    clear hR hB hC
    obtain ⟨i, hil, rfl, hR, hC, hB⟩ := hrel
    obtain ⟨hi', hR'⟩ := hR.out
    obtain ⟨ra, rc, rfl⟩ := hR'.form
    have HR := Lib.hid hR'
    clear hR hR'
    have k0 := hC.out.c0
    have k1 := hC.out.c1
    have k2 := hC.out.c2
    by_cases hlt : i < out.length
    case pos =>
      obtain ⟨o, ho⟩ : ∃ x, out[i]? = some x := ⟨_, List.getElem?_eq_getElem hlt⟩
      have HO := Lib.hid ho
      have HK0 := Lib.hid (keys0_succ ho)
      have HKL := Lib.hid (keys0_len hil)
      obtain ⟨q', s', hao, o1⟩ := HS.out.cells.2 i o ho
      have o1' := old_cell hB.out o1
      have hlt2 : (i : Int) < (out.length : Int) := by omega
      have hi0 : (0 : Int) ≤ (i : Int) := Int.natCast_nonneg _
      rw [hao] at k2
      have HR2 := Lib.hid (HR.out.below ((Below.refl _ _).alloc (Nat.le_refl _) (.cells #[.int .i64 o] 3)))
      have HU : Hid (Has (Value.int .i64) 3 (wr.alloc (.cells #[.int .i64 o] 3)) hi' (.slice (some ⟨wr.heap.size, 0, none⟩) 1 1) [o]) := has_lit1 (enc := Value.int .i64) o rfl HR.out.hi_le.2
      clear ho o1 hao
      go_wp2_with (at_builtin; refine wpList_append_row rfl _ _ 24 rfl i2 Try.underlying24 hi2 hz20 hz21 hz22 (.slice ra (keys0 out i).length rc) rfl HR2.out (.slice (some ⟨wr.heap.size, 0, none⟩) 1 1) [o] HU.out _ rfl (by simp) (by rw [HKL.out]; omega) ?_; intro v' w' hv' hg')
      have hB4 : Hid (Below w.heap.size w w') := HR2.out.frame (hB.out.alloc hB.out.size _) (Nat.le_succ _) hg'
      have hC4 := Lib.hid (HR2.out.c3 (hC.out.alloc _) (by decide) hg')
      have hR4 : Hid (∃ hi, HasRows w' (w.heap.size + 1) hi v' (keys0 out (i + 1))) := ⟨_, by rw [HK0.out]; exact hv'⟩
      clear hv' hg' HR2 HU k0 k1 k2 o1'
      go_wp2
      go_roundw
      case rel => exact ⟨i + 1, by omega, by go_num, hR4, hC4, hB4⟩
      case measure => simp [intOf]; omega
    case neg =>
      obtain rfl : i = out.length := by omega
      have HKK : Hid (keys0 out out.length = out.map fun o => [o]) := by show _ = _; rw [keys0, List.take_length]
      have HNU := Lib.hid (number_any _ _ _ HR.out.liesR (by rw [keys0_len (Nat.le_refl _)]; omega))
      go_wp2_with fail
      refine (HNU.out).mono ?_
      rintro e W3 ⟨vc, rfl, hvc, b3⟩
      have hZ1 : Hid (w.heap.size + 1 ≤ wr.heap.size) := by have := hC.out.lt; show _ ≤ _; omega
      have hO3 : Hid (Has (Value.int .i64) 3 W3 (w.heap.size + 1) vc (clsM rows out 0)) := by
        have h1 := hvc.mono hZ1.out
        rw [HKK.out] at h1
        exact h1
      have hC3 := Lib.hid (hC.out.below b3)
      have hB3 := Lib.hid (hB.out.trans (b3.mono hB.out.size))
      clear hvc b3 HR hC hB k0 k1 k2 HNU hZ1
      go_wp2_with fail
      go_loopw [5, 6] (fun c' n' wr => ∃ n : Nat, n ≤ rows.length ∧ n' = .int .i64 n ∧ Hid (Has (Value.int .i64) 3 wr (w.heap.size + 1) c' (clsM rows out n)) ∧ Hid (Cells3 wr w.heap.size 27 (.int .i64 b) (.slice an rows.length cn) (.slice ao out.length co)) ∧ Hid (Below w.heap.size w wr)) (fun _ n' _ => rows.length - (intOf n').toNat)
      case atStart => exact ⟨0, Nat.zero_le _, rfl, hO3, hC3, hB3⟩
      case round =>
        clear hO3 hC3 hB3
        obtain ⟨n, hnl, rfl, hO, hC, hB⟩ := hrel
        obtain ⟨W4, rfl⟩ : ∃ W : World, W = wr := ⟨_, rfl⟩
        obtain ⟨cls, hcls⟩ : ∃ c, c = clsM rows out n := ⟨_, rfl⟩
        have HCLS := Lib.hid hcls
        have HCL : Hid (cls.length = rows.length) := by show _ = _; rw [hcls]; exact clsM_len HOL.out n
        rw [← hcls] at hO
        obtain ⟨ca, cc, rfl, _⟩ := hO.out.form
        have k0 := hC.out.c0
        have k1 := hC.out.c1
        have k2 := hC.out.c2
        by_cases hlt : n < rows.length
        case neg =>
          obtain rfl : n = rows.length := by omega
          have HX : Hid (Has (Value.int .i64) 3 W4 w.heap.size (.slice ca cls.length cc) (classes rows out)) := by
            have h1 := hO.out.mono (Nat.le_succ w.heap.size)
            rw [← clsM_end HA.out]
            rw [hcls] at h1 ⊢
            exact h1
          clear hcls
          go_wp2
          go_ret
          exact ⟨_, rfl, HX.out, hB.out⟩
        case pos =>
          clear hcls
          have hZ1 : Hid (w.heap.size + 1 ≤ W4.heap.size) := by have := hC.out.lt; show _ ≤ _; omega
          have hR : Hid (∃ hi, HasRows (W4.alloc (.cells #[] 25)) (w.heap.size + 1) hi (.slice (some ⟨W4.heap.size, 0, none⟩) 0 0) (keysM rows cls 0)) := by
            exact ⟨_, (HasRows.nil (has_lit0 (enc := id) (e := 25) rfl hZ1.out) (by simp; have := hZ1.out; omega)).lift hZ1.out (by simp)⟩
          have hB5 : Hid (Below w.heap.size w (W4.alloc (.cells #[] 25))) := hB.out.alloc hB.out.size _
          have hC5 := Lib.hid (hC.out.alloc (.cells #[] 25))
          have hO5 := Lib.hid (has_alloc hO.out (.cells #[] 25))
          clear hB hC hO
          go_wp2
          obtain ⟨W5, hW5⟩ : ∃ W, W = W4.alloc (.cells #[] 25) := ⟨_, rfl⟩
          rw [← hW5] at hR hB5 hC5 hO5 ⊢
          clear hW5 k0 k1 k2
          go_loopw [3, 7] (fun o' i' wr => ∃ i : Nat, i ≤ rows.length ∧ i' = .int .i64 i ∧ Hid (∃ hi, HasRows wr (w.heap.size + 1) hi o' (keysM rows cls i)) ∧ Hid (Has (Value.int .i64) 3 wr (w.heap.size + 1) (.slice ca cls.length cc) cls) ∧ Hid (Cells3 wr w.heap.size 27 (.int .i64 b) (.slice an rows.length cn) (.slice ao out.length co)) ∧ Hid (Below w.heap.size w wr)) (fun _ i' _ => rows.length - (intOf i').toNat)
          case atStart => exact ⟨0, Nat.zero_le _, rfl, hR, hO5, hC5, hB5⟩
          case round =>
            clear hR hO5 hC5 hB5
            obtain ⟨i, hil, rfl, hR, hO, hC, hB⟩ := hrel
            obtain ⟨W6, rfl⟩ : ∃ W : World, W = wr := ⟨_, rfl⟩
            obtain ⟨hi', hR'⟩ := hR.out
            obtain ⟨ra, rc, rfl⟩ := hR'.form
            have HR := Lib.hid hR'
            clear hR hR'
            have k0 := hC.out.c0
            have k1 := hC.out.c1
            have k2 := hC.out.c2
            by_cases hlt3 : i < rows.length
            case neg =>
              obtain rfl : i = rows.length := by omega
              have HNU := Lib.hid (number_any _ _ _ HR.out.liesR (by rw [keysM_len]; omega))
              go_wp2_with fail
              refine (HNU.out).mono ?_
              rintro e W7 ⟨vc', rfl, hvc, b3⟩
              have hZ2 : Hid (w.heap.size + 1 ≤ W6.heap.size) := by have := hC.out.lt; show _ ≤ _; omega
              have hO7 : Hid (Has (Value.int .i64) 3 W7 (w.heap.size + 1) vc' (clsM rows out (n + 1))) := by
                show Has _ _ _ _ _ _
                rw [clsM, ← HCLS.out]
                exact hvc.mono hZ2.out
              have hC7 := Lib.hid (hC.out.below b3)
              have hB7 := Lib.hid (hB.out.trans (b3.mono hB.out.size))
              clear hvc b3 HR hC hB hO k0 k1 k2 HNU
              go_wp2
              go_roundw
              case rel => exact ⟨n + 1, by omega, by go_num, hO7, hC7, hB7⟩
              case measure => simp [intOf]; omega
            case pos =>
              obtain ⟨x, hx⟩ : ∃ x, cls[i]? = some x := ⟨_, List.getElem?_eq_getElem (by have := HCL.out; omega)⟩
              obtain ⟨r, hr⟩ : ∃ r, rows[i]? = some r := ⟨_, List.getElem?_eq_getElem hlt3⟩
              have HXX := Lib.hid hx
              have HRR := Lib.hid hr
              have hrl : (r.length : Int) = b := (HV.out.2.2.2.2.2.1 r (List.mem_of_getElem? hr)).1
              have HRB := Lib.hid (HV.out.2.2.2.2.2.1 r (List.mem_of_getElem? hr)).2
              have hr0 : 0 < r.length := by omega
              have hr4 : r.length ≤ 4 := by omega
              have HRL := Lib.hid hrl
              obtain ⟨cq, cs, cc', hcv, hcc⟩ := ints_at hO.out.lies (by have := HCL.out; omega)
              injection hcv with f1 f2 f3
              have o1 := hcc i x hx
              have HCC := Lib.hid hcc
              have hcl1 : (i : Int) < (cls.length : Int) := by have := HCL.out; omega
              have hcl2 : i < cls.length := by have := HCL.out; omega
              have hi0 : (0 : Int) ≤ (i : Int) := Int.natCast_nonneg _
              subst f1
              have hP : Hid (Has (Value.int .i64) 3 (W6.alloc (.cells #[.int .i64 x] 3)) W6.heap.size (.slice (some ⟨W6.heap.size, 0, none⟩) 1 1) (partM x r cls 0)) := has_lit1 (enc := Value.int .i64) x rfl (Nat.le_refl _)
              have hBP : Hid (Below W6.heap.size W6 (W6.alloc (.cells #[.int .i64 x] 3))) := (Below.refl _ _).alloc (Nat.le_refl _) _
              clear hx hr hrl hcc f2 f3
              go_wp2
              obtain ⟨W7, hW7⟩ : ∃ W, W = W6.alloc (.cells #[.int .i64 x] 3) := ⟨_, rfl⟩
              rw [← hW7] at hP hBP ⊢
              clear hW7 k0 k1 k2 o1
              go_loopw [8, 9] (fun p' k' wr => ∃ k : Nat, k ≤ r.length ∧ k' = .int .i64 k ∧ Hid (Has (Value.int .i64) 3 wr W6.heap.size p' (partM x r cls k)) ∧ Hid (Below W6.heap.size W6 wr)) (fun _ k' _ => r.length - (intOf k').toNat)
              case atStart => exact ⟨0, Nat.zero_le _, rfl, hP, hBP⟩
              case round =>
                clear hP hBP
                obtain ⟨k, hkl, rfl, hP, hBP⟩ := hrel
                have hC8 := hC.out.below hBP.out
                have k0 := hC8.c0
                have k1 := hC8.c1
                have k2 := hC8.c2
                have HR8 := Lib.hid (HR.out.below hBP.out)
                have hO8 := hO.out.below hBP.out
                have HO8 := Lib.hid hO8
                have hB8 := Lib.hid (hB.out.trans (hBP.out.mono hB.out.size))
                have HC8 := Lib.hid hC8
                have HPL := Lib.hid (partM_len (x := x) (cls := cls) hkl)
                clear hC8 hO8
                by_cases hlk : k < r.length
                case pos =>
                  obtain ⟨y, hy⟩ : ∃ x, r[k]? = some x := ⟨_, List.getElem?_eq_getElem hlk⟩
                  have HY := Lib.hid hy
                  have hyb := HRB.out y (List.mem_of_getElem? hy)
                  obtain ⟨yn, rfl⟩ : ∃ yn : Nat, y = (yn : Int) := ⟨y.toNat, by omega⟩
                  have hyl : (yn : Int) < (cls.length : Int) := by have := HCL.out; omega
                  have hyl2 : yn < cls.length := by have := HCL.out; omega
                  have hy0 : (0 : Int) ≤ (yn : Int) := Int.natCast_nonneg _
                  obtain ⟨z, hz⟩ : ∃ z, cls[yn]? = some z := ⟨_, List.getElem?_eq_getElem hyl2⟩
                  have HZ : Hid (partM x r cls (k + 1) = partM x r cls k ++ [z]) := by
                    show _ = _
                    rw [partM_succ hy]
                    congr 2
                    rw [Int.toNat_natCast, List.getD_eq_getElem?_getD, hz]
                    rfl
                  obtain ⟨pa, off, hpa, q, s, c, p1, hcl⟩ := seq_row (HS.out.below hB8.out) HRR.out hr0
                  have p2 := hcl k _ hy
                  have p3 := old_cell hBP.out (HCC.out yn z hz)
                  rw [hpa] at k1
                  have hdk : decide ((k : Int) < b) = true := decide_eq_true (by have := HRL.out; omega)
                  have hk0 : (0 : Int) ≤ (k : Int) := Int.natCast_nonneg _
                  have hkr : (k : Int) < (r.length : Int) := by omega
                  have hin : (i : Int) < (rows.length : Int) := by omega
                  clear hy hyb hz hpa hcl
                  obtain ⟨pa', pc', rfl, _⟩ := hP.out.form
                  have hZP := hBP.out.size
                  go_wp2_with (at_builtin; refine append_one (enc := Value.int .i64) (e := 3) wr rfl _ _ 25 rfl W6.heap.size i0 (.int .i64 0) 8 Try.underlying25 hi hz0 hz1 hz2 rfl (.slice pa' (partM x r cls k).length pc') (partM x r cls k) rfl hP.out z rfl (fun _ => rfl) (by rw [HPL.out]; omega) (by rw [HPL.out]; omega) hZP ?_; intro v' w' hown' hgrow')
                  have hB9 : Hid (Below W6.heap.size W6 w') := hP.out.frame hBP.out (Nat.le_refl _) hgrow'
                  have hO9 : Hid (Has (Value.int .i64) 3 w' W6.heap.size v' (partM x r cls (k + 1))) := by show Has _ _ _ _ _ _; rw [HZ.out]; exact hown'
                  clear hown' hgrow' k0 k1 k2 p1 p2 p3 hZP
                  go_wp2
                  go_roundw
                  case rel => exact ⟨k + 1, by omega, by go_num, hO9, hB9⟩
                  case measure => simp [intOf]; omega
                case neg =>
                  obtain rfl : k = r.length := by omega
                  have hdk : decide ((r.length : Int) < b) = false := decide_eq_false (by have := HRL.out; omega)
                  have HPE := Lib.hid (partM_end HRR.out HXX.out)
                  have HKS := Lib.hid (keysM_succ rows cls i)
                  have HKN := Lib.hid (keysM_len rows cls i)
                  have HU := Lib.hid (hP.out.mono HR.out.hi_le.2)
                  obtain ⟨pa', pc', rfl, _⟩ := hP.out.form
                  clear hlk hkl
                  go_wp2_with (at_builtin; refine wpList_append_row (wr := wr) rfl _ _ 24 rfl i2 Try.underlying24 hi2 hz20 hz21 hz22 (.slice ra (keysM rows cls i).length rc) rfl HR8.out (.slice pa' (partM x r cls r.length).length pc') (partM x r cls r.length) HU.out _ rfl rfl (by rw [HKN.out]; omega) ?_; intro v' w' hv' hg')
                  have hB9 : Hid (Below w.heap.size w w') := HR8.out.frame hB8.out (Nat.le_succ _) hg'
                  have hC9 := Lib.hid (HR8.out.c3 HC8.out (by decide) hg')
                  have hO9 := Lib.hid (HR8.out.other HO8.out hg')
                  have hR9 : Hid (∃ hi, HasRows w' (w.heap.size + 1) hi v' (keysM rows cls (i + 1))) := ⟨_, by rw [HKS.out, ← HPE.out]; exact hv'⟩
                  clear hv' hg' k0 k1 k2
                  go_wp2
                  go_roundw
                  case rel => exact ⟨i + 1, by omega, by go_num, hR9, hO9, hC9, hB9⟩
                  case measure => simp [intOf]; omega
theorem spec_class_no (v : Value) (b : Int) (rows : List (List Int)) (out : List Int) (w : World) (h : LiesS w v b rows out) (hq : seqB b rows out = false) :
    Calls Try.prog 48 #[v] w (Gives (Value.int .i64) 3 [] w) := by
  have HS := Lib.hid h
  obtain ⟨an, cn, ao, co, rfl⟩ := h.form
  clear h
  have HB : Hid (Below w.heap.size w (w.alloc (Obj.cells #[Value.int .i64 b, Value.slice an rows.length cn, Value.slice ao out.length co] 27))) := (Below.refl _ _).alloc (Nat.le_refl _) _
  have HC := Lib.hid (Cells3.new w 27 (.int .i64 b) (.slice an rows.length cn) (.slice ao out.length co))
  have HQ := Lib.hid hq
  have k0 := HC.out.c0
  have k1 := HC.out.c1
  have k2 := HC.out.c2
  clear hq HC
  go_enter Try.func48, Try.ntmps48
  go_wp2_with fail
  refine (spec_is _ b rows out _ (HS.out.below HB.out)).mono ?_
  rintro e W1 ⟨rfl, b1⟩
  rw [HQ.out]
  have HB1 := Lib.hid (HB.out.trans (b1.mono HB.out.size))
  have HX : Hid (Has (Value.int .i64) 3 (W1.alloc (.cells #[] 3)) w.heap.size (.slice (some ⟨W1.heap.size, 0, none⟩) 0 0) []) := has_lit0 (enc := Value.int .i64) rfl HB1.out.size
  have HB2 : Hid (Below w.heap.size w (W1.alloc (.cells #[] 3))) := HB1.out.alloc HB1.out.size _
  clear b1
  go_wp2
  go_ret
  exact ⟨_, rfl, HX.out, HB2.out⟩
theorem spec_class (v : Value) (b : Int) (rows : List (List Int)) (out : List Int) (w : World) (h : LiesS w v b rows out) : Calls Try.prog 48 #[v] w (Gives (Value.int .i64) 3 (classV b rows out) w) := by
  cases hq : seqB b rows out with
  | false => rw [classV, if_neg (by simp [hq])]; exact spec_class_no v b rows out w h hq
  | true => rw [classV, if_pos hq]; exact spec_class_yes v b rows out w h hq
end Mins
end Go.Proofs.Ytdgfecjakmdheaa
/- The steady form told as lists, and what a call says that hands back a new sequence and whether there is one. No conditions beyond those that each fact states. -/
namespace Go.Proofs.Ytdgfecjakmdheaa.Plain
open Go.RowKit
/-- A call that hands back a new sequence and a bool. -/
def GivesK (b : Int) (rows : List (List Int)) (out : List Int) (k : Bool) (w : World) (en : Ending) (w' : World) : Prop := ∃ v, en = .returned (.tuple #[v, .bool k]) ∧ OwnS w' w.heap.size w'.heap.size v b rows out ∧ Below w.heap.size w w'
def formK (b : Int) (rows : List (List Int)) (out : List Int) : Bool := steadyB b rows out || (seqB b rows out && decide (rows.length < 16))
def formB (b : Int) (rows : List (List Int)) (out : List Int) : Int := if formK b rows out = true then b else 0
def formR (b : Int) (rows : List (List Int)) (out : List Int) : List (List Int) := if steadyB b rows out = true then rows else if formK b rows out = true then steadyRows rows else []
def formO (b : Int) (rows : List (List Int)) (out : List Int) : List Int := if steadyB b rows out = true then out else if formK b rows out = true then steadyOut out else []
theorem OwnS.zero (w : World) {lo : Nat} : OwnS w lo w.heap.size (.agg #[.int .i64 0, .slice none 0 0, .slice none 0 0]) 0 [] [] := by
  have h1 : OwnI w lo w.heap.size (.slice none 0 0) [] := ⟨World.ownsRow_nil _ _ _ _, fun k hk => (by cases hk), Nat.le_refl _⟩
  refine ⟨_, _, [], rfl, ⟨World.ownsRow_nil _ _ _ _, fun k hk => (by cases hk), Nat.le_refl _, OwnRows.nil _ _ _⟩, ?_⟩
  refine ⟨rfl, fun i u r hu hr => ?_, fun i j u u' hu hu' hij => ?_⟩
  · cases i with
    | zero => simp at hu hr; subst hu; subst hr; exact h1
    | succ i => simp at hu
  · cases i with
    | zero => simp at hu; subst hu; exact .inl rfl
    | succ i => simp at hu
theorem OwnS.lower {w : World} {lo lo' hi : Nat} {v : Value} {b : Int} {rows : List (List Int)} {out : List Int} (h : OwnS w lo hi v b rows out) (hl : lo' ≤ lo) : OwnS w lo' hi v b rows out := by
  obtain ⟨vn, vo, us, h1, h2, h3⟩ := h
  exact ⟨vn, vo, us, h1, ⟨h2.top.mono hl, h2.lt, h2.le, h2.rows.lower hl⟩, h3.lower hl⟩
end Go.Proofs.Ytdgfecjakmdheaa.Plain
/- A sequence that the call builds in a struct of its own, row by row and term by term: what it owns, and what an appended row and an appended term make of it. No conditions beyond those that each fact states. -/
namespace Go.Proofs.Ytdgfecjakmdheaa.Plain
open Go.RowKit
set_option linter.unusedVariables false
/-- Block p holds the sequence; its slices are the call's own, from block base on, the rows' blocks below hi. -/
structure Building (w : World) (base hi p : Nat) (b : Int) (vn vo : Value) (us : List Value) (rows : List (List Int)) (out : List Int) : Prop where
  top : Has id 25 w base vn us
  rows : OwnRows w base hi (vo :: us) (out :: rows)
  cells : Cells3 w p 27 (.int .i64 b) vn vo
  lo : base ≤ hi
  le : hi ≤ w.heap.size
section
variable {w w' : World} {base hi p : Nat} {b : Int} {vn vo : Value} {us : List Value} {rows : List (List Int)} {out : List Int}
theorem Building.below (h : Building w base hi p b vn vo us rows out) (hb : Below w.heap.size w w') : Building w' base hi p b vn vo us rows out :=
  ⟨h.top.below hb, h.rows.below hb, h.cells.below hb, h.lo, Nat.le_trans h.le hb.size⟩
theorem Building.len (h : Building w base hi p b vn vo us rows out) : us.length = rows.length := by have := h.rows.len; simpa using this
theorem Building.terms (h : Building w base hi p b vn vo us rows out) : OwnI w base hi vo out := h.rows.row 0 vo out rfl rfl
theorem Building.start (h : Cells3 w p 27 (.int .i64 b) (.slice none 0 0) (.slice none 0 0)) (hb : base ≤ w.heap.size) : Building w base base p b (.slice none 0 0) (.slice none 0 0) [] [] [] :=
  ⟨World.ownsRow_nil _ _ _ _, OwnRows.one ⟨World.ownsRow_nil _ _ _ _, fun k hk => (by cases hk), hb⟩, h, Nat.le_refl _, hb⟩
/-- A row that was made behind all the others has been appended and stored. -/
theorem Building.row {u v' : Value} {r : List Int} (h : Building w base hi p b vn vo us rows out) (hu : Has (Value.int .i64) 3 w hi u r) (hv : Has id 25 w' base v' (us ++ [u])) (hg : w.grownBy w' vn.ownBlock) :
    Building (w'.setCell ⟨p, 1, none⟩ v') base w'.heap.size p b v' vo (us ++ [u]) (rows ++ [r]) out := by
  have hI : OwnI w hi w.heap.size u r := ⟨hu, fun k hk => (hu.lt k hk).2, Nat.le_refl _⟩
  have h1 := h.rows.snoc hI h.lo h.le
  have h2 := h1.top_grown h.top hg
  have h3 := h.cells.grown hg (has_ne_c3 h.top h.cells (by decide))
  have h4 := h2.ne_c3 h3 (by decide)
  have h5 := (h2.mono hg.size (Nat.le_refl _)).set (a := ⟨p, 1, none⟩) h4 v'
  exact ⟨hv.set (a := ⟨p, 1, none⟩) (has_ne_c3 hv h3 (by decide)) v', h5, h3.set1 v', Nat.le_trans h.lo (Nat.le_trans h.le hg.size), by rw [size_setCell']; exact Nat.le_refl _⟩
/-- A term has been appended and stored. -/
theorem Building.term {vo' : Value} {o : Int} (h : Building w base hi p b vn vo us rows out) (hv : Has (Value.int .i64) 3 w' base vo' (out ++ [o])) (hg : w.grownBy w' vo.ownBlock) (hb : ∀ k, vo'.ownBlock = some k → vo.ownBlock = some k ∨ w.heap.size ≤ k) :
    Building (w'.setCell ⟨p, 2, none⟩ vo') base w'.heap.size p b vn vo' us rows (out ++ [o]) := by
  have hI := h.terms
  have h2 := h.rows.head_grown hv (Nat.le_refl _) h.le hg hb
  have h3 := h.cells.grown hg (has_ne_c3 hI.has h.cells (by decide))
  have h4 := h2.ne_c3 h3 (by decide)
  have h5 := h2.set (a := ⟨p, 2, none⟩) h4 vo'
  have h6 := h.top.grown hg (h.top.ne_top hI.has)
  exact ⟨h6.set (a := ⟨p, 2, none⟩) (has_ne_c3 h6 h3 (by decide)) vo', h5, h3.set2 vo', Nat.le_trans h.lo (Nat.le_trans h.le hg.size), by rw [size_setCell']; exact Nat.le_refl _⟩
/-- The whole. -/
theorem Building.seq (h : Building w base hi p b vn vo us rows out) : OwnS w base w.heap.size (.agg #[.int .i64 b, vn, vo]) b rows out :=
  OwnS.make_head h.top (h.rows.mono h.le (Nat.le_refl _))
theorem Building.form (h : Building w base hi p b vn vo us rows out) : ∃ an cn ao co, vn = .slice an rows.length cn ∧ vo = .slice ao out.length co := by
  obtain ⟨an, cn, h1, _⟩ := h.top.form
  obtain ⟨ao, co, h2, _⟩ := h.terms.has.form
  exact ⟨an, cn, ao, co, by rw [h1, h.len], h2⟩
end
end Go.Proofs.Ytdgfecjakmdheaa.Plain
/- A sequence that the call builds while other slices of its own grow beside it: the family of all slices of ints, in any order, and what each append makes of it. No conditions beyond those that each fact states. -/
namespace Go.Proofs.Ytdgfecjakmdheaa.Plain
open Go.RowKit
set_option linter.unusedVariables false
/-- The same family in another order. -/
theorem OwnRows.reindex {w : World} {lo hi : Nat} {us us' : List Value} {rows rows' : List (List Int)} (h : OwnRows w lo hi us rows) (σ : Nat → Nat) (hlen : us'.length = rows'.length) (hu : ∀ i, i < us'.length → us'[i]? = us[σ i]?) (hr : ∀ i, i < us'.length → rows'[i]? = rows[σ i]?) (hinj : ∀ i j, i < us'.length → j < us'.length → σ i = σ j → i = j) : OwnRows w lo hi us' rows' :=
  ⟨hlen, fun i u r a b => by
    have hi' := (List.getElem?_eq_some_iff.1 a).1
    rw [hu i hi'] at a
    rw [hr i hi'] at b
    exact h.row _ u r a b, fun i j u u' a b hij => by
    have hi' := (List.getElem?_eq_some_iff.1 a).1
    have hj' := (List.getElem?_eq_some_iff.1 b).1
    rw [hu i hi'] at a
    rw [hu j hj'] at b
    exact h.apart _ _ u u' a b (fun e => hij (hinj i j hi' hj' e))⟩
theorem OwnRows.swap {w : World} {lo hi : Nat} {a b : Value} {us : List Value} {x y : List Int} {rows : List (List Int)} (h : OwnRows w lo hi (a :: b :: us) (x :: y :: rows)) : OwnRows w lo hi (b :: a :: us) (y :: x :: rows) := by
  refine h.reindex (fun | 0 => 1 | 1 => 0 | n => n) (by have := h.len; simpa using this) ?_ ?_ ?_
  · intro i _
    match i with
    | 0 => rfl
    | 1 => rfl
    | n + 2 => rfl
  · intro i _
    match i with
    | 0 => rfl
    | 1 => rfl
    | n + 2 => rfl
  · intro i j _ _ e
    match i, j, e with
    | 0, 0, _ => rfl
    | 0, 1, e => simp at e
    | 0, n + 2, e => simp at e
    | 1, 0, e => simp at e
    | 1, 1, _ => rfl
    | 1, n + 2, e => simp at e
    | n + 2, 0, e => simp at e
    | n + 2, 1, e => simp at e
    | n + 2, m + 2, e => exact e
theorem OwnRows.push {w : World} {lo hi hi' : Nat} {us : List Value} {rows : List (List Int)} {u : Value} {r : List Int} (h : OwnRows w lo hi us rows) (hu : OwnI w hi hi' u r) (hlo : lo ≤ hi) (hle : hi ≤ hi') : OwnRows w lo hi' (u :: us) (r :: rows) := by
  have h1 := h.snoc hu hlo hle
  have hl := h.len
  refine h1.reindex (fun | 0 => us.length | n + 1 => n) (by simp [hl]) ?_ ?_ ?_
  · intro i hi
    match i, hi with
    | 0, _ => simp
    | n + 1, hi => simp at hi; simp [List.getElem?_append_left hi]
  · intro i hi
    match i, hi with
    | 0, _ => simp [hl]
    | n + 1, hi =>
      simp at hi
      show rows[n]? = (rows ++ [r])[n]?
      rw [List.getElem?_append_left (by omega)]
  · intro i j hi hj e
    match i, j, hi, hj, e with
    | 0, 0, _, _, _ => rfl
    | 0, n + 1, _, hj, e => simp at hj e; omega
    | n + 1, 0, hi, _, e => simp at hi e; omega
    | n + 1, m + 1, _, _, e => exact congrArg Nat.succ e
theorem OwnRows.tail {w : World} {lo hi : Nat} {u : Value} {us : List Value} {r : List Int} {rows : List (List Int)} (h : OwnRows w lo hi (u :: us) (r :: rows)) : OwnRows w lo hi us rows :=
  h.reindex (fun n => n + 1) (by have := h.len; simpa using this) (fun i _ => rfl) (fun i _ => rfl) (fun i j _ _ e => by simpa using e)
/-- Block p holds the sequence; its slices and the slice eo of numbers ed beside it are the call's own, from block base on. -/
structure Making (w : World) (base hi p : Nat) (b : Int) (vn vo eo : Value) (us : List Value) (rows : List (List Int)) (out ed : List Int) : Prop where
  top : Has id 25 w base vn us
  fam : OwnRows w base hi (eo :: vo :: us) (ed :: out :: rows)
  cells : Cells3 w p 27 (.int .i64 b) vn vo
  lo : base ≤ hi
  le : hi ≤ w.heap.size
/-- The same with a row in the making. -/
structure Rowing (w : World) (base hi p : Nat) (b : Int) (vn vo eo ro : Value) (us : List Value) (rows : List (List Int)) (out ed r : List Int) : Prop where
  top : Has id 25 w base vn us
  fam : OwnRows w base hi (ro :: eo :: vo :: us) (r :: ed :: out :: rows)
  cells : Cells3 w p 27 (.int .i64 b) vn vo
  lo : base ≤ hi
  le : hi ≤ w.heap.size
section
variable {w w' : World} {base hi p : Nat} {b : Int} {vn vo eo ro : Value} {us : List Value} {rows : List (List Int)} {out ed r : List Int}
theorem Making.below (h : Making w base hi p b vn vo eo us rows out ed) (hb : Below w.heap.size w w') : Making w' base hi p b vn vo eo us rows out ed :=
  ⟨h.top.below hb, h.fam.below hb, h.cells.below hb, h.lo, Nat.le_trans h.le hb.size⟩
theorem Rowing.below (h : Rowing w base hi p b vn vo eo ro us rows out ed r) (hb : Below w.heap.size w w') : Rowing w' base hi p b vn vo eo ro us rows out ed r :=
  ⟨h.top.below hb, h.fam.below hb, h.cells.below hb, h.lo, Nat.le_trans h.le hb.size⟩
theorem Making.len (h : Making w base hi p b vn vo eo us rows out ed) : us.length = rows.length := by have := h.fam.len; simpa using this
theorem Rowing.len (h : Rowing w base hi p b vn vo eo ro us rows out ed r) : us.length = rows.length := by have := h.fam.len; simpa using this
theorem Making.extra (h : Making w base hi p b vn vo eo us rows out ed) : OwnI w base hi eo ed := h.fam.row 0 eo ed rfl rfl
theorem Making.terms (h : Making w base hi p b vn vo eo us rows out ed) : OwnI w base hi vo out := h.fam.row 1 vo out rfl rfl
theorem Rowing.extra (h : Rowing w base hi p b vn vo eo ro us rows out ed r) : OwnI w base hi eo ed := h.fam.row 1 eo ed rfl rfl
theorem Rowing.row_ (h : Rowing w base hi p b vn vo eo ro us rows out ed r) : OwnI w base hi ro r := h.fam.row 0 ro r rfl rfl
theorem Making.building (h : Making w base hi p b vn vo eo us rows out ed) : Building w base hi p b vn vo us rows out := ⟨h.top, h.fam.tail, h.cells, h.lo, h.le⟩
theorem Making.start (h : Cells3 w p 27 (.int .i64 b) (.slice none 0 0) (.slice none 0 0)) (he : Has (Value.int .i64) 3 w base eo ed) (hb : base ≤ w.heap.size) : Making w base w.heap.size p b (.slice none 0 0) (.slice none 0 0) eo [] [] [] ed := by
  have h1 : OwnRows w base base [.slice none 0 0] [[]] := OwnRows.one ⟨World.ownsRow_nil _ _ _ _, fun k hk => (by cases hk), hb⟩
  exact ⟨World.ownsRow_nil _ _ _ _, h1.push (own_of_has he) (Nat.le_refl _) hb, h, hb, Nat.le_refl _⟩
/-- A new row begins. -/
theorem Making.begin (h : Making w base hi p b vn vo eo us rows out ed) (hb : Below w.heap.size w w') (hr : Has (Value.int .i64) 3 w' w.heap.size ro r) : Rowing w' base w'.heap.size p b vn vo eo ro us rows out ed r := by
  have h1 := h.below hb
  have h2 : OwnI w' hi w'.heap.size ro r := ⟨hr.mono h.le, fun k hk => (hr.lt k hk).2, Nat.le_refl _⟩
  exact ⟨h1.top, h1.fam.push h2 h.lo h1.le, h1.cells, Nat.le_trans h1.lo h1.le, Nat.le_refl _⟩
/-- The row has grown. -/
theorem Rowing.grow {ro' : Value} {x : Int} (h : Rowing w base hi p b vn vo eo ro us rows out ed r) (hv : Has (Value.int .i64) 3 w' base ro' (r ++ [x])) (hg : w.grownBy w' ro.ownBlock) (hb : ∀ k, ro'.ownBlock = some k → ro.ownBlock = some k ∨ w.heap.size ≤ k) :
    Rowing w' base w'.heap.size p b vn vo eo ro' us rows out ed (r ++ [x]) :=
  ⟨h.top.grown hg (h.top.ne_top h.row_.has), h.fam.head_grown hv (Nat.le_refl _) h.le hg hb, h.cells.grown hg (has_ne_c3 h.row_.has h.cells (by decide)), Nat.le_trans h.lo (Nat.le_trans h.le hg.size), Nat.le_refl _⟩
/-- The slice beside it has grown. -/
theorem Rowing.more {eo' : Value} {x : Int} (h : Rowing w base hi p b vn vo eo ro us rows out ed r) (hv : Has (Value.int .i64) 3 w' base eo' (ed ++ [x])) (hg : w.grownBy w' eo.ownBlock) (hb : ∀ k, eo'.ownBlock = some k → eo.ownBlock = some k ∨ w.heap.size ≤ k) :
    Rowing w' base w'.heap.size p b vn vo eo' ro us rows out (ed ++ [x]) r :=
  ⟨h.top.grown hg (h.top.ne_top h.extra.has), (h.fam.swap.head_grown hv (Nat.le_refl _) h.le hg hb).swap, h.cells.grown hg (has_ne_c3 h.extra.has h.cells (by decide)), Nat.le_trans h.lo (Nat.le_trans h.le hg.size), Nat.le_refl _⟩
/-- The row has been appended and stored. -/
theorem Rowing.done {v' : Value} (h : Rowing w base hi p b vn vo eo ro us rows out ed r) (hv : Has id 25 w' base v' (us ++ [ro])) (hg : w.grownBy w' vn.ownBlock) :
    Making (w'.setCell ⟨p, 1, none⟩ v') base w'.heap.size p b v' vo eo (us ++ [ro]) (rows ++ [r]) out ed := by
  have h1 : OwnRows w base hi (eo :: vo :: (us ++ [ro])) (ed :: out :: (rows ++ [r])) := h.fam.rotate
  have h2 := h1.top_grown h.top hg
  have h3 := h.cells.grown hg (has_ne_c3 h.top h.cells (by decide))
  have h4 := h2.ne_c3 h3 (by decide)
  have h5 := (h2.mono (Nat.le_trans h.le hg.size) (Nat.le_refl _)).set (a := ⟨p, 1, none⟩) h4 v'
  exact ⟨hv.set (a := ⟨p, 1, none⟩) (has_ne_c3 hv h3 (by decide)) v', h5, h3.set1 v', Nat.le_trans h.lo (Nat.le_trans h.le hg.size), by rw [size_setCell']; exact Nat.le_refl _⟩
/-- A term has been appended and stored. -/
theorem Making.term {vo' : Value} {o : Int} (h : Making w base hi p b vn vo eo us rows out ed) (hv : Has (Value.int .i64) 3 w' base vo' (out ++ [o])) (hg : w.grownBy w' vo.ownBlock) (hb : ∀ k, vo'.ownBlock = some k → vo.ownBlock = some k ∨ w.heap.size ≤ k) :
    Making (w'.setCell ⟨p, 2, none⟩ vo') base w'.heap.size p b vn vo' eo us rows (out ++ [o]) ed := by
  have hI := h.terms
  have h2 := (h.fam.swap.head_grown hv (Nat.le_refl _) h.le hg hb).swap
  have h3 := h.cells.grown hg (has_ne_c3 hI.has h.cells (by decide))
  have h4 := h2.ne_c3 h3 (by decide)
  have h5 := h2.set (a := ⟨p, 2, none⟩) h4 vo'
  have h6 := h.top.grown hg (h.top.ne_top hI.has)
  exact ⟨h6.set (a := ⟨p, 2, none⟩) (has_ne_c3 h6 h3 (by decide)) vo', h5, h3.set2 vo', Nat.le_trans h.lo (Nat.le_trans h.le hg.size), by rw [size_setCell']; exact Nat.le_refl _⟩
theorem Making.form (h : Making w base hi p b vn vo eo us rows out ed) : ∃ an cn ao co, vn = .slice an rows.length cn ∧ vo = .slice ao out.length co := h.building.form
end
end Go.Proofs.Ytdgfecjakmdheaa.Plain
