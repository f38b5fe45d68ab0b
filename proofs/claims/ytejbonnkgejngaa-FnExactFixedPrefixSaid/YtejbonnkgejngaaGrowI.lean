/- Contract of the program's IsGrowing. No conditions beyond those that each states. -/
import Derived.Test.YtejbonnkgejngaaGrowS
namespace Go.Proofs.Ytejbonnkgejngaa
open Go.ChangeShapes Go.WideShapes Go.ChangeAt Go.RowKit
open Go.PlainAid Plain
set_option linter.unusedVariables false
namespace Mor
open Seqs
theorem index_van (v : Value) (xs : List Int) (cap : Array Value) (p : Int → Bool) (w : World) (h : Lies (Value.int .i64) w v xs)
    (hp : Hid (∀ x ∈ xs, Calls Try.prog 46 (#[.int .i64 x] ++ cap) w fun e w' => e = .returned (.bool (p x)) ∧ w = w')) :
    Calls Try.prog 44 #[v, .func (.func 46) #[] cap] w fun e w' => e = .returned (.int .i64 (firstAt p xs)) ∧ w = w' := by
  have eg : ∀ args w, (callFunc 46 args).run Try.prog w = .ok (.enter 46 args) w := enters_of Try.func46 (by kernel_rfl) rfl
  obtain ⟨hl, a, ca, rfl, _, hc⟩ := h
  have HC := Lib.hid hc
  clear hc
  go_enter Try.func44, Try.ntmps44
  go_wp2
  go_loop [8] (fun i' => ∃ i : Nat, i ≤ xs.length ∧ i' = .int .i64 i ∧ Hid (∀ (j : Nat) (y : Int), j < i → xs[j]? = some y → p y = false)) (fun i' => xs.length - (intOf i').toNat)
  case atStart => exact ⟨0, Nat.zero_le _, rfl, fun j x h => by omega⟩
  case round =>
    obtain ⟨i, hi, rfl, HI⟩ := hrel
    by_cases hlt : i < xs.length
    · obtain ⟨x, hx⟩ : ∃ x, xs[i]? = some x := ⟨_, List.getElem?_eq_getElem hlt⟩
      obtain ⟨q, r, rfl, hc2⟩ := HC.out i _ hx
      have HX := Lib.hid hx
      have HP := Lib.hid (hp.out x (List.mem_of_getElem? hx))
      clear hx
      obtain ⟨c, hcc⟩ : ∃ c, c = p x := ⟨_, rfl⟩
      rw [← hcc] at HP
      have HCC := Lib.hid hcc
      clear hcc
      cases c with
      | true =>
        have HE := Lib.hid (first_yes HX.out HCC.out.symm HI.out)
        go_wp2_with (go_at_fn 46; refine HP.out.mono ?_; rintro e w' ⟨rfl, rfl⟩)
        go_ret
        exact ⟨ret_i HE.out.symm, rfl⟩
      | false =>
        have HN : Hid (∀ (j : Nat) (y : Int), j < i + 1 → xs[j]? = some y → p y = false) := fun j y hj hy => by
          by_cases e : j = i
          · subst e
            obtain rfl := Option.some.inj (HX.out.symm.trans hy)
            exact HCC.out.symm
          · exact HI.out j y (by omega) hy
        go_wp2_with (go_at_fn 46; refine HP.out.mono ?_; rintro e w' ⟨rfl, rfl⟩)
        go_round
        case rel => exact ⟨i + 1, by omega, by go_num, HN⟩
        case measure => simp [intOf]; omega
    · have HE := Lib.hid (first_no (p := p) (xs := xs) fun j x hx => HI.out j x (by have := (List.getElem?_eq_some_iff.1 hx).1; omega) hx)
      go_wp2
      go_ret
      exact ⟨ret_i HE.out.symm, rfl⟩
theorem any_van (v : Value) (xs : List Int) (cap : Array Value) (p : Int → Bool) (w : World) (h : Lies (Value.int .i64) w v xs)
    (hp : Hid (∀ x ∈ xs, Calls Try.prog 46 (#[.int .i64 x] ++ cap) w fun e w' => e = .returned (.bool (p x)) ∧ w = w')) :
    Calls Try.prog 33 #[v, .func (.func 46) #[] cap] w fun e w' => e = .returned (.bool (xs.any p)) ∧ w = w' := by
  have HL := Lib.hid h
  have HG := Lib.hid (first_ge p xs)
  clear h
  go_enter Try.func33, Try.ntmps33
  go_wp2_with fail
  refine (index_van v xs cap p w HL.out hp).mono ?_
  rintro e w' ⟨rfl, rfl⟩
  go_wp2
  go_ret
  exact ⟨ret_b HG.out, rfl⟩
def goneAt (gs : List Bool) (x : Int) : Bool := gs.getD x.toNat false
theorem van_test (x : Int) (B : Nat) (ga : Option Addr) (gc : Nat) (gs : List Bool) (w : World) (hB : w.cell? ⟨B, 0, none⟩ = some (.slice ga gs.length gc)) (hg : Lies Value.bool w (.slice ga gs.length gc) gs) (h0 : 0 ≤ x) (h1 : x < (gs.length : Int)) :
    Calls Try.prog 46 #[.int .i64 x, .pointer (some ⟨B, 0, none⟩)] w fun e w' => e = .returned (.bool (!goneAt gs x)) ∧ w = w' := by
  obtain ⟨xn, rfl⟩ := Int.eq_ofNat_of_zero_le h0
  have hxn : xn < gs.length := by omega
  obtain ⟨hl, a', c', hv, _, hc⟩ := hg
  injection hv with e1 e2 e3
  subst e1
  obtain ⟨b, off, rfl, hcell⟩ := hc xn _ (List.getElem?_eq_getElem hxn)
  have HE : Hid (goneAt gs (xn : Int) = gs[xn]) := by show _ = _; simp [goneAt, List.getD, hxn]
  clear hc
  obtain ⟨c, hcc⟩ : ∃ c, c = gs[xn] := ⟨_, rfl⟩
  rw [← hcc] at hcell HE
  clear hcc
  rw [HE.out]
  go_enter Try.func46, Try.ntmps46
  go_wp2
  go_ret
  exact ⟨rfl, rfl⟩
theorem all_not_any (xs : List Int) (p : Int → Bool) : (!xs.any fun x => !p x) = xs.all p := by
  induction xs with
  | nil => rfl
  | cons x xs ih => simp [List.any_cons, List.all_cons, ← ih]
theorem vanishes (v u : Value) (xs : List Int) (gs : List Bool) (w : World) (h : Lies (Value.int .i64) w v xs) (hg : Lies Value.bool w u gs) (hx : ∀ x ∈ xs, 0 ≤ x ∧ x < (gs.length : Int)) :
    Calls Try.prog 42 #[v, u] w fun e w' => e = .returned (.bool (xs.all (goneAt gs))) ∧ Below w.heap.size w w' := by
  obtain ⟨hgl, ga, gc, rfl, hgr⟩ := id hg
  have HL := Lib.hid h
  have HE := Lib.hid (all_not_any xs (goneAt gs))
  have hB : Below w.heap.size w (w.alloc (Obj.cells #[Value.slice ga gs.length gc] 55)) := (Below.refl _ _).alloc (Nat.le_refl _) _
  have hc : (w.alloc (Obj.cells #[Value.slice ga gs.length gc] 55)).cell? ⟨w.heap.size, 0, none⟩ = some (.slice ga gs.length gc) := one_cell w 55 _ 0 _ rfl
  have HP : Hid (∀ x ∈ xs, Calls Try.prog 46 (#[.int .i64 x] ++ #[.pointer (some ⟨w.heap.size, 0, none⟩)]) (w.alloc (Obj.cells #[Value.slice ga gs.length gc] 55)) fun e w' => e = .returned (.bool (!goneAt gs x)) ∧ (w.alloc (Obj.cells #[Value.slice ga gs.length gc] 55)) = w') := fun x hxm => van_test x w.heap.size ga gc gs _ hc (hg.below hB) (hx x hxm).1 (hx x hxm).2
  have HB := Lib.hid hB
  clear hB hc hg h hx hgr
  go_enter Try.func42, Try.ntmps42
  go_wp2_with fail
  refine (any_van _ xs _ (fun x => !goneAt gs x) _ (HL.out.below HB.out) HP).mono ?_
  rintro e w' ⟨rfl, rfl⟩
  go_wp2
  go_ret
  exact ⟨ret_b HE.out, HB.out⟩
/-- Behind j rounds and i letters of the next one. -/
structure GoneI (m : List (List Int)) (j i : Nat) (gs : List Bool) : Prop where
  len : gs.length = m.length
  low : ∀ l : Nat, l < m.length → van m j l = true → gs[l]? = some true
  nxt : ∀ l : Nat, l < i → l < m.length → van m (j + 1) l = true → gs[l]? = some true
  up : ∀ l : Nat, gs[l]? = some true → ∃ k, van m k l = true
theorem gone_start (m : List (List Int)) : GoneI m 0 0 (List.replicate m.length false) :=
  ⟨by simp, fun l _ h => by simp [van] at h, fun l h => by omega, fun l h => by
    rw [List.getElem?_replicate] at h
    split at h <;> simp at h⟩
theorem gone_at {gs : List Bool} {l : Nat} : goneAt gs (l : Int) = true ↔ gs[l]? = some true := by
  unfold goneAt
  rw [List.getD_eq_getElem?_getD, Int.toNat_natCast]
  cases gs[l]? with
  | none => simp
  | some b => simp
theorem gone_step {m : List (List Int)} (hm : IsMor m) {j i : Nat} {gs : List Bool} (h : GoneI m j i gs) (hi : i < m.length) : GoneI m j (i + 1) (gs.set i ((img m i).all (goneAt gs))) := by
  have him := hm.img (x := (i : Int)) (by omega) (by omega)
  have hset : ∀ l : Nat, (gs.set i ((img m i).all (goneAt gs)))[l]? = if i = l then some ((img m i).all (goneAt gs)) else gs[l]? := fun l => by
    rw [List.getElem?_set]
    by_cases e : i = l
    · rw [if_pos e, if_pos e, if_pos (by rw [h.len]; exact hi)]
    · rw [if_neg e, if_neg e]
  have hnew : van m (j + 1) i = true → (img m i).all (goneAt gs) = true := fun hv => by
    rw [van_succ, List.all_eq_true] at hv
    rw [List.all_eq_true]
    intro y hy
    have hyb := him.2.2 y hy
    have e : ((y.toNat : Nat) : Int) = y := by omega
    have h1 := h.low y.toNat (by omega) (by rw [e]; exact hv y hy)
    rw [← e]
    exact gone_at.2 h1
  refine ⟨by rw [List.length_set]; exact h.len, fun l hl hv => ?_, fun l hl hlm hv => ?_, fun l hl => ?_⟩
  · rw [hset]
    by_cases e : i = l
    · subst e
      rw [if_pos rfl, hnew (van_mono j _ hv)]
    · rw [if_neg e]; exact h.low l hl hv
  · rw [hset]
    by_cases e : i = l
    · subst e
      rw [if_pos rfl, hnew hv]
    · rw [if_neg e]; exact h.nxt l (by omega) hlm hv
  · rw [hset] at hl
    by_cases e : i = l
    · subst e
      rw [if_pos rfl] at hl
      have hl' := Option.some.inj hl
      refine ⟨m.length + 1, ?_⟩
      rw [van_succ, List.all_eq_true]
      rw [List.all_eq_true] at hl'
      intro y hy
      have hyb := him.2.2 y hy
      have e : ((y.toNat : Nat) : Int) = y := by omega
      have h1 := hl' y hy
      rw [← e] at h1
      obtain ⟨k, hk⟩ := h.up _ (gone_at.1 h1)
      rw [e] at hk
      exact van_end hm hyb hk
    · rw [if_neg e] at hl; exact h.up l hl
theorem gone_round {m : List (List Int)} {j : Nat} {gs : List Bool} (h : GoneI m j m.length gs) : GoneI m (j + 1) 0 gs :=
  ⟨h.len, fun l hl hv => h.nxt l hl hl hv, fun l hl => by omega, h.up⟩
theorem gone_end {m : List (List Int)} (hm : IsMor m) {gs : List Bool} (h : GoneI m m.length 0 gs) {w : List Int} (hw : ∀ x ∈ w, 0 ≤ x ∧ x < (m.length : Int)) : w.all (goneAt gs) = allVan m m.length w := by
  unfold allVan
  rw [Bool.eq_iff_iff, List.all_eq_true, List.all_eq_true]
  constructor
  · intro hh x hx
    have hb := hw x hx
    have e : ((x.toNat : Nat) : Int) = x := by omega
    have h1 := hh x hx
    rw [← e] at h1
    obtain ⟨k, hk⟩ := h.up _ (gone_at.1 h1)
    rw [e] at hk
    exact van_end hm hb hk
  · intro hh x hx
    have hb := hw x hx
    have e : ((x.toNat : Nat) : Int) = x := by omega
    have h1 := h.low x.toNat (by omega) (by rw [e]; exact hh x hx)
    rw [← e]
    exact gone_at.2 h1
theorem infoB : (Try.prog.info? 4).map (fun i => (i.zero, i.size, i.bytes)) = some (some (.bool false), 1, 1) := by kernel_rfl
theorem made_bools {w1 : World} {base n : Nat} {v : Value} (h : w1.ownsRow base 4 1 v n (madeCells (Value.bool false).cells (n * 1)).toList) : Has Value.bool 4 w1 base v (List.replicate n false) := by
  rw [show (Value.bool false).cells = #[Value.bool false] from rfl, toList_madeCells_one] at h
  show w1.ownsRow _ _ _ _ _ _
  rw [List.length_replicate]
  simpa using h
set_option maxHeartbeats 1000000 in
theorem vanishing (v : Value) (m : List (List Int)) (w : World) (h : LiesM w v m) (hm : morB m = true) :
    Calls Try.prog 43 #[v] w fun e w' => ∃ u gs, e = .returned u ∧ GoneI m m.length 0 gs ∧ Lies Value.bool w' u gs ∧ Below w.heap.size w w' := by
  obtain ⟨i0, hi, hz0, hz1, hz2⟩ := info_parts infoB
  obtain ⟨an, cn, rfl⟩ := h.form
  have HM := Lib.hid h
  have HMB := Lib.hid (morB_out hm)
  have hm16 : m.length ≤ 16 := (morB_out hm).2.1
  have HB : Hid (Below w.heap.size w (w.alloc (Obj.cells #[Value.slice an m.length cn] 31))) := (Below.refl _ _).alloc (Nat.le_refl _) _
  have HC := Lib.hid (Cells1.new w 31 (.slice an m.length cn))
  have hz : (w.alloc (Obj.cells #[Value.slice an m.length cn] 31)).heap.size = w.heap.size + 1 := size_alloc' _ _
  have HZ := Lib.hid hz
  have k0 := HC.out.c0
  clear h hz hm
  go_enter Try.func43, Try.ntmps43
  go_wp2_with (at_make; obtain ⟨W0, hW0⟩ : ∃ W, W = w.alloc (Obj.cells #[Value.slice an m.length cn] 31) := ⟨_, rfl⟩; rw [← hW0] at HB HC HZ k0 ⊢; refine wpList_make_full W0 rfl _ _ 55 rfl W0.heap.size 4 i0 (.bool false) 1 Try.underlying55 hi hz0 hz1 .i64 .i64 _ _ m.length rfl rfl rfl rfl (by rw [hz2]; omega) (by unfold maxLen; omega) (Nat.le_refl _) ?_; intro w1 hown hgrow; have hb1 := below_of_grown hgrow; have HO1 := Lib.hid (made_bools hown); have HB1 := Lib.hid (HB.out.trans (hb1.mono HB.out.size)); have HC1 := Lib.hid (HC.out.below hb1); rw [HZ.out] at *; clear hown hgrow hb1 k0; have k0 := HC1.out.c0; clear HB HC HZ hW0)
  go_loopw [13] (fun j' wr => ∃ (j : Nat) (gs : List Bool), j ≤ m.length ∧ j' = .int .i64 j ∧ Hid (GoneI m j 0 gs) ∧ Hid (Has Value.bool 4 wr (w.heap.size + 1) (.slice (some ⟨w.heap.size + 1, 0, none⟩) m.length m.length) gs) ∧ Hid (Cells1 wr w.heap.size 31 (.slice an m.length cn)) ∧ Hid (Below w.heap.size w wr)) (fun j' _ => m.length - (intOf j').toNat)
  case atStart => exact ⟨0, _, Nat.zero_le _, rfl, gone_start m, HO1, HC1, HB1⟩
  case round =>
    obtain ⟨j, gs, hj, rfl, HGI, HOj, HCj, HBj⟩ := hrel
    by_cases hlt : j < m.length
    · clear k0
      have k0 := HCj.out.c0
      obtain ⟨W5, rfl⟩ : ∃ W : World, W = wr := ⟨_, rfl⟩
      go_wp2
      clear k0
      go_loopw [18] (fun i' wr => ∃ (i : Nat) (gs : List Bool), i ≤ m.length ∧ i' = .int .i64 i ∧ Hid (GoneI m j i gs) ∧ Hid (Has Value.bool 4 wr (w.heap.size + 1) (.slice (some ⟨w.heap.size + 1, 0, none⟩) m.length m.length) gs) ∧ Hid (Cells1 wr w.heap.size 31 (.slice an m.length cn)) ∧ Hid (Below w.heap.size w wr)) (fun i' _ => m.length - (intOf i').toNat)
      case atStart => exact ⟨0, gs, Nat.zero_le _, rfl, HGI, HOj, HCj, HBj⟩
      case round =>
        obtain ⟨i, gs, hi', rfl, HGi, HOi, HCi, HBi⟩ := hrel
        by_cases hlt2 : i < m.length
        · obtain ⟨ri, hri⟩ : ∃ ri, m[i]? = some ri := ⟨_, List.getElem?_eq_getElem hlt2⟩
          obtain ⟨p, o, ua, uc, rfl, hcr, hlr⟩ := rows_at (HM.out.rows.below HBi.out) hri
          have HIM := Lib.hid (img_at hri)
          have HGL := Lib.hid HGi.out.len
          have HXI : Hid (∀ x ∈ ri, 0 ≤ x ∧ x < (gs.length : Int)) := fun x hx => by rw [HGL.out]; exact (HMB.out.2.2 ri (List.mem_of_getElem? hri)).2 x hx
          have HLR := Lib.hid hlr
          clear hri hlr
          go_wp2_with fail
          refine (vanishes _ _ ri gs _ HLR.out HOi.out.lies HXI.out).mono ?_
          rintro e W6 ⟨rfl, hb⟩
          have HO6 := Lib.hid (HOi.out.below hb)
          have HC6 := Lib.hid (HCi.out.below hb)
          have HB6 := Lib.hid (HBi.out.trans (hb.mono HBi.out.size))
          have HG6 : Hid (GoneI m j (i + 1) (gs.set i (ri.all (goneAt gs)))) := by
            show GoneI _ _ _ _
            have h1 := gone_step HMB.out HGi.out hlt2
            rw [HIM.out] at h1
            exact h1
          obtain ⟨c, hc⟩ : ∃ c, c = ri.all (goneAt gs) := ⟨_, rfl⟩
          rw [← hc] at HG6 ⊢
          clear hb HOi HCi HBi hc HGi hcr
          have H1 : W6.ownsRow (w.heap.size + 1) 4 1 (.slice (some ⟨w.heap.size + 1, 0, none⟩) m.length m.length) m.length (gs.map Value.bool) := by
            have h1 := HO6.out
            unfold Has at h1
            rw [HGL.out] at h1
            exact h1
          have hgi : i < gs.length := by rw [HGL.out]; exact hlt2
          have hc : W6.cell? ⟨w.heap.size + 1, i, none⟩ = some (.bool gs[i]) := by
            rw [H1.cellAt i (by omega), List.getElem?_map, List.getElem?_eq_getElem hgi]
            rfl
          have hfr := H1.frozenAt i
          have hst := H1.stored i (.bool c)
          rw [← List.map_set] at hst
          have HS := Lib.hid hst
          have HGL2 : Hid ((gs.set i c).length = m.length) := by show _ = _; rw [List.length_set, HGL.out]
          clear hst H1
          go_wp2
          go_roundw
          case rel => exact ⟨i + 1, gs.set i c, by omega, by go_num, HG6, by show Has _ _ _ _ _ _; unfold Has; rw [HGL2.out]; exact HS.out.1, HC6.out.grown HS.out.2 (by simp), HB6.out.grown HS.out.2 HB6.out.size (fun k hk => by cases hk; omega)⟩
          case measure => simp [intOf]; omega
        · obtain rfl : i = m.length := by omega
          go_wp2
          go_roundw
          case rel => exact ⟨j + 1, gs, by omega, by go_num, gone_round HGi.out, HOi, HCi, HBi⟩
          case measure => simp [intOf]; omega
    · obtain rfl : j = m.length := by omega
      go_wp2
      go_ret
      exact ⟨_, gs, rfl, HGI.out, HOj.out.lies, HBj.out⟩
set_option maxRecDepth 100000 in
set_option maxHeartbeats 2000000 in
theorem impl_grow (v : Value) (m : List (List Int)) (a : Int) (w : World) (h : OwnedM w v m) :
    Calls Try.prog 29 #[v, .int .i64 a] w fun e w' => e = .returned (.bool (growB m a)) ∧ Below w.heap.size w w' := by
  obtain ⟨an, cn, rfl⟩ := h.lies.form
  have HO := Lib.hid h
  have HM := Lib.hid h.lies
  have HB : Hid (Below w.heap.size w (w.alloc (Obj.cells #[Value.slice an m.length cn] 31))) := (Below.refl _ _).alloc (Nat.le_refl _) _
  have HC := Lib.hid (Cells1.new w 31 (.slice an m.length cn))
  clear h
  go_enter Try.func29, Try.ntmps29
  go_wp2_with fail
  refine (impl_mor _ m _ (HM.out.below HB.out)).mono ?_
  rintro e W1 ⟨rfl, hb⟩
  have HB1 := Lib.hid (HB.out.trans (hb.mono HB.out.size))
  have HC1 := Lib.hid (HC.out.below hb)
  have k0 := HC1.out.c0
  clear hb HC HB
  obtain ⟨c, hc⟩ : ∃ c, morB m = c := ⟨_, rfl⟩
  rw [hc]
  have HMB := Lib.hid hc
  clear hc
  cases c with
  | false =>
    have HE := Lib.hid (grow_no1 (a := a) HMB.out)
    go_wp2
    go_ret
    exact ⟨ret_b HE.out.symm, HB1.out⟩
  | true =>
    go_wp2_with fail
    refine (has_let _ m a _ (HM.out.below HB1.out)).mono ?_
    rintro e W2 ⟨rfl, hb⟩
    have HB2 := Lib.hid (HB1.out.trans (hb.mono HB1.out.size))
    have HC2 := Lib.hid (HC1.out.below hb)
    clear hb HC1 HB1 k0
    have k0 := HC2.out.c0
    obtain ⟨c, hc⟩ : ∃ c, letB m a = c := ⟨_, rfl⟩
    rw [hc]
    have HLB := Lib.hid hc
    clear hc
    cases c with
    | false =>
      have HE : Hid (growB m a = false) := grow_no2 (by have := of_decide_eq_false HLB.out; omega)
      go_wp2
      go_ret
      exact ⟨ret_b HE.out.symm, HB2.out⟩
    | true =>
      have hab := of_decide_eq_true HLB.out
      obtain ⟨n, rfl⟩ := Int.eq_ofNat_of_zero_le hab.1
      have hn : n < m.length := by omega
      obtain ⟨r, hr⟩ : ∃ r, m[n]? = some r := ⟨_, List.getElem?_eq_getElem hn⟩
      obtain ⟨p, o, ua, uc, rfl, hcr, hlr, huc⟩ := (HO.out.below HB2.out).row hr
      have HR := Lib.hid hr
      have HLR := Lib.hid hlr
      clear hr hlr hab
      by_cases h2 : r.length < 2
      · have hd2 := decide_eq_false (show ¬ (r.length : Int) ≥ 2 by omega)
        have HE := Lib.hid (grow_no3 HR.out (.inl h2))
        go_wp2
        go_quiet (fail)
        go_wp2
        go_ret
        exact ⟨ret_b HE.out.symm, below_drewN HB2.out _⟩
      · have hd2 := decide_eq_true (show (r.length : Int) ≥ 2 by omega)
        have h02 : 0 < r.length := by omega
        have huc1 : ¬ uc = 1 := by omega
        have h02i : (0 : Int) < (r.length : Int) := by omega
        obtain ⟨x, hx⟩ : ∃ x, r[0]? = some x := ⟨_, List.getElem?_eq_getElem h02⟩
        have HX0 : Hid (r.getD 0 0 = x) := by show _ = _; simp [List.getD, hx]
        obtain ⟨q, s, rfl, hcx⟩ := lies_el HLR.out hx
        rw [Nat.add_zero] at hcx
        clear hx
        by_cases he : x = (n : Int)
        · have hd3 : (x == (n : Int)) = true := by rw [he]; simp
          have HE := Lib.hid (grow_yes HMB.out hn HR.out (by omega) (HX0.out.trans he))
          clear he
          have HD : Hid (Lies (Value.int .i64) W2 (.slice (some ⟨q, s + 1, none⟩) (r.length - 1) (uc - 1)) (r.drop 1)) := lies_drop1 HLR.out (by omega) huc
          have HMM := Lib.hid (morB_out HMB.out)
          have HDI : Hid (∀ x ∈ r.drop 1, 0 ≤ x ∧ x < (m.length : Int)) := fun y hy => (HMM.out.2.2 r (List.mem_of_getElem? HR.out)).2 y (List.mem_of_mem_drop hy)
          have HLM := Lib.hid (HM.out.below HB2.out)
          have h12i : (1 : Int) ≤ (r.length : Int) := by omega
          obtain ⟨D, hDD⟩ : ∃ D, D = r.drop 1 := ⟨_, rfl⟩
          rw [← hDD] at HE HD HDI
          clear hDD
          go_wp2
          have bd := below_drew' W2
          obtain ⟨W3, hW3⟩ : ∃ W, W = W2.drew := ⟨_, rfl⟩
          rw [← hW3] at bd
          have HB3 := Lib.hid (HB2.out.trans (bd.mono HB2.out.size))
          have HC3 := Lib.hid (HC2.out.below bd)
          have HX3 := Lib.hid (cell_kept bd hcx)
          go_region_held3 (fun w' => w'.cell? ⟨w.heap.size, 0, none⟩ = some (.slice (some ⟨p, o, none⟩) m.length cn) ∧ w'.cell? ⟨q, s, none⟩ = some (.int .i64 x))
            (first | (rw [← hW3]; exact ⟨HC3.out.c0, HX3.out⟩) | exact ⟨(HC3.out.below bt).c0, cell_kept bt HX3.out⟩ | exact ⟨((HC3.out.below bt).below bu).c0, cell_kept bu (cell_kept bt HX3.out)⟩)
            (first | (go_at_call 43; rw [← hW3]; refine (vanishing _ m _ (HLM.out.below bd) HMB.out).mono ?_; rintro e W4 ⟨ug, gs, rfl, hgi, hgl, bt⟩) | (go_at_call 42; refine (vanishes _ _ D gs _ ((HD.out.below bd).below bt) hgl (fun y hy => by rw [hgi.len]; exact HDI.out y hy)).mono ?_; rintro e W5 ⟨rfl, bu⟩))
          have HEN : Hid (growB m n = !D.all (goneAt gs)) := by show _ = _; rw [HE.out, gone_end HMM.out hgi HDI.out]
          have HB5 := Lib.hid ((HB3.out.trans (bt.mono HB3.out.size)).trans (bu.mono (HB3.out.trans (bt.mono HB3.out.size)).size))
          clear bt bu hgi hgl
          go_wp2
          go_ret
          exact ⟨ret_b HEN.out.symm, HB5.out⟩
        · have hd3 : (x == (n : Int)) = false := by simpa using he
          have HE := Lib.hid (grow_no3 HR.out (.inr (by rw [HX0.out]; exact he)))
          clear he
          go_wp2
          go_quiet (fail)
          go_wp2
          go_ret
          exact ⟨ret_b HE.out.symm, below_drewN HB2.out _⟩
end Mor
end Go.Proofs.Ytejbonnkgejngaa
