/- Contract of DigitSequence of the program. No conditions beyond those that it states. -/
import Derived.Test.YtjgcmklckchomaaConst
import Derived.Test.YtjgcmklckchomaaSeqs3
import Derived.Test.YtjgcmklckchomaaSeqForms
import Derived.Test.YtjgcmklckchomaaSeqTo
namespace Go.Proofs.Ytjgcmklckchomaa
open Go.ChangeShapes Go.WideShapes Go.ChangeAt Go.RowKit
open Go.PlainAid Plain
set_option linter.unusedVariables false
namespace Comb
open Seqs
def dgK (b m : Int) : Bool := decide ((2 ≤ b ∧ b ≤ 4) ∧ 1 ≤ m ∧ m ≤ 4)
def dgPart (m i k : Nat) : List Int := (List.range k).map fun k : Nat => (((i + k) % m : Nat) : Int)
def dgRow (b m i : Nat) : List Int := dgPart m i b
def dgRows (b m i : Nat) : List (List Int) := (List.range i).map (dgRow b m)
def dgOut (i : Nat) : List Int := (List.range i).map fun k : Nat => (k : Int)
def dgB (b m : Int) : Int := if dgK b m = true then b else 0
def dgR (b m : Int) : List (List Int) := if dgK b m = true then dgRows b.toNat m.toNat m.toNat else []
def dgO (b m : Int) : List Int := if dgK b m = true then dgOut m.toNat else []
theorem dg_no {b m : Int} (h : dgK b m = false) : dgB b m = 0 ∧ dgR b m = [] ∧ dgO b m = [] := by
  unfold dgB dgR dgO
  rw [h]
  simp
theorem dgPart_len (m i k : Nat) : (dgPart m i k).length = k := by simp [dgPart]
theorem dgPart_succ (m i k : Nat) : dgPart m i (k + 1) = dgPart m i k ++ [(((i + k) % m : Nat) : Int)] := by simp [dgPart, List.range_succ]
theorem dgRows_succ (b m i : Nat) : dgRows b m (i + 1) = dgRows b m i ++ [dgRow b m i] := by simp [dgRows, List.range_succ]
theorem dgOut_succ (i : Nat) : dgOut (i + 1) = dgOut i ++ [(i : Int)] := by simp [dgOut, List.range_succ]
theorem dgRows_len (b m i : Nat) : (dgRows b m i).length = i := by simp [dgRows]
theorem dgOut_len (i : Nat) : (dgOut i).length = i := by simp [dgOut]
theorem dg_valid {b m : Int} (h : dgK b m = true) : IsSeq b (dgR b m) (dgO b m) := by
  have h1 := of_decide_eq_true h
  unfold dgR dgO
  rw [if_pos h, if_pos h]
  refine ⟨h1.1.1, h1.1.2, by rw [dgRows_len]; omega, by rw [dgRows_len]; omega, by rw [dgRows_len, dgOut_len], fun r hr => ?_, fun x hx => ?_⟩
  · obtain ⟨i, hi, rfl⟩ := List.mem_map.1 hr
    refine ⟨by rw [dgRow, dgPart_len]; omega, fun x hx => ?_⟩
    obtain ⟨k, hk, rfl⟩ := List.mem_map.1 hx
    rw [dgRows_len]
    have := Nat.mod_lt (i + k) (show m.toNat > 0 by omega)
    omega
  · obtain ⟨k, hk, rfl⟩ := List.mem_map.1 hx
    have := List.mem_range.1 hk
    omega
theorem dg_size (b m : Int) : tot (dgR b m) + (dgO b m).length ≤ 1000 := by
  cases h : dgK b m with
  | false => rw [(dg_no h).2.1, (dg_no h).2.2]; simp [tot]
  | true =>
    have hv := seq_rows4 (seqB_yes (dg_valid h))
    have := tot_le4 _ hv.1
    omega
theorem mod_val (i k m : Nat) : ((i : Int) + (k : Int)).tmod (m : Int) = (((i + k) % m : Nat) : Int) := by
  rw [← Int.natCast_add, Int.tmod_eq_emod_of_nonneg (Int.natCast_nonneg _), Int.natCast_emod]
theorem fill_dg {l : List Int} {n i : Nat} (c : Int) (hl : l.length = i) (h : i < n) : ((l ++ List.replicate (n - i) 0).map (Value.int .i64)).set i (.int .i64 c) = ((l ++ [c]) ++ List.replicate (n - (i + 1)) 0).map (Value.int .i64) := by
  rw [show n - i = (n - (i + 1)) + 1 from by omega, List.replicate_succ, List.map_append, List.map_cons, set_mid _ _ _ _ i (by rw [List.length_map]; exact hl), List.append_assoc, List.map_append]
  rfl
set_option maxRecDepth 100000 in
set_option maxHeartbeats 1000000 in
theorem impl_dig_no (b m : Int) (w : World) (hk : dgK b m = false) :
    Calls Try.prog 26 #[.int .i64 b, .int .i64 m] w (GivesK (dgB b m) (dgR b m) (dgO b m) (dgK b m) w) := by
  have hd := of_decide_eq_false hk
  have HN := Lib.hid (dg_no hk)
  have HK := Lib.hid hk
  rw [HN.out.1, HN.out.2.1, HN.out.2.2, HK.out]
  clear hk
  by_cases hb : 2 ≤ b ∧ b ≤ 4
  case neg =>
    have HBN := Lib.hid (show b < 2 ∨ 4 < b by omega)
    clear hb hd
    go_enter Try.func26, Try.ntmps26
    go_wp2_with fail
    refine (Digits.base_no _ _ HBN.out).mono ?_
    rintro e w' ⟨rfl, rfl⟩
    go_wp2
    refine bodyPost_ret (v := .tuple #[.agg #[.int .i64 0, .slice none 0 0, .slice none 0 0], .bool false]) (by simp [results, Try.results26, go_sem]) rfl ⟨_, rfl, OwnS.zero _, ?_⟩
    exact (Below.refl _ _).alloc (Nat.le_refl _) _
  case pos =>
    obtain ⟨hb2, hb4⟩ := hb
    by_cases hm : m < 1
    · have hd1 := decide_eq_true hm
      clear hd
      go_enter Try.func26, Try.ntmps26
      go_wp2_with fail
      refine (Digits.base_yes _ _ hb2 hb4).mono ?_
      rintro e w' ⟨rfl, rfl⟩
      go_wp2
      refine bodyPost_ret (v := .tuple #[.agg #[.int .i64 0, .slice none 0 0, .slice none 0 0], .bool false]) (by simp [results, Try.results26, go_sem]) rfl ⟨_, rfl, OwnS.zero _, ?_⟩
      exact (Below.refl _ _).alloc (Nat.le_refl _) _
    · have hd1 := decide_eq_false hm
      have hd2 : decide (m > 4) = true := decide_eq_true (by omega)
      clear hd
      go_enter Try.func26, Try.ntmps26
      go_wp2_with fail
      refine (Digits.base_yes _ _ hb2 hb4).mono ?_
      rintro e w' ⟨rfl, rfl⟩
      go_wp2
      refine bodyPost_ret (v := .tuple #[.agg #[.int .i64 0, .slice none 0 0, .slice none 0 0], .bool false]) (by simp [results, Try.results26, go_sem]) rfl ⟨_, rfl, OwnS.zero _, ?_⟩
      exact (Below.refl _ _).alloc (Nat.le_refl _) _
set_option maxRecDepth 100000 in
set_option maxHeartbeats 2000000 in
theorem impl_dig_yes (bn mn : Nat) (w : World) (hb2 : 2 ≤ bn) (hb4 : bn ≤ 4) (hm1 : 1 ≤ mn) (hm4 : mn ≤ 4) :
    Calls Try.prog 26 #[.int .i64 (bn : Int), .int .i64 (mn : Int)] w (GivesK (bn : Int) (dgRows bn mn mn) (dgOut mn) true w) := by
  obtain ⟨i0, hi0, hz0, hz1, hz2⟩ := info_parts Ints.infoI
  obtain ⟨i2, hi2, hz20, hz21, hz22⟩ := info_parts infoR
  have hd1 := decide_eq_false (show ¬ (mn : Int) < 1 by omega)
  have hd2 := decide_eq_false (show ¬ (mn : Int) > 4 by omega)
  have hZ1 := (Cells3.new w 27 (.int .i64 0) (.slice none 0 0) (.slice none 0 0)).alloc (Obj.cells #[Value.int .i64 (bn : Int), Value.slice none 0 0, Value.slice none 0 0] 27)
  have hP1 := Cells3.new (w.alloc (Obj.cells #[Value.int .i64 0, Value.slice none 0 0, Value.slice none 0 0] 27)) 27 (.int .i64 (bn : Int)) (.slice none 0 0) (.slice none 0 0)
  rw [size_alloc'] at hP1
  have hB1 : Below w.heap.size w ((w.alloc (Obj.cells #[Value.int .i64 0, Value.slice none 0 0, Value.slice none 0 0] 27)).alloc (Obj.cells #[Value.int .i64 (bn : Int), Value.slice none 0 0, Value.slice none 0 0] 27)) := ((Below.refl _ _).alloc (Nat.le_refl _) _).alloc (by simp only [size_alloc'] <;> omega) _
  have HSZ := Lib.hid (show ((w.alloc (Obj.cells #[Value.int .i64 0, Value.slice none 0 0, Value.slice none 0 0] 27)).alloc (Obj.cells #[Value.int .i64 (bn : Int), Value.slice none 0 0, Value.slice none 0 0] 27)).heap.size = w.heap.size + 2 by rw [size_alloc', size_alloc'])
  have HZ1 := Lib.hid hZ1
  have HP1 := Lib.hid hP1
  have HB1 := Lib.hid hB1
  clear hZ1 hP1 hB1
  go_enter Try.func26, Try.ntmps26
  go_wp2_with fail
  refine (Digits.base_yes _ _ (by omega) (by omega)).mono ?_
  rintro e w' ⟨rfl, rfl⟩
  go_wp2
  obtain ⟨W2, hW2⟩ : ∃ W, W = (w.alloc (Obj.cells #[Value.int .i64 0, Value.slice none 0 0, Value.slice none 0 0] 27)).alloc (Obj.cells #[Value.int .i64 (bn : Int), Value.slice none 0 0, Value.slice none 0 0] 27) := ⟨_, rfl⟩
  rw [← hW2] at HZ1 HP1 HB1 HSZ ⊢
  clear hW2
  obtain ⟨p, hp⟩ : ∃ p, p = w.heap.size + 1 := ⟨_, rfl⟩
  rw [← hp] at HP1 ⊢
  obtain ⟨BB, hBB⟩ : ∃ B, B = W2.heap.size := ⟨_, rfl⟩
  have HBB : Hid (w.heap.size < p ∧ p < BB ∧ w.heap.size + 2 ≤ BB) := by
    have := HSZ.out
    show _ ∧ _ ∧ _
    omega
  have hBL : Hid (Building W2 BB BB p (bn : Int) (.slice none 0 0) (.slice none 0 0) [] (dgRows bn mn 0) (dgOut 0)) := by
    show Building W2 BB BB p (bn : Int) (.slice none 0 0) (.slice none 0 0) [] [] []
    exact Building.start HP1.out (by rw [hBB]; exact Nat.le_refl _)
  have hZ := HZ1
  have hB := HB1
  clear hp hBB HZ1 HP1 HB1 HSZ
  go_loopw [25] (fun i' wr => ∃ (i : Nat) (vn vo : Value) (us : List Value) (hi : Nat), i ≤ mn ∧ i' = .int .i64 i ∧ Hid (Building wr BB hi p (bn : Int) vn vo us (dgRows bn mn i) (dgOut i)) ∧ Hid (Cells3 wr w.heap.size 27 (.int .i64 0) (.slice none 0 0) (.slice none 0 0)) ∧ Hid (Below w.heap.size w wr)) (fun i' _ => mn - (intOf i').toNat)
  case atStart => exact ⟨0, _, _, [], BB, Nat.zero_le _, rfl, hBL, hZ, hB⟩
  case round =>
    clear hBL hZ hB
    obtain ⟨i, vn, vo, us, hi, hil, rfl, hBL, hZ, hB⟩ := hrel
    obtain ⟨W3, rfl⟩ : ∃ W : World, W = wr := ⟨_, rfl⟩
    obtain ⟨na, nc, oa, oc, hvn, hvo⟩ := hBL.out.form
    rw [dgRows_len] at hvn
    rw [dgOut_len] at hvo
    subst hvn; subst hvo
    have HUSL : Hid (us.length = i) := by show _ = _; rw [hBL.out.len, dgRows_len]
    by_cases hlt : i < mn
    case neg =>
      obtain rfl : i = mn := by omega
      have HW : Hid (OwnS W3 BB W3.heap.size (.agg #[.int .i64 (bn : Int), .slice na i nc, .slice oa i oc]) (bn : Int) (dgRows bn i i) (dgOut i)) := hBL.out.seq
      have hP := hBL.out.cells
      have m0 := hP.c0
      have m1 := hP.c1
      have m2 := hP.c2
      have z0 := hZ.out.c0
      have z1 := hZ.out.c1
      have z2 := hZ.out.c2
      have z3 := hZ.out.f
      clear hP
      go_wp2
      have hZ3 := (((hZ.out.set0 (.int .i64 (bn : Int))).set1 (.slice na i nc)).set2 (.slice oa i oc))
      have n0 := hZ3.c0
      have n1 := hZ3.c1
      have n2 := hZ3.c2
      refine bodyPost_ret (v := .tuple #[.agg #[.int .i64 (bn : Int), .slice na i nc, .slice oa i oc], .bool true]) (by simp [results, Try.results26, go_sem, n0, n1, n2]) rfl ⟨_, rfl, ?_, ?_⟩
      · have hT : ∀ (i : Nat) (u : Value) (W : World), Plain.Touch w.heap.size (w.heap.size + 1) W (W.setCell ⟨w.heap.size, i, none⟩ u) := fun i u W => Plain.Touch.of_set (a := ⟨w.heap.size, i, none⟩) u (Nat.le_refl _) (Nat.lt_succ_self _)
        have T0 : Plain.Touch w.heap.size (w.heap.size + 1) W3 (((W3.setCell ⟨w.heap.size, 0, none⟩ (.int .i64 (bn : Int))).setCell ⟨w.heap.size, 1, none⟩ (.slice na i nc)).setCell ⟨w.heap.size, 2, none⟩ (.slice oa i oc)) := ((hT 0 _ _).trans (hT 1 _ _)).trans (hT 2 _ _)
        have := (HW.out.touch T0 (.inr (by have := HBB.out; omega))).lower (show w.heap.size ≤ BB by have := HBB.out; omega)
        simpa only [size_setCell'] using this
      · exact ((hB.out.setCell (Nat.le_refl _) _).setCell (Nat.le_refl _) _).setCell (Nat.le_refl _) _
    case pos =>
      have hii0 : (0 : Int) ≤ (i : Int) := Int.natCast_nonneg _
      have hiM : (i : Int) < (mn : Int) := by omega
      go_wp2_with (at_make; refine wpList_make_full W3 rfl _ _ 23 rfl W3.heap.size 3 i0 (.int .i64 0) 1 Try.underlying23 hi0 hz0 hz1 .i64 .i64 _ _ bn rfl rfl rfl rfl (by rw [hz2]; omega) (by unfold maxLen; omega) (Nat.le_refl _) ?_; intro w1 hown hgrow; have hbw := below_of_grown hgrow)
      have hO : Hid (w1.ownsRow W3.heap.size 3 1 (.slice (some ⟨W3.heap.size, 0, none⟩) bn bn) bn ((dgPart mn i 0 ++ List.replicate (bn - 0) (0 : Int)).map (Value.int .i64))) := by
        show w1.ownsRow _ _ _ _ _ _
        rw [Ints.zero_made] at hown
        simpa [dgPart] using hown
      have hBW := Lib.hid hbw
      obtain ⟨zb, hzb⟩ : ∃ z, z = W3.heap.size := ⟨_, rfl⟩
      have HZB := Lib.hid hzb
      rw [← hzb] at hO ⊢
      clear hown hgrow hbw hzb
      go_loopw [32] (fun k' wr => ∃ k : Nat, k ≤ bn ∧ k' = .int .i64 k ∧ Hid (wr.ownsRow zb 3 1 (.slice (some ⟨zb, 0, none⟩) bn bn) bn ((dgPart mn i k ++ List.replicate (bn - k) (0 : Int)).map (Value.int .i64))) ∧ Hid (Below W3.heap.size W3 wr)) (fun k' _ => bn - (intOf k').toNat)
      case atStart => exact ⟨0, Nat.zero_le _, rfl, hO, hBW⟩
      case round =>
        clear hO hBW
        obtain ⟨k, hkl, rfl, hO, hBW⟩ := hrel
        by_cases hlk : k < bn
        case pos =>
          have hmod := mod_val i k mn
          have hL := dgPart_len mn i k
          have hst0 := fill_dg (n := bn) (((i + k) % mn : Nat) : Int) hL hlk
          rw [← dgPart_succ] at hst0
          obtain ⟨m, hm⟩ : ∃ m : Nat, m = (i + k) % mn := ⟨_, rfl⟩
          rw [← hm] at hst0 hmod
          have q1 := hO.out.cellAt k (by omega)
          have q2 := hO.out.frozenAt k
          have hst := hO.out.stored k (.int .i64 (m : Int))
          rw [hst0] at hst
          have HS3 := Lib.hid hst
          rw [List.getElem?_map, List.getElem?_append_right (by rw [hL]; exact Nat.le_refl _), List.getElem?_replicate, if_pos (by rw [hL]; omega)] at q1
          have hkb : (k : Int) < (bn : Int) := by omega
          have hk0 : (0 : Int) ≤ (k : Int) := Int.natCast_nonneg _
          have hm0 : ¬ (mn : Int) = 0 := by omega
          clear hL hst0 hst hm
          go_wp2
          go_roundw
          case rel => exact ⟨k + 1, by omega, by go_num, HS3.out.1, hBW.out.trans (by
            have h1 := (Below.refl W3.heap.size wr).grown HS3.out.2 hBW.out.size (fun k hk => by have e2 : zb = k := Option.some.inj hk; have := HZB.out; omega)
            exact h1)⟩
          case measure => simp [intOf]; omega
        case neg =>
          obtain rfl : k = bn := by omega
          obtain ⟨W4, rfl⟩ : ∃ W : World, W = wr := ⟨_, rfl⟩
          have HU : Hid (Has (Value.int .i64) 3 W4 hi (.slice (some ⟨zb, 0, none⟩) k k) (dgRow k mn i)) := by
            have h1 := hO.out
            rw [Nat.sub_self, List.replicate_zero, List.append_nil] at h1
            have h2 : Has (Value.int .i64) 3 W4 W3.heap.size (.slice (some ⟨zb, 0, none⟩) k k) (dgRow k mn i) := by
              show W4.ownsRow _ _ _ _ _ _
              rw [show (dgRow k mn i).length = k from dgPart_len _ _ _]
              rw [HZB.out] at h1 ⊢
              exact h1
            exact h2.mono hBL.out.le
          have HBL4 := Lib.hid (hBL.out.below hBW.out)
          have HZ4 := Lib.hid (hZ.out.below hBW.out)
          have HB4 := Lib.hid (hB.out.trans (hBW.out.mono hB.out.size))
          have d1 := HBL4.out.cells.c1
          have d2 := (HBL4.out.cells.alloc (.cells #[Value.slice (some ⟨zb, 0, none⟩) k k] 23)).c1
          have hpl := HBL4.out.cells.lt
          have HNP := Lib.hid (has_ne_c3 HBL4.out.top HBL4.out.cells (by decide))
          have HNZ := Lib.hid (has_ne_c3 HBL4.out.top HZ4.out (by decide))
          have HLO4 := Lib.hid (show BB ≤ W4.heap.size from Nat.le_trans HBL4.out.lo HBL4.out.le)
          clear hO hBL hZ hB hBW
          go_upto_region 14 with (at_builtin; refine wpList_append_list (enc := id) (e := 23) rfl _ _ 22 rfl BB i2 (.slice none 0 0) 24 Try.underlying22 hi2 hz20 hz21 hz22 rfl (.slice na i nc) us rfl (has_alloc HBL4.out.top _) (.slice (some ⟨W4.heap.size, 0, none⟩) 1 1) [.slice (some ⟨zb, 0, none⟩) k k] rfl (lies_lit1v _ rfl) (fun y hy => by simp at hy; subst hy; rfl) (by rw [HUSL.out]; simp; omega) (by rw [HUSL.out]; simp; omega) (by have := HLO4.out; simp; omega) ?_; intro v' w2 hv' hg2 _; obtain ⟨a2, c2, hvf, _⟩ := hv'.form; rw [show (us ++ [Value.slice (some ⟨zb, 0, none⟩) k k]).length = i + 1 from by rw [List.length_append, HUSL.out]; rfl] at hvf; subst hvf; have hg3 := grown_alloc hg2; have hc2 := HBL4.out.cells.grown hg3 HNP.out; have d3 := hc2.c1; have df := hc2.f)
          have HBL5 := Lib.hid (HBL4.out.row HU.out hv' hg3)
          have HG5 : Hid (BB ≤ w2.heap.size) := Nat.le_trans HLO4.out hg3.size
          have hne2 : (p : Nat) ≠ w.heap.size := by have := HBB.out; omega
          have hne3 : w.heap.size ≤ p := by have := HBB.out; omega
          have HZ5 := Lib.hid ((HZ4.out.grown hg3 HNZ.out).other (a := ⟨p, 1, none⟩) hne2 (.slice a2 (i + 1) c2))
          have HB5 : Hid (Below w.heap.size w (w2.setCell ⟨p, 1, none⟩ (.slice a2 (i + 1) c2))) := (HBL4.out.top.frame HB4.out (by have := HBB.out; omega) hg3).setCell hne3 _
          have HG6 : Hid (BB ≤ (w2.setCell ⟨p, 1, none⟩ (.slice a2 (i + 1) c2)).heap.size) := by show _ ≤ _; rw [size_setCell']; exact HG5.out
          obtain ⟨W5, hW5⟩ : ∃ W, W = w2.setCell ⟨p, 1, none⟩ (.slice a2 (i + 1) c2) := ⟨_, rfl⟩
          rw [← hW5] at HBL5 HZ5 HB5 HG6 ⊢
          have HW5 := Lib.hid (show w2.heap.size = W5.heap.size by rw [hW5, size_setCell'])
          rw [HW5.out] at HBL5
          clear hv' hg2 hg3 hc2 d1 d2 d3 df hpl HBL4 HZ4 HB4 hW5 HNP HNZ HLO4 HG5
          have HVO := Lib.hid HBL5.out.terms
          have c3 := HBL5.out.cells.c2
          have c4 := (HBL5.out.cells.alloc (.cells #[Value.int .i64 (i : Int)] 3)).c2
          have hpl := HBL5.out.cells.lt
          have HNO := Lib.hid (has_ne_c3 HVO.out.has HBL5.out.cells (by decide))
          have HNZ := Lib.hid (has_ne_c3 HVO.out.has HZ5.out (by decide))
          have HOL := Lib.hid (dgOut_len i)
          go_wp2_with (at_builtin; refine wpList_append_list (enc := Value.int .i64) (e := 3) rfl _ _ 23 rfl BB i0 (.int .i64 0) 8 Try.underlying23 hi0 hz0 hz1 hz2 rfl (.slice oa i oc) (dgOut i) rfl (has_alloc HVO.out.has _) (.slice (some ⟨W5.heap.size, 0, none⟩) 1 1) [(i : Int)] rfl (lies_lit1 (enc := Value.int .i64) _ rfl) (fun _ _ => rfl) (by rw [HOL.out]; simp; omega) (by rw [HOL.out]; simp; omega) (by have := HG6.out; simp; omega) ?_; intro vt w6 ho6 hg6 hb6; obtain ⟨a6, c6, hvf, _⟩ := ho6.form; rw [show (dgOut i ++ [(i : Int)]).length = i + 1 from by rw [List.length_append, HOL.out]; rfl] at hvf; subst hvf; have hg7 := grown_alloc hg6; have hc7 := HBL5.out.cells.grown hg7 HNO.out; have r1 := hc7.c2; have r3 := hc7.f)
          have HBL7 := Lib.hid (HBL5.out.term ho6 hg7 (fun k hk => (hb6 k hk).imp id (fun h => by simp at h; omega)))
          have HZ7 := Lib.hid ((HZ5.out.grown hg7 HNZ.out).other (a := ⟨p, 2, none⟩) hne2 (.slice a6 (i + 1) c6))
          have HB7 : Hid (Below w.heap.size w (w6.setCell ⟨p, 2, none⟩ (.slice a6 (i + 1) c6))) := (HVO.out.has.frame HB5.out (by have := HBB.out; omega) hg7).setCell hne3 _
          have HBL8 : Hid (Building (w6.setCell ⟨p, 2, none⟩ (.slice a6 (i + 1) c6)) BB w6.heap.size p (k : Int) (.slice a2 (i + 1) c2) (.slice a6 (i + 1) c6) (us ++ [.slice (some ⟨zb, 0, none⟩) k k]) (dgRows k mn (i + 1)) (dgOut (i + 1))) := by
            have h1 := HBL7.out
            rw [← dgRows_succ, ← dgOut_succ] at h1
            exact h1
          clear ho6 hb6 hg6 hg7 hc7 r1 r3 c3 c4 hpl HBL5 HVO HNO HNZ HBL7
          go_roundw
          case rel => exact ⟨i + 1, _, _, _, w6.heap.size, by omega, by go_num, HBL8, HZ7, HB7⟩
          case measure => simp [intOf]; omega
set_option maxRecDepth 100000 in
theorem impl_dig (b m : Int) (w : World) :
    Calls Try.prog 26 #[.int .i64 b, .int .i64 m] w (GivesK (dgB b m) (dgR b m) (dgO b m) (dgK b m) w) := by
  cases hk : dgK b m with
  | false => rw [← hk]; exact impl_dig_no b m w hk
  | true =>
    have h := of_decide_eq_true hk
    obtain ⟨bn, rfl⟩ : ∃ n : Nat, b = (n : Int) := ⟨b.toNat, by omega⟩
    obtain ⟨mn, rfl⟩ : ∃ n : Nat, m = (n : Int) := ⟨m.toNat, by omega⟩
    have e : dgB (bn : Int) (mn : Int) = (bn : Int) ∧ dgR (bn : Int) (mn : Int) = dgRows bn mn mn ∧ dgO (bn : Int) (mn : Int) = dgOut mn := by
      unfold dgB dgR dgO
      rw [hk]
      exact ⟨rfl, rfl, rfl⟩
    rw [e.1, e.2.1, e.2.2]
    exact impl_dig_yes bn mn w (by omega) (by omega) (by omega) (by omega)
end Comb
end Go.Proofs.Ytjgcmklckchomaa
