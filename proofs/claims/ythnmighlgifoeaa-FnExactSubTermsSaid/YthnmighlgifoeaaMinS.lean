/- Contract of the model's MinimalForm. No conditions beyond those that each states. -/
import Derived.Test.YthnmighlgifoeaaClassS
import Derived.Test.YthnmighlgifoeaaSeqMake
import Derived.Test.YthnmighlgifoeaaMinVal2
import Derived.Test.YthnmighlgifoeaaMinI
namespace Go.Proofs.Ythnmighlgifoeaa
open Go.ChangeShapes Go.WideShapes Go.ChangeAt Go.RowKit
open Go.PlainAid Plain
set_option linter.unusedVariables false
namespace Mins
open Seqs
set_option maxHeartbeats 1000000 in
theorem spec_min_no (v : Value) (b : Int) (rows : List (List Int)) (out : List Int) (w : World) (h : LiesS w v b rows out) (hs : rows.length + tot rows + out.length ≤ 1048576) (hk : formK b rows out = false) :
    Calls Try.prog 55 #[v] w (GivesK 0 [] [] false w) := by
  have HS := Lib.hid h
  obtain ⟨an, cn, ao, co, rfl⟩ := h.form
  clear h
  have HB : Hid (Below w.heap.size w (w.alloc (Obj.cells #[Value.int .i64 b, Value.slice an rows.length cn, Value.slice ao out.length co] 27))) := (Below.refl _ _).alloc (Nat.le_refl _) _
  have HC := Lib.hid (Cells3.new w 27 (.int .i64 b) (.slice an rows.length cn) (.slice ao out.length co))
  have HK := Lib.hid hk
  have HFP : Hid (formB b rows out = 0 ∧ formR b rows out = [] ∧ formO b rows out = []) := by
    rcases form_parts b rows out with ⟨_, h1, _⟩ | ⟨_, h1, h2, h3⟩ | ⟨_, _, _, h1, _⟩
    · rw [hk] at h1; cases h1
    · exact ⟨h1, h2, h3⟩
    · rw [hk] at h1; cases h1
  have HSZ := Lib.hid hs
  have HB1 := Lib.hid (HB.out.alloc (by simp) (Obj.cells #[Value.int .i64 0, Value.slice none 0 0, Value.slice none 0 0] 27))
  have HC1 := Lib.hid (HC.out.alloc (Obj.cells #[Value.int .i64 0, Value.slice none 0 0, Value.slice none 0 0] 27))
  have hZ := Cells3.new (w.alloc (Obj.cells #[Value.int .i64 b, Value.slice an rows.length cn, Value.slice ao out.length co] 27)) 27 (.int .i64 0) (.slice none 0 0) (.slice none 0 0)
  rw [size_alloc'] at hZ
  have HZ1 := Lib.hid hZ
  have k0 := HC1.out.c0
  have k1 := HC1.out.c1
  have k2 := HC1.out.c2
  clear hZ HB HC hk hs
  go_enter Try.func55, Try.ntmps55
  go_wp2_with fail
  refine (spec_form _ b rows out _ (HS.out.below HB1.out) HSZ.out).mono ?_
  rintro e W1 ⟨v1, rfl, hv1, b1⟩
  rw [HFP.out.1, HFP.out.2.1, HFP.out.2.2] at hv1
  obtain ⟨a1, c1, a2, c2, rfl⟩ := hv1.form
  rw [HK.out]
  have HB2 := Lib.hid (HB1.out.trans (b1.mono HB1.out.size))
  have hZ2 := HZ1.out.below b1
  have HZ2 := Lib.hid (hZ2.alloc (Obj.cells #[Value.int .i64 0, Value.slice a1 ([] : List (List Int)).length c1, Value.slice a2 ([] : List Int).length c2] 27))
  have HB3 := Lib.hid (HB2.out.alloc HB2.out.size (Obj.cells #[Value.int .i64 0, Value.slice a1 ([] : List (List Int)).length c1, Value.slice a2 ([] : List Int).length c2] 27))
  simp only [List.length_nil] at HZ2 HB3
  have z0 := HZ2.out.c0
  have z1 := HZ2.out.c1
  have z2 := HZ2.out.c2
  have z3 := HZ2.out.f
  clear hv1 b1 hZ2 k0 k1 k2 HB1 HC1 HZ1
  go_wp2
  have hZ3 := (((HZ2.out.set0 (.int .i64 0)).set1 (.slice none 0 0)).set2 (.slice none 0 0))
  have n0 := hZ3.c0
  have n1 := hZ3.c1
  have n2 := hZ3.c2
  refine bodyPost_ret (v := .tuple #[.agg #[.int .i64 0, .slice none 0 0, .slice none 0 0], .bool false]) (by simp [results, Try.results55, go_sem, n0, n1, n2]) rfl ⟨_, rfl, OwnS.zero _, ?_⟩
  exact ((HB3.out.setCell (by show _ ≤ _ + 1; omega) _).setCell (by show _ ≤ _ + 1; omega) _).setCell (by show _ ≤ _ + 1; omega) _
set_option maxRecDepth 100000 in
set_option maxHeartbeats 4000000 in
theorem spec_min_yes (v : Value) (b : Int) (rows : List (List Int)) (out : List Int) (w : World) (h : LiesS w v b rows out) (hs : rows.length + tot rows + out.length ≤ 1048576) (hk : formK b rows out = true) :
    Calls Try.prog 55 #[v] w (GivesK (formB b rows out) (minR (formR b rows out) (formO b rows out)) (minO (formR b rows out) (formO b rows out)) true w) := by
  obtain ⟨i0, hi0, hz0, hz1, hz2⟩ := info_parts Ints.infoI
  obtain ⟨i2, hi2, hz20, hz21, hz22⟩ := info_parts infoR
  have HS := Lib.hid h
  obtain ⟨an, cn, ao, co, rfl⟩ := h.form
  clear h
  have HB : Hid (Below w.heap.size w (w.alloc (Obj.cells #[Value.int .i64 b, Value.slice an rows.length cn, Value.slice ao out.length co] 27))) := (Below.refl _ _).alloc (Nat.le_refl _) _
  have HC := Lib.hid (Cells3.new w 27 (.int .i64 b) (.slice an rows.length cn) (.slice ao out.length co))
  have HK := Lib.hid hk
  have HCF := Lib.hid (fun (W : World) (hW : Below w.heap.size w W) => spec_form _ b rows out W (HS.out.below hW) hs)
  have hval := form_valid hk
  obtain ⟨B, hBB⟩ : ∃ B, B = formB b rows out := ⟨_, rfl⟩
  obtain ⟨RR, hRR⟩ : ∃ R, R = formR b rows out := ⟨_, rfl⟩
  obtain ⟨OO, hOO⟩ : ∃ O, O = formO b rows out := ⟨_, rfl⟩
  rw [← hBB, ← hRR, ← hOO, hk] at HCF
  rw [← hBB, ← hRR, ← hOO] at hval ⊢
  clear hBB hRR hOO hk hs
  obtain ⟨bn, rfl⟩ : ∃ bn : Nat, B = (bn : Int) := ⟨B.toNat, by have := hval.1; omega⟩
  have HVAL := Lib.hid hval
  have HA := Lib.hid (show Auto RR OO bn from by have := hval.auto; rw [Int.toNat_natCast] at this; exact this)
  have hb2 : 2 ≤ bn := by have := hval.1; omega
  have hb4 : bn ≤ 4 := by have := hval.2.1; omega
  have hn16 : RR.length ≤ 16 := hval.2.2.2.1
  have hn1 : 1 ≤ RR.length := hval.2.2.1
  have HOL := Lib.hid hval.2.2.2.2.1
  clear hval
  have HB1 := Lib.hid (HB.out.alloc (by simp) (Obj.cells #[Value.int .i64 0, Value.slice none 0 0, Value.slice none 0 0] 27))
  have HC1 := Lib.hid (HC.out.alloc (Obj.cells #[Value.int .i64 0, Value.slice none 0 0, Value.slice none 0 0] 27))
  have hZ := Cells3.new (w.alloc (Obj.cells #[Value.int .i64 b, Value.slice an rows.length cn, Value.slice ao out.length co] 27)) 27 (.int .i64 0) (.slice none 0 0) (.slice none 0 0)
  rw [size_alloc'] at hZ
  have HZ1 := Lib.hid hZ
  have k0 := HC1.out.c0
  have k1 := HC1.out.c1
  have k2 := HC1.out.c2
  clear hZ HB HC
  go_enter Try.func55, Try.ntmps55
  go_wp2_with fail
  refine (HCF.out _ HB1.out).mono ?_
  rintro e W1 ⟨v1, rfl, hv1, b1⟩
  obtain ⟨a1, c1, a2, c2, rfl⟩ := hv1.form
  have HB2 := Lib.hid (HB1.out.trans (b1.mono HB1.out.size))
  have HZ2 := Lib.hid (HZ1.out.below b1)
  have HW1 : Hid (w.heap.size + 2 ≤ W1.heap.size) := by have := HZ2.out.lt; show _ ≤ _; omega
  have HX := Lib.hid hv1.lies
  have hbx : Below W1.heap.size W1 (W1.alloc (Obj.cells #[Value.int .i64 (bn : Int), Value.slice a1 RR.length c1, Value.slice a2 OO.length c2] 27)) := (Below.refl _ _).alloc (Nat.le_refl _) _
  have HXC := Lib.hid (Cells3.new W1 27 (.int .i64 (bn : Int)) (.slice a1 RR.length c1) (.slice a2 OO.length c2))
  obtain ⟨W2, hW2⟩ : ∃ W, W = W1.alloc (Obj.cells #[Value.int .i64 (bn : Int), Value.slice a1 RR.length c1, Value.slice a2 OO.length c2] 27) := ⟨_, rfl⟩
  have HBX := Lib.hid hbx
  have j0 := HXC.out.c0
  have j1 := HXC.out.c1
  have j2 := HXC.out.c2
  clear hv1 b1 hbx k0 k1 k2 HB1 HC1 HZ1
  go_wp2_with fail
  rw [← hW2] at HXC HBX j0 j1 j2 ⊢
  clear hW2
  refine (spec_class_yes _ (bn : Int) RR OO _ (HX.out.below HBX.out) (seqB_yes HVAL.out)).mono ?_
  rintro e W3 ⟨cv, rfl, hcv, b3⟩
  obtain ⟨cls, hcls⟩ : ∃ c, c = classes RR OO := ⟨_, rfl⟩
  have HCE := Lib.hid hcls
  have HCL : Hid (cls.length = RR.length) := by show _ = _; rw [hcls, classes_len]
  rw [← hcls] at hcv
  obtain ⟨ca, cc, rfl, _⟩ := hcv.form
  have HXC3 := Lib.hid (HXC.out.below b3)
  have HBX3 := Lib.hid (HBX.out.trans (b3.mono HBX.out.size))
  have HCV := Lib.hid (hcv.mono (show w.heap.size ≤ W2.heap.size from Nat.le_trans HB2.out.size HBX.out.size))
  have HWX : Hid (W1.heap.size < W3.heap.size) := HXC3.out.lt
  have j0 := HXC3.out.c0
  have j1 := HXC3.out.c1
  have j2 := HXC3.out.c2
  clear hcv b3 hcls HXC HBX
  go_wp2_with fail
  -- the sequence in the making, the order
  have hbp : Below W3.heap.size W3 (W3.alloc (Obj.cells #[Value.int .i64 (bn : Int), Value.slice none 0 0, Value.slice none 0 0] 27)) := (Below.refl _ _).alloc (Nat.le_refl _) _
  have hP := Cells3.new W3 27 (.int .i64 (bn : Int)) (.slice none 0 0) (.slice none 0 0)
  have hO : Has (Value.int .i64) 3 ((W3.alloc (Obj.cells #[Value.int .i64 (bn : Int), Value.slice none 0 0, Value.slice none 0 0] 27)).alloc (.cells #[.int .i64 0] 3)) (W3.alloc (Obj.cells #[Value.int .i64 (bn : Int), Value.slice none 0 0, Value.slice none 0 0] 27)).heap.size (.slice (some ⟨(W3.alloc (Obj.cells #[Value.int .i64 (bn : Int), Value.slice none 0 0, Value.slice none 0 0] 27)).heap.size, 0, none⟩) 1 1) [0] := has_lit1 (enc := Value.int .i64) 0 rfl (Nat.le_refl _)
  have hbo : Below (W3.alloc (Obj.cells #[Value.int .i64 (bn : Int), Value.slice none 0 0, Value.slice none 0 0] 27)).heap.size (W3.alloc (Obj.cells #[Value.int .i64 (bn : Int), Value.slice none 0 0, Value.slice none 0 0] 27)) ((W3.alloc (Obj.cells #[Value.int .i64 (bn : Int), Value.slice none 0 0, Value.slice none 0 0] 27)).alloc (.cells #[.int .i64 0] 3)) := (Below.refl _ _).alloc (Nat.le_refl _) _
  obtain ⟨W4, hW4⟩ : ∃ W, W = W3.alloc (Obj.cells #[Value.int .i64 (bn : Int), Value.slice none 0 0, Value.slice none 0 0] 27) := ⟨_, rfl⟩
  have hsz4 : W4.heap.size = W3.heap.size + 1 := by rw [hW4, size_alloc']
  rw [← hW4] at hbp hP hO hbo
  rw [show (W3.alloc (Obj.cells #[Value.int .i64 (bn : Int), Value.slice none 0 0, Value.slice none 0 0] 27)).alloc (.cells #[.int .i64 0] 3) = W4.alloc (.cells #[.int .i64 0] 3) by rw [hW4]]
  obtain ⟨W5, hW5⟩ : ∃ W, W = W4.alloc (.cells #[.int .i64 0] 3) := ⟨_, rfl⟩
  rw [← hW5] at hO hbo ⊢
  have hb35 : Below W3.heap.size W3 W5 := hbp.trans (hbo.mono hbp.size)
  obtain ⟨xb, hxb⟩ : ∃ x, x = W1.heap.size := ⟨_, rfl⟩
  obtain ⟨p, hp⟩ : ∃ x, x = W3.heap.size := ⟨_, rfl⟩
  obtain ⟨BB, hBB⟩ : ∃ x, x = W3.heap.size + 1 := ⟨_, rfl⟩
  obtain ⟨Q, hQ⟩ : ∃ Q, Q = rowsQ RR OO := ⟨_, rfl⟩
  obtain ⟨R, hR⟩ : ∃ R, R = reached Q := ⟨_, rfl⟩
  have HQ := Lib.hid hQ
  have HRE := Lib.hid hR
  have HNUM := Lib.hid (show w.heap.size + 2 ≤ xb ∧ xb < p ∧ p < BB from by have := HW1.out; have := HWX.out; omega)
  have hR16 : R.length ≤ 16 := by
    rw [hR, hQ]
    have h1 := reached_len (rowsQ_auto HA.out).closed
    have h2 := rowsQ_len RR OO
    omega
  have hM5 : Hid (Making W5 BB W5.heap.size p (bn : Int) (.slice none 0 0) (.slice none 0 0) (.slice (some ⟨BB, 0, none⟩) 1 1) [] ((R.take 0).map (minRow Q R)) ((R.take 0).map fun s => (outQ RR OO).getD s.toNat 0) [0]) := by
    rw [hsz4, ← hBB] at hO
    rw [hp]
    exact Making.start (hP.below hbo) hO (by have := hbo.size; omega)
  have hOR : Hid (Order RR OO [0] (reachI Q 0)) := by rw [hQ]; exact order_start HA.out
  have hCV5 : Hid (OwnI W5 w.heap.size BB (.slice ca cls.length cc) cls) := ⟨HCV.out.below hb35, fun k hk => by have := (HCV.out.lt k hk).2; omega, by have := hbo.size; omega⟩
  have hXC5 : Hid (Cells3 W5 xb 27 (.int .i64 (bn : Int)) (.slice a1 RR.length c1) (.slice a2 OO.length c2)) := by rw [hxb]; exact HXC3.out.below hb35
  have hB5 : Hid (Below xb W1 W5) := by rw [hxb]; exact HBX3.out.trans (hb35.mono HBX3.out.size)
  rw [← hBB, ← hxb, ← hp]
  rw [← hxb] at HW1
  have HB2' : Hid (Below w.heap.size w W1) := HB2
  clear hW4 hsz4 hW5 hbp hP hO hbo hb35 hp hBB hQ hR HCV HXC3 HBX3 HWX j0 j1 j2 HB2
  have HZX : Hid (xb = W1.heap.size) := hxb
  clear hxb
  go_loopw [8, 9] (fun o' i' wr => ∃ (i : Nat) (od : List Int) (vn vo : Value) (us : List Value) (hi : Nat), i ≤ od.length ∧ od.length ≤ 16 ∧ i' = .int .i64 i ∧ Hid (Order RR OO od (reachI Q i)) ∧ Hid (Making wr BB hi p (bn : Int) vn vo o' us ((R.take i).map (minRow Q R)) ((R.take i).map fun s => (outQ RR OO).getD s.toNat 0) od) ∧ Hid (OwnI wr w.heap.size BB (.slice ca cls.length cc) cls) ∧ Hid (Cells3 wr xb 27 (.int .i64 (bn : Int)) (.slice a1 RR.length c1) (.slice a2 OO.length c2)) ∧ Hid (Below xb W1 wr)) (fun _ i' _ => 17 - (intOf i').toNat)
  case atStart => exact ⟨0, [0], _, _, [], W5.heap.size, by simp, by simp, rfl, hOR, hM5, hCV5, hXC5, hB5⟩
  case round =>
    clear hOR hM5 hCV5 hXC5 hB5
    obtain ⟨i, od, vn, vo, us, hi, hil, hod16, rfl, hOR, hM, hCV, hXC, hB⟩ := hrel
    obtain ⟨W6, rfl⟩ : ∃ W : World, W = wr := ⟨_, rfl⟩
    obtain ⟨na, nc, oa, oc, hvn, hvo⟩ := hM.out.form
    obtain ⟨ea, ec, he8, _⟩ := hM.out.extra.has.form
    subst he8
    obtain ⟨l1, hl1⟩ : ∃ l, l = (((R.take i).map (minRow Q R))).length := ⟨_, rfl⟩
    obtain ⟨l2, hl2⟩ : ∃ l, l = (((R.take i).map fun s => (outQ RR OO).getD s.toNat 0)).length := ⟨_, rfl⟩
    have HUSL : Hid (us.length = l1) := by show _ = _; rw [hl1]; exact hM.out.len
    have hl1' : l1 ≤ 16 := by rw [hl1]; simp; omega
    have hl2' : l2 ≤ 16 := by rw [hl2]; simp; omega
    have HL1 := Lib.hid hl1
    have HL2 := Lib.hid hl2
    rw [← hl1] at hvn
    rw [← hl2] at hvo
    subst hvn; subst hvo
    clear hl1 hl2
    have x0 := hXC.out.c0
    have x1 := hXC.out.c1
    have x2 := hXC.out.c2
    by_cases hlt : i < od.length
    case neg =>
      have hoe := order_end HA.out (by rw [← HQ.out]; exact hOR.out) hlt hil
      rw [← HQ.out, ← HRE.out] at hoe
      have HE : Hid (((R.take i).map (minRow Q R)) = minR RR OO ∧ ((R.take i).map fun s => (outQ RR OO).getD s.toNat 0) = minO RR OO) := by
        show _ ∧ _
        rw [hoe.1, List.take_length, HRE.out, HQ.out]
        exact ⟨rfl, rfl⟩
      have HW : Hid (OwnS W6 BB W6.heap.size (.agg #[.int .i64 (bn : Int), .slice na l1 nc, .slice oa l2 oc]) (bn : Int) (minR RR OO) (minO RR OO)) := by
        have h1 := hM.out.building.seq
        rw [HE.out.1, HE.out.2] at h1
        exact h1
      have hP := hM.out.cells
      have m0 := hP.c0
      have m1 := hP.c1
      have m2 := hP.c2
      have hZ6 := c3_of_below hB.out HZ2.out (by have := HNUM.out; omega)
      have HZ6 := Lib.hid hZ6
      have z0 := hZ6.c0
      have z1 := hZ6.c1
      have z2 := hZ6.c2
      have z3 := hZ6.f
      have HB6 : Hid (Below w.heap.size w W6) := HB2'.out.trans (hB.out.mono (by have := HNUM.out; omega))
      clear hP hoe hZ6 x0 x1 x2
      go_wp2
      have hZ3 := (((HZ6.out.set0 (.int .i64 (bn : Int))).set1 (.slice na l1 nc)).set2 (.slice oa l2 oc))
      have n0 := hZ3.c0
      have n1 := hZ3.c1
      have n2 := hZ3.c2
      refine bodyPost_ret (v := .tuple #[.agg #[.int .i64 (bn : Int), .slice na l1 nc, .slice oa l2 oc], .bool true]) (by simp [results, Try.results55, go_sem, n0, n1, n2]) rfl ⟨_, rfl, ?_, ?_⟩
      · have T0 : Plain.Touch w.heap.size (w.heap.size + 2) W6 (((W6.setCell ⟨w.heap.size + 1, 0, none⟩ (.int .i64 (bn : Int))).setCell ⟨w.heap.size + 1, 1, none⟩ (.slice na l1 nc)).setCell ⟨w.heap.size + 1, 2, none⟩ (.slice oa l2 oc)) :=
          ((Plain.Touch.of_set _ (by show _ ≤ _ + 1; omega) (by show _ + 1 < _; omega)).trans (Plain.Touch.of_set _ (by show _ ≤ _ + 1; omega) (by show _ + 1 < _; omega))).trans (Plain.Touch.of_set _ (by show _ ≤ _ + 1; omega) (by show _ + 1 < _; omega))
        have := (HW.out.touch T0 (.inr (by have := HNUM.out; omega))).lower (show w.heap.size ≤ BB by have := HNUM.out; omega)
        simpa only [size_setCell'] using this
      · exact ((HB6.out.setCell (by show _ ≤ _ + 1; omega) _).setCell (by show _ ≤ _ + 1; omega) _).setCell (by show _ ≤ _ + 1; omega) _
    case pos =>
      have hor := order_round HA.out (show Order RR OO od (reachI (rowsQ RR OO) i) by rw [← HQ.out]; exact hOR.out) hlt
      rw [← HQ.out, ← HRE.out] at hor
      obtain ⟨tn, r, o, hto, htn, hr, ho, hrl, hrB, hRi, hrow, hoq, hst⟩ := hor
      have HTO := Lib.hid hto
      have HRR := Lib.hid hr
      have HOO := Lib.hid ho
      have HRL := Lib.hid hrl
      have HRB := Lib.hid hrB
      have HRI := Lib.hid hRi
      have HROW := Lib.hid hrow
      have HOQ := Lib.hid hoq
      have HST := Lib.hid (show reachI (rowsQ RR OO) (i + 1) = addAll (reachI (rowsQ RR OO) i) (r.map (clsF RR OO)) by rw [← HQ.out]; exact hst)
      have hr4 : r.length ≤ 4 := by omega
      have hr0 : 0 < r.length := by omega
      have hOR0 : Hid (Order RR OO od (midL RR OO i r 0)) := by rw [midL_zero, ← HQ.out]; exact hOR.out
      have hb7 : Below W6.heap.size W6 (W6.alloc (.cells #[] 3)) := (Below.refl _ _).alloc (Nat.le_refl _) _
      have hRG : Hid (Rowing (W6.alloc (.cells #[] 3)) BB (W6.alloc (.cells #[] 3)).heap.size p (bn : Int) (.slice na l1 nc) (.slice oa l2 oc) (.slice ea od.length ec) (.slice (some ⟨W6.heap.size, 0, none⟩) 0 0) us ((R.take i).map (minRow Q R)) ((R.take i).map fun s => (outQ RR OO).getD s.toNat 0) od (partR RR OO r 0)) :=
        hM.out.begin hb7 (has_lit0 (enc := Value.int .i64) rfl (Nat.le_refl _))
      have hCV7 := Lib.hid (hCV.out.below hb7)
      have hXC7 := Lib.hid (hXC.out.below hb7)
      have hB7 : Hid (Below xb W1 (W6.alloc (.cells #[] 3))) := hB.out.alloc (by have := hXC.out.lt; omega) _
      obtain ⟨zr, hzr⟩ : ∃ z, z = W6.heap.size := ⟨_, rfl⟩
      rw [← hzr] at hRG
      clear hto hr ho hrl hrB hRi hrow hoq hst hOR hM hCV hXC hB hb7 x0 x1 x2
      go_wp2_with fail
      rw [← hzr]
      clear hzr
      go_loopw [8, 10, 11] (fun o' r' k' wr => ∃ (k : Nat) (od' : List Int) (hi' : Nat), k ≤ r.length ∧ od'.length ≤ 16 ∧ k' = .int .i64 k ∧ Hid (Order RR OO od' (midL RR OO i r k)) ∧ Hid (od'[i]? = some (tn : Int)) ∧ Hid (Rowing wr BB hi' p (bn : Int) (.slice na l1 nc) (.slice oa l2 oc) o' r' us ((R.take i).map (minRow Q R)) ((R.take i).map fun s => (outQ RR OO).getD s.toNat 0) od' (partR RR OO r k)) ∧ Hid (OwnI wr w.heap.size BB (.slice ca cls.length cc) cls) ∧ Hid (Cells3 wr xb 27 (.int .i64 (bn : Int)) (.slice a1 RR.length c1) (.slice a2 OO.length c2)) ∧ Hid (Below xb W1 wr)) (fun _ _ k' _ => r.length - (intOf k').toNat)
      case atStart => exact ⟨0, od, _, Nat.zero_le _, hod16, rfl, hOR0, HTO, hRG, hCV7, hXC7, hB7⟩
      case round =>
        clear hOR0 hRG hCV7 hXC7 hB7
        obtain ⟨k, od', hi', hkl, hod, rfl, hOR, hTN, hRG, hCV, hXC, hB⟩ := hrel
        obtain ⟨W8, rfl⟩ : ∃ W : World, W = wr := ⟨_, rfl⟩
        have hil' : i < od'.length := (List.getElem?_eq_some_iff.1 hTN.out).1
        obtain ⟨eq, es, ec', he8, hel⟩ := ints_at hRG.out.extra.has.lies (by omega)
        obtain ⟨ra, rc, hr10, _⟩ := hRG.out.row_.has.form
        rw [partR_len hkl] at hr10
        subst he8; subst hr10
        have HEL := Lib.hid hel
        have hBw : Below W1.heap.size W1 W8 := by rw [← HZX.out]; exact hB.out
        have HBW := Lib.hid hBw
        have x0 := hXC.out.c0
        have x1 := hXC.out.c1
        have x2 := hXC.out.c2
        clear hel hBw
        by_cases hlk : k < r.length
        case pos =>
          obtain ⟨y, hy⟩ : ∃ x, r[k]? = some x := ⟨_, List.getElem?_eq_getElem hlk⟩
          have hyb := HRB.out y (List.mem_of_getElem? hy)
          obtain ⟨yn, rfl⟩ : ∃ yn : Nat, y = (yn : Int) := ⟨y.toNat, by omega⟩
          have HY := Lib.hid hy
          have HYB := Lib.hid hyb
          obtain ⟨pa, off, hpa, q, t, c, o2', hcl⟩ := seq_row HX.out HRR.out hr0
          have o2 := old_cell HBW.out o2'
          have o3 := old_cell HBW.out (hcl k _ hy)
          have o1 := HEL.out i _ hTN.out
          rw [hpa] at x1
          have hkb : decide (k < bn) = true := decide_eq_true (by have := HRL.out; omega)
          have hkb2 : k < bn := by have := HRL.out; omega
          have hk0 : (0 : Int) ≤ (k : Int) := Int.natCast_nonneg _
          have hi00 : (0 : Int) ≤ (i : Int) := Int.natCast_nonneg _
          have ht0 : (0 : Int) ≤ (tn : Int) := Int.natCast_nonneg _
          have hkr : (k : Int) < (r.length : Int) := by omega
          have hio : (i : Int) < (od'.length : Int) := by omega
          have htR : (tn : Int) < (RR.length : Int) := by omega
          obtain ⟨cq, cs, cc', hcv, hcc⟩ := ints_at hCV.out.has.lies (by have := HCL.out; omega)
          injection hcv with f1 f2 f3
          subst f1
          have hyc : yn < cls.length := by have := HCL.out; omega
          obtain ⟨cy, hcy⟩ : ∃ z, cls[yn]? = some z := ⟨_, List.getElem?_eq_getElem hyc⟩
          have HCY : Hid (clsF RR OO (yn : Int) = cy) := by show _ = _; rw [clsF, Int.toNat_natCast, ← HCE.out, List.getD_eq_getElem?_getD, hcy]; rfl
          have HCYL := Lib.hid hcy
          have HCC := Lib.hid hcc
          clear hy hyb hpa hcl o2' hcc f2 f3 hcy
          go_wp2
          go_quiet (fail)
          have HD8 := Lib.hid (below_drewN (Below.refl W8.heap.size W8) nq)
          go_wp2_with fail
          obtain ⟨W9, hW9⟩ : ∃ W, W = W8.drewN nq := ⟨_, rfl⟩
          rw [← hW9] at HD8 ⊢
          clear hW9 o1 o2 o3 x0 x1 x2
          go_loopw [13, 14] (fun f' n' wr => ∃ (n : Nat) (f : Int), n ≤ od'.length ∧ n' = .int .i64 n ∧ f' = .int .i64 f ∧ Hid (FoundC (midL RR OO i r k) cy n f) ∧ Hid (Below W8.heap.size W8 wr)) (fun _ n' _ => od'.length - (intOf n').toNat)
          case atStart => exact ⟨0, -1, Nat.zero_le _, rfl, rfl, .inl ⟨rfl, fun j hj => by omega⟩, HD8⟩
          case round =>
            clear HD8
            obtain ⟨n, f, hnl, rfl, rfl, hF, hBx⟩ := hrel
            have hml : (midL RR OO i r k).length = od'.length := by rw [← hOR.out.1, List.length_map]
            have HML := Lib.hid hml
            clear hml
            by_cases hgo : n < od'.length ∧ f < 0
            case pos =>
              obtain ⟨hn2, hf⟩ := hgo
              have hdf := decide_eq_true hf
              obtain ⟨x, hx⟩ : ∃ x, od'[n]? = some x := ⟨_, List.getElem?_eq_getElem hn2⟩
              have hxb := hOR.out.2 x (List.mem_of_getElem? hx)
              obtain ⟨xn, rfl⟩ : ∃ xn : Nat, x = (xn : Int) := ⟨x.toNat, by omega⟩
              have hxc : xn < cls.length := by have := HCL.out; omega
              obtain ⟨cx, hcx⟩ : ∃ z, cls[xn]? = some z := ⟨_, List.getElem?_eq_getElem hxc⟩
              have HLN : Hid ((midL RR OO i r k)[n]? = some cx) := by
                show _ = _
                rw [← hOR.out.1, List.getElem?_map, hx, Option.map_some, clsF, Int.toNat_natCast, ← HCE.out, List.getD_eq_getElem?_getD, hcx]
                rfl
              have q1 := old_cell hBx.out (HEL.out n _ hx)
              have q2 := old_cell hBx.out (HCC.out xn _ hcx)
              have q3 := old_cell hBx.out (HCC.out yn _ HCYL.out)
              have hn0 : (0 : Int) ≤ (n : Int) := Int.natCast_nonneg _
              have hx0 : (0 : Int) ≤ (xn : Int) := Int.natCast_nonneg _
              have hy0 : (0 : Int) ≤ (yn : Int) := Int.natCast_nonneg _
              have hnd : (n : Int) < (od'.length : Int) := by omega
              have hxcl : (xn : Int) < (cls.length : Int) := by omega
              have hycl : (yn : Int) < (cls.length : Int) := by omega
              have HB4 := Lib.hid (fun m => below_drewN hBx.out m)
              have HFN := Lib.hid hf
              clear hx hxb hcx hf
              by_cases he : cx = cy
              · have hdx : (cx == cy) = true := by simpa using he
                have HFY : Hid (FoundC (midL RR OO i r k) cy (n + 1) (n : Int)) := foundC_yes (midL_nodup HA.out) (by rw [← he]; exact HLN.out)
                clear he
                go_wp2
                go_quiet (fail)
                go_wp2
                go_roundw
                case rel => exact ⟨n + 1, (n : Int), by omega, by go_num, rfl, HFY, HB4.out _⟩
                case measure => simp [intOf]; omega
              · have hdx : (cx == cy) = false := by simpa using he
                have HFY : Hid (FoundC (midL RR OO i r k) cy (n + 1) f) := foundC_no hF.out HFN.out HLN.out he
                clear he
                go_wp2
                go_quiet (fail)
                go_wp2
                go_roundw
                case rel => exact ⟨n + 1, f, by omega, by go_num, rfl, HFY, HB4.out _⟩
                case measure => simp [intOf]; omega
            case neg =>
              obtain ⟨W10, rfl⟩ : ∃ W : World, W = wr := ⟨_, rfl⟩
              have hfe := foundC_end hF.out (by have := HML.out; omega) (by have := HML.out; omega)
              have HRG10 := Lib.hid (hRG.out.below hBx.out)
              have HCV10 := Lib.hid (hCV.out.below hBx.out)
              have HXC10 := Lib.hid (hXC.out.below hBx.out)
              have HB10 : Hid (Below xb W1 W10) := hB.out.trans (hBx.out.mono (by have := hXC.out.lt; omega))
              have HPS := Lib.hid (partR_succ (rows := RR) (out := OO) HY.out)
              have HPL := Lib.hid (partR_len (rows := RR) (out := OO) hkl)
              have HLE := Lib.hid (show BB ≤ W10.heap.size from Nat.le_trans HRG10.out.lo HRG10.out.le)
              have HXB := Lib.hid (show xb ≤ BB by have := HNUM.out; omega)
              rcases hfe with ⟨hf1, hno⟩ | ⟨hf1, hyes, hfx⟩
              · have hnl2 : ¬ n < od'.length := fun h => hgo ⟨h, by omega⟩
                have hdf : decide (f < 0) = true := decide_eq_true (by omega)
                have hmn := mid_new HA.out HST.out HY.out (by rw [HCY.out]; exact hno) hOR.out HYB.out
                rw [HCY.out, ← HQ.out, ← HRE.out, HML.out] at hmn
                have HON := Lib.hid hmn.1
                have HPN : Hid (partR RR OO r (k + 1) = partR RR OO r k ++ [(od'.length : Int)]) := by
                  show _ = _
                  rw [HPS.out, HCY.out, ← HQ.out, ← HRE.out, hmn.2]
                have hod3 : od'.length + 1 ≤ 16 := by
                  have h1 := hmn.1.1
                  have h2 := congrArg List.length h1
                  rw [List.length_map, List.length_append] at h2
                  have h3 := midL_len (k := k + 1) HA.out HST.out
                  simp at h2
                  omega
                have HTN2 : Hid ((od' ++ [(yn : Int)])[i]? = some (tn : Int)) := by show _ = _; rw [List.getElem?_append_left hil']; exact hTN.out
                clear hgo hno hmn hf1
                go_wp2_with (first
                  | (at_builtin; refine wpList_append_list (enc := Value.int .i64) (e := 3) rfl (.tmp 80) (.tmp 82) 23 rfl BB i0 (.int .i64 0) 8 Try.underlying23 hi0 hz0 hz1 hz2 rfl (.slice (some ⟨eq, es, none⟩) od'.length ec') od' rfl (has_alloc HRG10.out.extra.has _) (.slice (some ⟨W10.heap.size, 0, none⟩) 1 1) [(yn : Int)] rfl (lies_lit1 (enc := Value.int .i64) _ rfl) (fun _ _ => rfl) (by simp only [List.length_cons, List.length_nil]; omega) (by simp only [List.length_cons, List.length_nil]; omega) (by have := HLE.out; simp; omega) ?_; intro v8 w8 hv8 hg8 hb8; obtain ⟨a8, c8, hvf, _⟩ := hv8.form; rw [show (od' ++ [(yn : Int)]).length = od'.length + 1 from by simp] at hvf; subst hvf; have hg8' := grown_alloc hg8; have HRG8 := Lib.hid (HRG10.out.more hv8 hg8' (fun k hk => (hb8 k hk).imp id (fun h => by simp at h; omega))); have HLE8 := Lib.hid (Nat.le_trans HLE.out hg8'.size))
                  | (at_builtin; refine wpList_append_list (enc := Value.int .i64) (e := 3) rfl (.tmp 84) (.tmp 86) 23 rfl BB i0 (.int .i64 0) 8 Try.underlying23 hi0 hz0 hz1 hz2 rfl (.slice ra k rc) (partR RR OO r k) rfl (has_alloc HRG8.out.row_.has _) (.slice (some ⟨w8.heap.size, 0, none⟩) 1 1) [(od'.length : Int)] rfl (lies_lit1 (enc := Value.int .i64) _ rfl) (fun _ _ => rfl) (by rw [HPL.out]; simp only [List.length_cons, List.length_nil]; omega) (by rw [HPL.out]; simp only [List.length_cons, List.length_nil]; omega) (by have := HLE8.out; simp; omega) ?_; intro v9 w9 hv9 hg9 hb9; have hg9' := grown_alloc hg9))
                have HRG9 := HRG8.out.grow hv9 hg9' (fun k hk => (hb9 k hk).imp id (fun h => by simp at h; omega))
                rw [← HPN.out] at HRG9
                have HR9 := Lib.hid HRG9
                have hp1 : ∀ k, (Value.slice (some ⟨eq, es, none⟩) od'.length ec').ownBlock = some k → k < w.heap.size ∨ BB ≤ k := fun k hk => .inr (HRG10.out.extra.has.lt k hk).1
                have hp2 : ∀ k, (Value.slice ra k rc).ownBlock = some k → True := fun _ _ => trivial
                have HCV9 := Lib.hid ((HCV10.out.grown hg8' hp1).grown hg9' (fun k hk => .inr (HRG8.out.row_.has.lt k hk).1))
                have HXC9 := Lib.hid ((HXC10.out.grown hg8' (has_ne_c3 HRG10.out.extra.has HXC10.out (by decide))).grown hg9' (has_ne_c3 HRG8.out.row_.has (HXC10.out.grown hg8' (has_ne_c3 HRG10.out.extra.has HXC10.out (by decide))) (by decide)))
                have HB9 : Hid (Below xb W1 w9) := (HB10.out.grown hg8' (Nat.le_trans HXB.out HLE.out) (fun k hk => Nat.le_trans HXB.out (HRG10.out.extra.has.lt k hk).1)).grown hg9' (Nat.le_trans HXB.out HLE8.out) (fun k hk => Nat.le_trans HXB.out (HRG8.out.row_.has.lt k hk).1)
                clear hv8 hg8 hb8 hg8' hv9 hg9 hb9 hg9' HRG9 HRG8 HRG10 HCV10 HXC10 HB10 hp1 hp2
                go_wp2
                go_roundw
                case rel => exact ⟨k + 1, od' ++ [(yn : Int)], w9.heap.size, by omega, by simp; omega, by go_num, HON, HTN2, HR9, HCV9, HXC9, HB9⟩
                case measure => simp [intOf]; omega
              · have hdf : decide (f < 0) = false := decide_eq_false (by omega)
                have hmo := mid_old HA.out HST.out HY.out (by rw [HCY.out]; exact hyes)
                rw [HCY.out, ← HQ.out, ← HRE.out] at hmo
                have HON : Hid (Order RR OO od' (midL RR OO i r (k + 1))) := by rw [hmo.1]; exact hOR.out
                have HPN : Hid (partR RR OO r (k + 1) = partR RR OO r k ++ [f]) := by
                  show _ = _
                  rw [HPS.out, HCY.out, ← HQ.out, ← HRE.out, hmo.2, hfx]
                clear hgo hyes hfx hmo hf1
                by_cases hnl2 : n < od'.length
                all_goals
                  go_wp2_with (at_builtin; refine wpList_append_list (enc := Value.int .i64) (e := 3) rfl (.tmp 84) (.tmp 86) 23 rfl BB i0 (.int .i64 0) 8 Try.underlying23 hi0 hz0 hz1 hz2 rfl (.slice ra k rc) (partR RR OO r k) rfl (has_alloc HRG10.out.row_.has _) (.slice (some ⟨W10.heap.size, 0, none⟩) 1 1) [f] rfl (lies_lit1 (enc := Value.int .i64) _ rfl) (fun _ _ => rfl) (by rw [HPL.out]; simp only [List.length_cons, List.length_nil]; omega) (by rw [HPL.out]; simp only [List.length_cons, List.length_nil]; omega) (by have := HLE.out; simp; omega) ?_; intro v9 w9 hv9 hg9 hb9; have hg9' := grown_alloc hg9)
                  have HRG9 := HRG10.out.grow hv9 hg9' (fun k hk => (hb9 k hk).imp id (fun h => by simp at h; omega))
                  rw [← HPN.out] at HRG9
                  have HR9 := Lib.hid HRG9
                  have HCV9 := Lib.hid (HCV10.out.grown hg9' (fun k hk => .inr (HRG10.out.row_.has.lt k hk).1))
                  have HXC9 := Lib.hid (HXC10.out.grown hg9' (has_ne_c3 HRG10.out.row_.has HXC10.out (by decide)))
                  have HB9 : Hid (Below xb W1 w9) := HB10.out.grown hg9' (Nat.le_trans HXB.out HLE.out) (fun k hk => Nat.le_trans HXB.out (HRG10.out.row_.has.lt k hk).1)
                  clear hv9 hg9 hb9 hg9' HRG9 HRG10 HCV10 HXC10 HB10
                  go_wp2
                  go_roundw
                  case rel => exact ⟨k + 1, od', w9.heap.size, by omega, hod, by go_num, HON, hTN, HR9, HCV9, HXC9, HB9⟩
                  case measure => simp [intOf]; omega
        case neg =>
          obtain rfl : k = r.length := by omega
          have hkd : decide (r.length < bn) = false := decide_eq_false (by have := HRL.out; omega)
          have HON : Hid (Order RR OO od' (reachI Q (i + 1))) := by
            have h1 := hOR.out
            rw [midL_end HST.out, ← HQ.out] at h1
            exact h1
          have HPE : Hid (partR RR OO r r.length = minRow Q R (clsF RR OO tn)) := by
            show _ = _
            rw [HQ.out, HRE.out, HQ.out]
            exact partR_end (by rw [← HQ.out]; exact HROW.out)
          have HLT := Lib.hid (take_map_snoc (minRow Q R) HRI.out)
          have HLO := Lib.hid (take_map_snoc (fun s : Int => (outQ RR OO).getD s.toNat 0) HRI.out)
          have hRG8 := hRG.out
          rw [HPE.out] at hRG8
          have HRG8 := Lib.hid hRG8
          have d1 := HRG8.out.cells.c1
          have d2 := (HRG8.out.cells.alloc (.cells #[Value.slice ra r.length rc] 23)).c1
          have hpl := HRG8.out.cells.lt
          have HNP := Lib.hid (has_ne_c3 HRG8.out.top HRG8.out.cells (by decide))
          have HNC := Lib.hid (has_ne_c3 HRG8.out.top hXC.out (by decide))
          have HLO8 := Lib.hid (show BB ≤ W8.heap.size from Nat.le_trans HRG8.out.lo HRG8.out.le)
          clear hRG hRG8 hOR hlk hkl x1 x2
          go_wp2_with (at_builtin; refine wpList_append_list (enc := id) (e := 23) rfl (.tmp 89) (.tmp 91) 22 rfl BB i2 (.slice none 0 0) 24 Try.underlying22 hi2 hz20 hz21 hz22 rfl (.slice na l1 nc) us rfl (has_alloc HRG8.out.top _) (.slice (some ⟨W8.heap.size, 0, none⟩) 1 1) [.slice ra r.length rc] rfl (lies_lit1v _ rfl) (fun y hy => by simp at hy; subst hy; rfl) (by rw [HUSL.out]; simp; omega) (by rw [HUSL.out]; simp; omega) (by have := HLO8.out; simp; omega) ?_; intro v' w2 hv' hg2 _; obtain ⟨a3, c3, hvf, _⟩ := hv'.form; rw [show (us ++ [Value.slice ra r.length rc]).length = l1 + 1 from by rw [List.length_append, HUSL.out]; rfl] at hvf; subst hvf; have hg3 := grown_alloc hg2; have hc2 := HRG8.out.cells.grown hg3 HNP.out; have d3 := hc2.c1; have df := hc2.f)
          obtain ⟨l3, hl3⟩ : ∃ l, l = l1 + 1 := ⟨_, rfl⟩
          rw [← hl3] at hv' ⊢
          have HM5 := Lib.hid (HRG8.out.done hv' hg3)
          have HG5 : Hid (BB ≤ w2.heap.size) := Nat.le_trans HLO8.out hg3.size
          have hne1 : (p : Nat) ≠ xb := by have := HNUM.out; omega
          have hne2 : xb ≤ p := by have := HNUM.out; omega
          have hne3 : xb ≤ BB := by have := HNUM.out; omega
          have HC5 := Lib.hid ((hXC.out.grown hg3 HNC.out).other (a := ⟨p, 1, none⟩) hne1 (.slice a3 l3 c3))
          have HB5 : Hid (Below xb W1 (w2.setCell ⟨p, 1, none⟩ (.slice a3 l3 c3))) := (hB.out.grown hg3 (Nat.le_trans hne3 HLO8.out) (fun k hk => Nat.le_trans hne3 (HRG8.out.top.lt k hk).1)).setCell hne2 _
          have hcv5 := hCV.out.grown hg3 (fun k hk => .inr (HRG8.out.top.lt k hk).1)
          have HCV5 : Hid (OwnI (w2.setCell ⟨p, 1, none⟩ (.slice a3 l3 c3)) w.heap.size BB (.slice ca cls.length cc) cls) :=
            hcv5.set (a := ⟨p, 1, none⟩) (has_ne_c3 hcv5.has hc2 (by decide)) _
          have HG6 : Hid (BB ≤ (w2.setCell ⟨p, 1, none⟩ (.slice a3 l3 c3)).heap.size) := by show _ ≤ _; rw [size_setCell']; exact HG5.out
          obtain ⟨W5, hW5⟩ : ∃ W, W = w2.setCell ⟨p, 1, none⟩ (.slice a3 l3 c3) := ⟨_, rfl⟩
          rw [← hW5] at HM5 HC5 HB5 HCV5 HG6 ⊢
          have HW5 := Lib.hid (show w2.heap.size = W5.heap.size by rw [hW5, size_setCell'])
          rw [HW5.out] at HM5
          clear hcv5 hv' hg2 hg3 hc2 d1 d2 d3 df hpl HRG8 hXC hB hCV hW5 hl3 HNP HNC HLO8 HG5 x0 HEL HBW
          have HVO := Lib.hid HM5.out.terms
          have HOLN : Hid ((((R.take i).map fun s => (outQ RR OO).getD s.toNat 0)).length = l2) := HL2.out.symm
          obtain ⟨eq2, es2, ec2, he2, hel2⟩ := ints_at HM5.out.extra.has.lies (by omega)
          obtain ⟨rfl, rfl, rfl⟩ : eq = eq2 ∧ es = es2 ∧ ec' = ec2 := by
            injection he2 with h1 h2 h3
            injection h1 with h1
            injection h1 with h1 h2
            exact ⟨h1, h2, h3⟩
          have o1 := hel2 i _ hTN.out
          obtain ⟨po, oo, hpo, ho1⟩ : ∃ po oo, a2 = some ⟨po, oo, none⟩ ∧ W1.cell? ⟨po, oo + tn, none⟩ = some (.int .i64 o) := by
            obtain ⟨q', s', h1, h2⟩ := HX.out.cells.2 tn o HOO.out
            exact ⟨q', s', h1, h2⟩
          have HBW5 : Hid (Below W1.heap.size W1 W5) := by show Below _ _ _; rw [← HZX.out]; exact HB5.out
          have x2 := HC5.out.c2
          rw [hpo] at x2
          have o2 := old_cell HBW5.out ho1
          have c4 := HM5.out.cells.c2
          have c5 := (HM5.out.cells.alloc (.cells #[Value.int .i64 o] 3)).c2
          have hpl := HM5.out.cells.lt
          have hi00 : (0 : Int) ≤ (i : Int) := Int.natCast_nonneg _
          have ht0 : (0 : Int) ≤ (tn : Int) := Int.natCast_nonneg _
          have hio : (i : Int) < (od'.length : Int) := by omega
          have htO : (tn : Int) < (OO.length : Int) := by have := HOL.out; omega
          have HNO := Lib.hid (has_ne_c3 HVO.out.has HM5.out.cells (by decide))
          have HNC := Lib.hid (has_ne_c3 HVO.out.has HC5.out (by decide))
          clear hel2 he2 hpo ho1
          go_region_law ((refine step_append_at_list (enc := Value.int .i64) (e := 3) rfl (.tmp 95) (.tmp 104) 23 rfl BB i0 (.int .i64 0) 8 Try.underlying23 hi0 hz0 hz1 hz2 rfl (.slice oa l2 oc) ((R.take i).map fun s => (outQ RR OO).getD s.toNat 0) rfl (by repeat (first | with_reducible exact HVO.out.has | with_reducible apply has_drew | with_reducible apply has_alloc)) (Value.slice (some ⟨_, 0, none⟩) 1 1) [o] rfl (by repeat (first | with_reducible apply lies_drew | (with_reducible refine lies_lit1 (enc := Value.int .i64) _ rfl) | with_reducible apply lies_alloc)) (fun _ _ => rfl) (by rw [HOLN.out]; simp; omega) (by rw [HOLN.out]; simp; omega) (by have := HG6.out; simp; omega) ?_; intro vt w6 ho6 hg6 hb6; obtain ⟨a6, c6, hvf, _⟩ := ho6.form; rw [show (((R.take i).map fun s => (outQ RR OO).getD s.toNat 0) ++ [o]).length = l2 + 1 from by rw [List.length_append, HOLN.out]; rfl] at hvf; subst hvf; refine with_fact (T := W5.grownBy w6 (Value.slice oa l2 oc).ownBlock) ?_ ?_; (focus (exact grown_alloc (grown_drew hg6))); intro hg7; have hc7 := HM5.out.cells.grown hg7 HNO.out; have r1 := hc7.c2; have r3 := hc7.f))
          all_goals
            have hm7 := HM5.out.term ho6 hg7 (fun k hk => (hb6 k hk).imp id (fun h => by simp at h; omega))
            rw [← HLT.out] at hm7
            have HM8 : Hid (Making (w6.setCell ⟨p, 2, none⟩ (.slice a6 (l2 + 1) c6)) BB w6.heap.size p (bn : Int) (.slice a3 l3 c3) (.slice a6 (l2 + 1) c6) (.slice (some ⟨eq, es, none⟩) od'.length ec') (us ++ [.slice ra r.length rc]) ((R.take (i + 1)).map (minRow Q R)) ((R.take (i + 1)).map fun s => (outQ RR OO).getD s.toNat 0) od') := by
              have h1 := hm7
              rw [← HOQ.out, ← HLO.out] at h1
              exact h1
            have HC7 := Lib.hid ((HC5.out.grown hg7 HNC.out).other (a := ⟨p, 2, none⟩) hne1 (.slice a6 (l2 + 1) c6))
            have HB7 : Hid (Below xb W1 (w6.setCell ⟨p, 2, none⟩ (.slice a6 (l2 + 1) c6))) := (HB5.out.grown hg7 (Nat.le_trans hne3 HG6.out) (fun k hk => Nat.le_trans hne3 (HVO.out.has.lt k hk).1)).setCell hne2 _
            have hcv7 := HCV5.out.grown hg7 (fun k hk => .inr (HVO.out.has.lt k hk).1)
            have HCV7 : Hid (OwnI (w6.setCell ⟨p, 2, none⟩ (.slice a6 (l2 + 1) c6)) w.heap.size BB (.slice ca cls.length cc) cls) :=
              hcv7.set (a := ⟨p, 2, none⟩) (has_ne_c3 hcv7.has hc7 (by decide)) _
            clear ho6 hb6 hg6 hg7 hc7 r1 r3 c4 c5 o1 o2 x2 hpl HM5 HVO HNO HNC hm7 hcv7
            go_wp2
            go_roundw
            case rel => exact ⟨i + 1, od', _, _, _, w6.heap.size, by omega, hod, by go_num, HON, HM8, HCV7, HC7, HB7⟩
            case measure => simp [intOf]; omega
set_option maxHeartbeats 1000000 in
theorem spec_min (v : Value) (b : Int) (rows : List (List Int)) (out : List Int) (w : World) (h : LiesS w v b rows out) (hs : rows.length + tot rows + out.length ≤ 1048576) :
    Calls Try.prog 55 #[v] w (GivesK (formB b rows out) (minRV b rows out) (minOV b rows out) (formK b rows out) w) := by
  cases hk : formK b rows out with
  | false =>
    have hk' : ¬ formK b rows out = true := by rw [hk]; simp
    rw [minRV, if_neg hk', minOV, if_neg hk', formB, if_neg hk']
    exact spec_min_no v b rows out w h hs hk
  | true =>
    rw [minRV, if_pos hk, minOV, if_pos hk]
    exact spec_min_yes v b rows out w h hs hk
end Mins
end Go.Proofs.Ythnmighlgifoeaa
