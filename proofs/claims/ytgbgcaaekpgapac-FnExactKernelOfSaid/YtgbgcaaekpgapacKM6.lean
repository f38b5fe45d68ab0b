/- Several texts of this proof, one behind the other: each says ahead of it what it shows and under which conditions. -/
import Derived.Test.YtgbgcaaekpgapacKM3
import Derived.Test.YtgbgcaaekpgapacKM5
import Derived.Test.YtgbgcaaekpgapacKM4
import Derived.Test.YtgbgcaaekpgapacKM1
import Derived.Deep.RegionHeld3
import Derived.Test.YtgbgcaaekpgapacKM2
/- Contract of the model's MinimalForm. No conditions beyond those that each states. -/
namespace Go.Proofs.Ytgbgcaaekpgapac
open Go.ChangeShapes Go.WideShapes Go.ChangeAt Go.RowKit
open Go.PlainAid Plain
set_option linter.unusedVariables false
namespace Mins
open Seqs
set_option maxHeartbeats 1000000 in
theorem spec_min_no (v : Value) (b : Int) (rows : List (List Int)) (out : List Int) (w : World) (h : LiesS w v b rows out) (hs : rows.length + tot rows + out.length ≤ 1048576) (hk : formK b rows out = false) :
    Calls Try.prog 19 #[v] w (GivesK 0 [] [] false w) := by
  have HS := Lib.hid h
  obtain ⟨an, cn, ao, co, rfl⟩ := h.form
  clear h
  have HB : Hid (Below w.heap.size w (w.alloc (Obj.cells #[Value.int .i64 b, Value.slice an rows.length cn, Value.slice ao out.length co] 30))) := (Below.refl _ _).alloc (Nat.le_refl _) _
  have HC := Lib.hid (Cells3.new w 30 (.int .i64 b) (.slice an rows.length cn) (.slice ao out.length co))
  have HK := Lib.hid hk
  have HFP : Hid (formB b rows out = 0 ∧ formR b rows out = [] ∧ formO b rows out = []) := by
    rcases form_parts b rows out with ⟨_, h1, _⟩ | ⟨_, h1, h2, h3⟩ | ⟨_, _, _, h1, _⟩
    · rw [hk] at h1; cases h1
    · exact ⟨h1, h2, h3⟩
    · rw [hk] at h1; cases h1
  have HSZ := Lib.hid hs
  have HB1 := Lib.hid (HB.out.alloc (by simp) (Obj.cells #[Value.int .i64 0, Value.slice none 0 0, Value.slice none 0 0] 30))
  have HC1 := Lib.hid (HC.out.alloc (Obj.cells #[Value.int .i64 0, Value.slice none 0 0, Value.slice none 0 0] 30))
  have hZ := Cells3.new (w.alloc (Obj.cells #[Value.int .i64 b, Value.slice an rows.length cn, Value.slice ao out.length co] 30)) 30 (.int .i64 0) (.slice none 0 0) (.slice none 0 0)
  rw [size_alloc'] at hZ
  have HZ1 := Lib.hid hZ
  have k0 := HC1.out.c0
  have k1 := HC1.out.c1
  have k2 := HC1.out.c2
  clear hZ HB HC hk hs
  go_enter Try.func19, Try.ntmps19
  go_wp2_with fail
  refine (spec_form _ b rows out _ (HS.out.below HB1.out) HSZ.out).mono ?_
  rintro e W1 ⟨v1, rfl, hv1, b1⟩
  rw [HFP.out.1, HFP.out.2.1, HFP.out.2.2] at hv1
  obtain ⟨a1, c1, a2, c2, rfl⟩ := hv1.form
  rw [HK.out]
  have HB2 := Lib.hid (HB1.out.trans (b1.mono HB1.out.size))
  have hZ2 := HZ1.out.below b1
  have HZ2 := Lib.hid (hZ2.alloc (Obj.cells #[Value.int .i64 0, Value.slice a1 ([] : List (List Int)).length c1, Value.slice a2 ([] : List Int).length c2] 30))
  have HB3 := Lib.hid (HB2.out.alloc HB2.out.size (Obj.cells #[Value.int .i64 0, Value.slice a1 ([] : List (List Int)).length c1, Value.slice a2 ([] : List Int).length c2] 30))
  simp only [List.length_nil] at HZ2 HB3
  have z0 := HZ2.out.c0
  have z1 := HZ2.out.c1
  have z2 := HZ2.out.c2
  have z3 := HZ2.out.f
  clear hv1 b1 hZ2 k0 k1 k2 HB1 HC1 HZ1
  go_wp2
  have hZ3 := (((HZ2.out.set0 (.int .i64 0)).set1 (.slice none 0 0)).set2 (.slice none 0 0))
  have n0 := hZ3.c0
  have n1 := hZ3.c1
  have n2 := hZ3.c2
  refine bodyPost_ret (v := .tuple #[.agg #[.int .i64 0, .slice none 0 0, .slice none 0 0], .bool false]) (by simp [results, Try.results19, go_sem, n0, n1, n2]) rfl ⟨_, rfl, OwnS.zero _, ?_⟩
  exact ((HB3.out.setCell (by show _ ≤ _ + 1; omega) _).setCell (by show _ ≤ _ + 1; omega) _).setCell (by show _ ≤ _ + 1; omega) _
set_option maxRecDepth 100000 in
set_option maxHeartbeats 4000000 in
theorem spec_min_yes (v : Value) (b : Int) (rows : List (List Int)) (out : List Int) (w : World) (h : LiesS w v b rows out) (hs : rows.length + tot rows + out.length ≤ 1048576) (hk : formK b rows out = true) :
    Calls Try.prog 19 #[v] w (GivesK (formB b rows out) (minR (formR b rows out) (formO b rows out)) (minO (formR b rows out) (formO b rows out)) true w) := by
  obtain ⟨i0, hi0, hz0, hz1, hz2⟩ := info_parts Ints.infoI
  obtain ⟨i2, hi2, hz20, hz21, hz22⟩ := info_parts infoR
  have HS := Lib.hid h
  obtain ⟨an, cn, ao, co, rfl⟩ := h.form
  clear h
  have HB : Hid (Below w.heap.size w (w.alloc (Obj.cells #[Value.int .i64 b, Value.slice an rows.length cn, Value.slice ao out.length co] 30))) := (Below.refl _ _).alloc (Nat.le_refl _) _
  have HC := Lib.hid (Cells3.new w 30 (.int .i64 b) (.slice an rows.length cn) (.slice ao out.length co))
  have HK := Lib.hid hk
  have HCF := Lib.hid (fun (W : World) (hW : Below w.heap.size w W) => spec_form _ b rows out W (HS.out.below hW) hs)
  have hval := form_valid hk
  obtain ⟨B, hBB⟩ : ∃ B, B = formB b rows out := ⟨_, rfl⟩
  obtain ⟨RR, hRR⟩ : ∃ R, R = formR b rows out := ⟨_, rfl⟩
  obtain ⟨OO, hOO⟩ : ∃ O, O = formO b rows out := ⟨_, rfl⟩
  rw [← hBB, ← hRR, ← hOO, hk] at HCF
  rw [← hBB, ← hRR, ← hOO] at hval ⊢
  clear hBB hRR hOO hk hs
  obtain ⟨bn, rfl⟩ : ∃ bn : Nat, B = (bn : Int) := ⟨B.toNat, by have := hval.1; omega⟩
  have HVAL := Lib.hid hval
  have HA := Lib.hid (show Auto RR OO bn from by have := hval.auto; rw [Int.toNat_natCast] at this; exact this)
  have hb2 : 2 ≤ bn := by have := hval.1; omega
  have hb4 : bn ≤ 4 := by have := hval.2.1; omega
  have hn16 : RR.length ≤ 16 := hval.2.2.2.1
  have hn1 : 1 ≤ RR.length := hval.2.2.1
  have HOL := Lib.hid hval.2.2.2.2.1
  clear hval
  have HB1 := Lib.hid (HB.out.alloc (by simp) (Obj.cells #[Value.int .i64 0, Value.slice none 0 0, Value.slice none 0 0] 30))
  have HC1 := Lib.hid (HC.out.alloc (Obj.cells #[Value.int .i64 0, Value.slice none 0 0, Value.slice none 0 0] 30))
  have hZ := Cells3.new (w.alloc (Obj.cells #[Value.int .i64 b, Value.slice an rows.length cn, Value.slice ao out.length co] 30)) 30 (.int .i64 0) (.slice none 0 0) (.slice none 0 0)
  rw [size_alloc'] at hZ
  have HZ1 := Lib.hid hZ
  have k0 := HC1.out.c0
  have k1 := HC1.out.c1
  have k2 := HC1.out.c2
  clear hZ HB HC
  go_enter Try.func19, Try.ntmps19
  go_wp2_with fail
  refine (HCF.out _ HB1.out).mono ?_
  rintro e W1 ⟨v1, rfl, hv1, b1⟩
  obtain ⟨a1, c1, a2, c2, rfl⟩ := hv1.form
  have HB2 := Lib.hid (HB1.out.trans (b1.mono HB1.out.size))
  have HZ2 := Lib.hid (HZ1.out.below b1)
  have HW1 : Hid (w.heap.size + 2 ≤ W1.heap.size) := by have := HZ2.out.lt; show _ ≤ _; omega
  have HX := Lib.hid hv1.lies
  have hbx : Below W1.heap.size W1 (W1.alloc (Obj.cells #[Value.int .i64 (bn : Int), Value.slice a1 RR.length c1, Value.slice a2 OO.length c2] 30)) := (Below.refl _ _).alloc (Nat.le_refl _) _
  have HXC := Lib.hid (Cells3.new W1 30 (.int .i64 (bn : Int)) (.slice a1 RR.length c1) (.slice a2 OO.length c2))
  obtain ⟨W2, hW2⟩ : ∃ W, W = W1.alloc (Obj.cells #[Value.int .i64 (bn : Int), Value.slice a1 RR.length c1, Value.slice a2 OO.length c2] 30) := ⟨_, rfl⟩
  have HBX := Lib.hid hbx
  have j0 := HXC.out.c0
  have j1 := HXC.out.c1
  have j2 := HXC.out.c2
  clear hv1 b1 hbx k0 k1 k2 HB1 HC1 HZ1
  go_wp2_with fail
  rw [← hW2] at HXC HBX j0 j1 j2 ⊢
  clear hW2
  refine (spec_class_yes _ (bn : Int) RR OO _ (HX.out.below HBX.out) (seqB_yes HVAL.out)).mono ?_
  rintro e W3 ⟨cv, rfl, hcv, b3⟩
  obtain ⟨cls, hcls⟩ : ∃ c, c = classes RR OO := ⟨_, rfl⟩
  have HCE := Lib.hid hcls
  have HCL : Hid (cls.length = RR.length) := by show _ = _; rw [hcls, classes_len]
  rw [← hcls] at hcv
  obtain ⟨ca, cc, rfl, _⟩ := hcv.form
  have HXC3 := Lib.hid (HXC.out.below b3)
  have HBX3 := Lib.hid (HBX.out.trans (b3.mono HBX.out.size))
  have HCV := Lib.hid (hcv.mono (show w.heap.size ≤ W2.heap.size from Nat.le_trans HB2.out.size HBX.out.size))
  have HWX : Hid (W1.heap.size < W3.heap.size) := HXC3.out.lt
  have j0 := HXC3.out.c0
  have j1 := HXC3.out.c1
  have j2 := HXC3.out.c2
  clear hcv b3 hcls HXC HBX
  go_wp2_with fail
  -- the sequence in the making, the order
  have hbp : Below W3.heap.size W3 (W3.alloc (Obj.cells #[Value.int .i64 (bn : Int), Value.slice none 0 0, Value.slice none 0 0] 30)) := (Below.refl _ _).alloc (Nat.le_refl _) _
  have hP := Cells3.new W3 30 (.int .i64 (bn : Int)) (.slice none 0 0) (.slice none 0 0)
  have hO : Has (Value.int .i64) 3 ((W3.alloc (Obj.cells #[Value.int .i64 (bn : Int), Value.slice none 0 0, Value.slice none 0 0] 30)).alloc (.cells #[.int .i64 0] 3)) (W3.alloc (Obj.cells #[Value.int .i64 (bn : Int), Value.slice none 0 0, Value.slice none 0 0] 30)).heap.size (.slice (some ⟨(W3.alloc (Obj.cells #[Value.int .i64 (bn : Int), Value.slice none 0 0, Value.slice none 0 0] 30)).heap.size, 0, none⟩) 1 1) [0] := has_lit1 (enc := Value.int .i64) 0 rfl (Nat.le_refl _)
  have hbo : Below (W3.alloc (Obj.cells #[Value.int .i64 (bn : Int), Value.slice none 0 0, Value.slice none 0 0] 30)).heap.size (W3.alloc (Obj.cells #[Value.int .i64 (bn : Int), Value.slice none 0 0, Value.slice none 0 0] 30)) ((W3.alloc (Obj.cells #[Value.int .i64 (bn : Int), Value.slice none 0 0, Value.slice none 0 0] 30)).alloc (.cells #[.int .i64 0] 3)) := (Below.refl _ _).alloc (Nat.le_refl _) _
  obtain ⟨W4, hW4⟩ : ∃ W, W = W3.alloc (Obj.cells #[Value.int .i64 (bn : Int), Value.slice none 0 0, Value.slice none 0 0] 30) := ⟨_, rfl⟩
  have hsz4 : W4.heap.size = W3.heap.size + 1 := by rw [hW4, size_alloc']
  rw [← hW4] at hbp hP hO hbo
  rw [show (W3.alloc (Obj.cells #[Value.int .i64 (bn : Int), Value.slice none 0 0, Value.slice none 0 0] 30)).alloc (.cells #[.int .i64 0] 3) = W4.alloc (.cells #[.int .i64 0] 3) by rw [hW4]]
  obtain ⟨W5, hW5⟩ : ∃ W, W = W4.alloc (.cells #[.int .i64 0] 3) := ⟨_, rfl⟩
  rw [← hW5] at hO hbo ⊢
  have hb35 : Below W3.heap.size W3 W5 := hbp.trans (hbo.mono hbp.size)
  obtain ⟨xb, hxb⟩ : ∃ x, x = W1.heap.size := ⟨_, rfl⟩
  obtain ⟨p, hp⟩ : ∃ x, x = W3.heap.size := ⟨_, rfl⟩
  obtain ⟨BB, hBB⟩ : ∃ x, x = W3.heap.size + 1 := ⟨_, rfl⟩
  obtain ⟨Q, hQ⟩ : ∃ Q, Q = rowsQ RR OO := ⟨_, rfl⟩
  obtain ⟨R, hR⟩ : ∃ R, R = reached Q := ⟨_, rfl⟩
  have HQ := Lib.hid hQ
  have HRE := Lib.hid hR
  have HNUM := Lib.hid (show w.heap.size + 2 ≤ xb ∧ xb < p ∧ p < BB from by have := HW1.out; have := HWX.out; omega)
  have hR16 : R.length ≤ 16 := by
    rw [hR, hQ]
    have h1 := reached_len (rowsQ_auto HA.out).closed
    have h2 := rowsQ_len RR OO
    omega
  have hM5 : Hid (Making W5 BB W5.heap.size p (bn : Int) (.slice none 0 0) (.slice none 0 0) (.slice (some ⟨BB, 0, none⟩) 1 1) [] ((R.take 0).map (minRow Q R)) ((R.take 0).map fun s => (outQ RR OO).getD s.toNat 0) [0]) := by
    rw [hsz4, ← hBB] at hO
    rw [hp]
    exact Making.start (hP.below hbo) hO (by have := hbo.size; omega)
  have hOR : Hid (Order RR OO [0] (reachI Q 0)) := by rw [hQ]; exact order_start HA.out
  have hCV5 : Hid (OwnI W5 w.heap.size BB (.slice ca cls.length cc) cls) := ⟨HCV.out.below hb35, fun k hk => by have := (HCV.out.lt k hk).2; omega, by have := hbo.size; omega⟩
  have hXC5 : Hid (Cells3 W5 xb 30 (.int .i64 (bn : Int)) (.slice a1 RR.length c1) (.slice a2 OO.length c2)) := by rw [hxb]; exact HXC3.out.below hb35
  have hB5 : Hid (Below xb W1 W5) := by rw [hxb]; exact HBX3.out.trans (hb35.mono HBX3.out.size)
  rw [← hBB, ← hxb, ← hp]
  rw [← hxb] at HW1
  have HB2' : Hid (Below w.heap.size w W1) := HB2
  clear hW4 hsz4 hW5 hbp hP hO hbo hb35 hp hBB hQ hR HCV HXC3 HBX3 HWX j0 j1 j2 HB2
  have HZX : Hid (xb = W1.heap.size) := hxb
  clear hxb
  go_loopw [8, 9] (fun o' i' wr => ∃ (i : Nat) (od : List Int) (vn vo : Value) (us : List Value) (hi : Nat), i ≤ od.length ∧ od.length ≤ 16 ∧ i' = .int .i64 i ∧ Hid (Order RR OO od (reachI Q i)) ∧ Hid (Making wr BB hi p (bn : Int) vn vo o' us ((R.take i).map (minRow Q R)) ((R.take i).map fun s => (outQ RR OO).getD s.toNat 0) od) ∧ Hid (OwnI wr w.heap.size BB (.slice ca cls.length cc) cls) ∧ Hid (Cells3 wr xb 30 (.int .i64 (bn : Int)) (.slice a1 RR.length c1) (.slice a2 OO.length c2)) ∧ Hid (Below xb W1 wr)) (fun _ i' _ => 17 - (intOf i').toNat)
  case atStart => exact ⟨0, [0], _, _, [], W5.heap.size, by simp, by simp, rfl, hOR, hM5, hCV5, hXC5, hB5⟩
  case round =>
    clear hOR hM5 hCV5 hXC5 hB5
    obtain ⟨i, od, vn, vo, us, hi, hil, hod16, rfl, hOR, hM, hCV, hXC, hB⟩ := hrel
    obtain ⟨W6, rfl⟩ : ∃ W : World, W = wr := ⟨_, rfl⟩
    obtain ⟨na, nc, oa, oc, hvn, hvo⟩ := hM.out.form
    obtain ⟨ea, ec, he8, _⟩ := hM.out.extra.has.form
    subst he8
    obtain ⟨l1, hl1⟩ : ∃ l, l = (((R.take i).map (minRow Q R))).length := ⟨_, rfl⟩
    obtain ⟨l2, hl2⟩ : ∃ l, l = (((R.take i).map fun s => (outQ RR OO).getD s.toNat 0)).length := ⟨_, rfl⟩
    have HUSL : Hid (us.length = l1) := by show _ = _; rw [hl1]; exact hM.out.len
    have hl1' : l1 ≤ 16 := by rw [hl1]; simp; omega
    have hl2' : l2 ≤ 16 := by rw [hl2]; simp; omega
    have HL1 := Lib.hid hl1
    have HL2 := Lib.hid hl2
    rw [← hl1] at hvn
    rw [← hl2] at hvo
    subst hvn; subst hvo
    clear hl1 hl2
    have x0 := hXC.out.c0
    have x1 := hXC.out.c1
    have x2 := hXC.out.c2
    by_cases hlt : i < od.length
    case neg =>
      have hoe := order_end HA.out (by rw [← HQ.out]; exact hOR.out) hlt hil
      rw [← HQ.out, ← HRE.out] at hoe
      have HE : Hid (((R.take i).map (minRow Q R)) = minR RR OO ∧ ((R.take i).map fun s => (outQ RR OO).getD s.toNat 0) = minO RR OO) := by
        show _ ∧ _
        rw [hoe.1, List.take_length, HRE.out, HQ.out]
        exact ⟨rfl, rfl⟩
      have HW : Hid (OwnS W6 BB W6.heap.size (.agg #[.int .i64 (bn : Int), .slice na l1 nc, .slice oa l2 oc]) (bn : Int) (minR RR OO) (minO RR OO)) := by
        have h1 := hM.out.building.seq
        rw [HE.out.1, HE.out.2] at h1
        exact h1
      have hP := hM.out.cells
      have m0 := hP.c0
      have m1 := hP.c1
      have m2 := hP.c2
      have hZ6 := c3_of_below hB.out HZ2.out (by have := HNUM.out; omega)
      have HZ6 := Lib.hid hZ6
      have z0 := hZ6.c0
      have z1 := hZ6.c1
      have z2 := hZ6.c2
      have z3 := hZ6.f
      have HB6 : Hid (Below w.heap.size w W6) := HB2'.out.trans (hB.out.mono (by have := HNUM.out; omega))
      clear hP hoe hZ6 x0 x1 x2
      go_wp2
      have hZ3 := (((HZ6.out.set0 (.int .i64 (bn : Int))).set1 (.slice na l1 nc)).set2 (.slice oa l2 oc))
      have n0 := hZ3.c0
      have n1 := hZ3.c1
      have n2 := hZ3.c2
      refine bodyPost_ret (v := .tuple #[.agg #[.int .i64 (bn : Int), .slice na l1 nc, .slice oa l2 oc], .bool true]) (by simp [results, Try.results19, go_sem, n0, n1, n2]) rfl ⟨_, rfl, ?_, ?_⟩
      · have T0 : Plain.Touch w.heap.size (w.heap.size + 2) W6 (((W6.setCell ⟨w.heap.size + 1, 0, none⟩ (.int .i64 (bn : Int))).setCell ⟨w.heap.size + 1, 1, none⟩ (.slice na l1 nc)).setCell ⟨w.heap.size + 1, 2, none⟩ (.slice oa l2 oc)) :=
          ((Plain.Touch.of_set _ (by show _ ≤ _ + 1; omega) (by show _ + 1 < _; omega)).trans (Plain.Touch.of_set _ (by show _ ≤ _ + 1; omega) (by show _ + 1 < _; omega))).trans (Plain.Touch.of_set _ (by show _ ≤ _ + 1; omega) (by show _ + 1 < _; omega))
        have := (HW.out.touch T0 (.inr (by have := HNUM.out; omega))).lower (show w.heap.size ≤ BB by have := HNUM.out; omega)
        simpa only [size_setCell'] using this
      · exact ((HB6.out.setCell (by show _ ≤ _ + 1; omega) _).setCell (by show _ ≤ _ + 1; omega) _).setCell (by show _ ≤ _ + 1; omega) _
    case pos =>
      have hor := order_round HA.out (show Order RR OO od (reachI (rowsQ RR OO) i) by rw [← HQ.out]; exact hOR.out) hlt
      rw [← HQ.out, ← HRE.out] at hor
      obtain ⟨tn, r, o, hto, htn, hr, ho, hrl, hrB, hRi, hrow, hoq, hst⟩ := hor
      have HTO := Lib.hid hto
      have HRR := Lib.hid hr
      have HOO := Lib.hid ho
      have HRL := Lib.hid hrl
      have HRB := Lib.hid hrB
      have HRI := Lib.hid hRi
      have HROW := Lib.hid hrow
      have HOQ := Lib.hid hoq
      have HST := Lib.hid (show reachI (rowsQ RR OO) (i + 1) = addAll (reachI (rowsQ RR OO) i) (r.map (clsF RR OO)) by rw [← HQ.out]; exact hst)
      have hr4 : r.length ≤ 4 := by omega
      have hr0 : 0 < r.length := by omega
      have hOR0 : Hid (Order RR OO od (midL RR OO i r 0)) := by rw [midL_zero, ← HQ.out]; exact hOR.out
      have hb7 : Below W6.heap.size W6 (W6.alloc (.cells #[] 3)) := (Below.refl _ _).alloc (Nat.le_refl _) _
      have hRG : Hid (Rowing (W6.alloc (.cells #[] 3)) BB (W6.alloc (.cells #[] 3)).heap.size p (bn : Int) (.slice na l1 nc) (.slice oa l2 oc) (.slice ea od.length ec) (.slice (some ⟨W6.heap.size, 0, none⟩) 0 0) us ((R.take i).map (minRow Q R)) ((R.take i).map fun s => (outQ RR OO).getD s.toNat 0) od (partR RR OO r 0)) :=
        hM.out.begin hb7 (has_lit0 (enc := Value.int .i64) rfl (Nat.le_refl _))
      have hCV7 := Lib.hid (hCV.out.below hb7)
      have hXC7 := Lib.hid (hXC.out.below hb7)
      have hB7 : Hid (Below xb W1 (W6.alloc (.cells #[] 3))) := hB.out.alloc (by have := hXC.out.lt; omega) _
      obtain ⟨zr, hzr⟩ : ∃ z, z = W6.heap.size := ⟨_, rfl⟩
      rw [← hzr] at hRG
      clear hto hr ho hrl hrB hRi hrow hoq hst hOR hM hCV hXC hB hb7 x0 x1 x2
      go_wp2_with fail
      rw [← hzr]
      clear hzr
      go_loopw [8, 10, 11] (fun o' r' k' wr => ∃ (k : Nat) (od' : List Int) (hi' : Nat), k ≤ r.length ∧ od'.length ≤ 16 ∧ k' = .int .i64 k ∧ Hid (Order RR OO od' (midL RR OO i r k)) ∧ Hid (od'[i]? = some (tn : Int)) ∧ Hid (Rowing wr BB hi' p (bn : Int) (.slice na l1 nc) (.slice oa l2 oc) o' r' us ((R.take i).map (minRow Q R)) ((R.take i).map fun s => (outQ RR OO).getD s.toNat 0) od' (partR RR OO r k)) ∧ Hid (OwnI wr w.heap.size BB (.slice ca cls.length cc) cls) ∧ Hid (Cells3 wr xb 30 (.int .i64 (bn : Int)) (.slice a1 RR.length c1) (.slice a2 OO.length c2)) ∧ Hid (Below xb W1 wr)) (fun _ _ k' _ => r.length - (intOf k').toNat)
      case atStart => exact ⟨0, od, _, Nat.zero_le _, hod16, rfl, hOR0, HTO, hRG, hCV7, hXC7, hB7⟩
      case round =>
        clear hOR0 hRG hCV7 hXC7 hB7
        obtain ⟨k, od', hi', hkl, hod, rfl, hOR, hTN, hRG, hCV, hXC, hB⟩ := hrel
        obtain ⟨W8, rfl⟩ : ∃ W : World, W = wr := ⟨_, rfl⟩
        have hil' : i < od'.length := (List.getElem?_eq_some_iff.1 hTN.out).1
        obtain ⟨eq, es, ec', he8, hel⟩ := ints_at hRG.out.extra.has.lies (by omega)
        obtain ⟨ra, rc, hr10, _⟩ := hRG.out.row_.has.form
        rw [partR_len hkl] at hr10
        subst he8; subst hr10
        have HEL := Lib.hid hel
        have hBw : Below W1.heap.size W1 W8 := by rw [← HZX.out]; exact hB.out
        have HBW := Lib.hid hBw
        have x0 := hXC.out.c0
        have x1 := hXC.out.c1
        have x2 := hXC.out.c2
        clear hel hBw
        by_cases hlk : k < r.length
        case pos =>
          obtain ⟨y, hy⟩ : ∃ x, r[k]? = some x := ⟨_, List.getElem?_eq_getElem hlk⟩
          have hyb := HRB.out y (List.mem_of_getElem? hy)
          obtain ⟨yn, rfl⟩ : ∃ yn : Nat, y = (yn : Int) := ⟨y.toNat, by omega⟩
          have HY := Lib.hid hy
          have HYB := Lib.hid hyb
          obtain ⟨pa, off, hpa, q, t, c, o2', hcl⟩ := seq_row HX.out HRR.out hr0
          have o2 := old_cell HBW.out o2'
          have o3 := old_cell HBW.out (hcl k _ hy)
          have o1 := HEL.out i _ hTN.out
          rw [hpa] at x1
          have hkb : decide (k < bn) = true := decide_eq_true (by have := HRL.out; omega)
          have hkb2 : k < bn := by have := HRL.out; omega
          have hk0 : (0 : Int) ≤ (k : Int) := Int.natCast_nonneg _
          have hi00 : (0 : Int) ≤ (i : Int) := Int.natCast_nonneg _
          have ht0 : (0 : Int) ≤ (tn : Int) := Int.natCast_nonneg _
          have hkr : (k : Int) < (r.length : Int) := by omega
          have hio : (i : Int) < (od'.length : Int) := by omega
          have htR : (tn : Int) < (RR.length : Int) := by omega
          obtain ⟨cq, cs, cc', hcv, hcc⟩ := ints_at hCV.out.has.lies (by have := HCL.out; omega)
          injection hcv with f1 f2 f3
          subst f1
          have hyc : yn < cls.length := by have := HCL.out; omega
          obtain ⟨cy, hcy⟩ : ∃ z, cls[yn]? = some z := ⟨_, List.getElem?_eq_getElem hyc⟩
          have HCY : Hid (clsF RR OO (yn : Int) = cy) := by show _ = _; rw [clsF, Int.toNat_natCast, ← HCE.out, List.getD_eq_getElem?_getD, hcy]; rfl
          have HCYL := Lib.hid hcy
          have HCC := Lib.hid hcc
          clear hy hyb hpa hcl o2' hcc f2 f3 hcy
          go_wp2
          go_quiet (fail)
          have HD8 := Lib.hid (below_drewN (Below.refl W8.heap.size W8) nq)
          go_wp2_with fail
          obtain ⟨W9, hW9⟩ : ∃ W, W = W8.drewN nq := ⟨_, rfl⟩
          rw [← hW9] at HD8 ⊢
          clear hW9 o1 o2 o3 x0 x1 x2
          go_loopw [13, 14] (fun f' n' wr => ∃ (n : Nat) (f : Int), n ≤ od'.length ∧ n' = .int .i64 n ∧ f' = .int .i64 f ∧ Hid (FoundC (midL RR OO i r k) cy n f) ∧ Hid (Below W8.heap.size W8 wr)) (fun _ n' _ => od'.length - (intOf n').toNat)
          case atStart => exact ⟨0, -1, Nat.zero_le _, rfl, rfl, .inl ⟨rfl, fun j hj => by omega⟩, HD8⟩
          case round =>
            clear HD8
            obtain ⟨n, f, hnl, rfl, rfl, hF, hBx⟩ := hrel
            have hml : (midL RR OO i r k).length = od'.length := by rw [← hOR.out.1, List.length_map]
            have HML := Lib.hid hml
            clear hml
            by_cases hgo : n < od'.length ∧ f < 0
            case pos =>
              obtain ⟨hn2, hf⟩ := hgo
              have hdf := decide_eq_true hf
              obtain ⟨x, hx⟩ : ∃ x, od'[n]? = some x := ⟨_, List.getElem?_eq_getElem hn2⟩
              have hxb := hOR.out.2 x (List.mem_of_getElem? hx)
              obtain ⟨xn, rfl⟩ : ∃ xn : Nat, x = (xn : Int) := ⟨x.toNat, by omega⟩
              have hxc : xn < cls.length := by have := HCL.out; omega
              obtain ⟨cx, hcx⟩ : ∃ z, cls[xn]? = some z := ⟨_, List.getElem?_eq_getElem hxc⟩
              have HLN : Hid ((midL RR OO i r k)[n]? = some cx) := by
                show _ = _
                rw [← hOR.out.1, List.getElem?_map, hx, Option.map_some, clsF, Int.toNat_natCast, ← HCE.out, List.getD_eq_getElem?_getD, hcx]
                rfl
              have q1 := old_cell hBx.out (HEL.out n _ hx)
              have q2 := old_cell hBx.out (HCC.out xn _ hcx)
              have q3 := old_cell hBx.out (HCC.out yn _ HCYL.out)
              have hn0 : (0 : Int) ≤ (n : Int) := Int.natCast_nonneg _
              have hx0 : (0 : Int) ≤ (xn : Int) := Int.natCast_nonneg _
              have hy0 : (0 : Int) ≤ (yn : Int) := Int.natCast_nonneg _
              have hnd : (n : Int) < (od'.length : Int) := by omega
              have hxcl : (xn : Int) < (cls.length : Int) := by omega
              have hycl : (yn : Int) < (cls.length : Int) := by omega
              have HB4 := Lib.hid (fun m => below_drewN hBx.out m)
              have HFN := Lib.hid hf
              clear hx hxb hcx hf
              by_cases he : cx = cy
              · have hdx : (cx == cy) = true := by simpa using he
                have HFY : Hid (FoundC (midL RR OO i r k) cy (n + 1) (n : Int)) := foundC_yes (midL_nodup HA.out) (by rw [← he]; exact HLN.out)
                clear he
                go_wp2
                go_quiet (fail)
                go_wp2
                go_roundw
                case rel => exact ⟨n + 1, (n : Int), by omega, by go_num, rfl, HFY, HB4.out _⟩
                case measure => simp [intOf]; omega
              · have hdx : (cx == cy) = false := by simpa using he
                have HFY : Hid (FoundC (midL RR OO i r k) cy (n + 1) f) := foundC_no hF.out HFN.out HLN.out he
                clear he
                go_wp2
                go_quiet (fail)
                go_wp2
                go_roundw
                case rel => exact ⟨n + 1, f, by omega, by go_num, rfl, HFY, HB4.out _⟩
                case measure => simp [intOf]; omega
            case neg =>
              obtain ⟨W10, rfl⟩ : ∃ W : World, W = wr := ⟨_, rfl⟩
              have hfe := foundC_end hF.out (by have := HML.out; omega) (by have := HML.out; omega)
              have HRG10 := Lib.hid (hRG.out.below hBx.out)
              have HCV10 := Lib.hid (hCV.out.below hBx.out)
              have HXC10 := Lib.hid (hXC.out.below hBx.out)
              have HB10 : Hid (Below xb W1 W10) := hB.out.trans (hBx.out.mono (by have := hXC.out.lt; omega))
              have HPS := Lib.hid (partR_succ (rows := RR) (out := OO) HY.out)
              have HPL := Lib.hid (partR_len (rows := RR) (out := OO) hkl)
              have HLE := Lib.hid (show BB ≤ W10.heap.size from Nat.le_trans HRG10.out.lo HRG10.out.le)
              have HXB := Lib.hid (show xb ≤ BB by have := HNUM.out; omega)
              rcases hfe with ⟨hf1, hno⟩ | ⟨hf1, hyes, hfx⟩
              · have hnl2 : ¬ n < od'.length := fun h => hgo ⟨h, by omega⟩
                have hdf : decide (f < 0) = true := decide_eq_true (by omega)
                have hmn := mid_new HA.out HST.out HY.out (by rw [HCY.out]; exact hno) hOR.out HYB.out
                rw [HCY.out, ← HQ.out, ← HRE.out, HML.out] at hmn
                have HON := Lib.hid hmn.1
                have HPN : Hid (partR RR OO r (k + 1) = partR RR OO r k ++ [(od'.length : Int)]) := by
                  show _ = _
                  rw [HPS.out, HCY.out, ← HQ.out, ← HRE.out, hmn.2]
                have hod3 : od'.length + 1 ≤ 16 := by
                  have h1 := hmn.1.1
                  have h2 := congrArg List.length h1
                  rw [List.length_map, List.length_append] at h2
                  have h3 := midL_len (k := k + 1) HA.out HST.out
                  simp at h2
                  omega
                have HTN2 : Hid ((od' ++ [(yn : Int)])[i]? = some (tn : Int)) := by show _ = _; rw [List.getElem?_append_left hil']; exact hTN.out
                clear hgo hno hmn hf1
                go_wp2_with (first
                  | (at_builtin; refine wpList_append_list (enc := Value.int .i64) (e := 3) rfl (.tmp 80) (.tmp 82) 23 rfl BB i0 (.int .i64 0) 8 Try.underlying23 hi0 hz0 hz1 hz2 rfl (.slice (some ⟨eq, es, none⟩) od'.length ec') od' rfl (has_alloc HRG10.out.extra.has _) (.slice (some ⟨W10.heap.size, 0, none⟩) 1 1) [(yn : Int)] rfl (lies_lit1 (enc := Value.int .i64) _ rfl) (fun _ _ => rfl) (by simp only [List.length_cons, List.length_nil]; omega) (by simp only [List.length_cons, List.length_nil]; omega) (by have := HLE.out; simp; omega) ?_; intro v8 w8 hv8 hg8 hb8; obtain ⟨a8, c8, hvf, _⟩ := hv8.form; rw [show (od' ++ [(yn : Int)]).length = od'.length + 1 from by simp] at hvf; subst hvf; have hg8' := grown_alloc hg8; have HRG8 := Lib.hid (HRG10.out.more hv8 hg8' (fun k hk => (hb8 k hk).imp id (fun h => by simp at h; omega))); have HLE8 := Lib.hid (Nat.le_trans HLE.out hg8'.size))
                  | (at_builtin; refine wpList_append_list (enc := Value.int .i64) (e := 3) rfl (.tmp 84) (.tmp 86) 23 rfl BB i0 (.int .i64 0) 8 Try.underlying23 hi0 hz0 hz1 hz2 rfl (.slice ra k rc) (partR RR OO r k) rfl (has_alloc HRG8.out.row_.has _) (.slice (some ⟨w8.heap.size, 0, none⟩) 1 1) [(od'.length : Int)] rfl (lies_lit1 (enc := Value.int .i64) _ rfl) (fun _ _ => rfl) (by rw [HPL.out]; simp only [List.length_cons, List.length_nil]; omega) (by rw [HPL.out]; simp only [List.length_cons, List.length_nil]; omega) (by have := HLE8.out; simp; omega) ?_; intro v9 w9 hv9 hg9 hb9; have hg9' := grown_alloc hg9))
                have HRG9 := HRG8.out.grow hv9 hg9' (fun k hk => (hb9 k hk).imp id (fun h => by simp at h; omega))
                rw [← HPN.out] at HRG9
                have HR9 := Lib.hid HRG9
                have hp1 : ∀ k, (Value.slice (some ⟨eq, es, none⟩) od'.length ec').ownBlock = some k → k < w.heap.size ∨ BB ≤ k := fun k hk => .inr (HRG10.out.extra.has.lt k hk).1
                have hp2 : ∀ k, (Value.slice ra k rc).ownBlock = some k → True := fun _ _ => trivial
                have HCV9 := Lib.hid ((HCV10.out.grown hg8' hp1).grown hg9' (fun k hk => .inr (HRG8.out.row_.has.lt k hk).1))
                have HXC9 := Lib.hid ((HXC10.out.grown hg8' (has_ne_c3 HRG10.out.extra.has HXC10.out (by decide))).grown hg9' (has_ne_c3 HRG8.out.row_.has (HXC10.out.grown hg8' (has_ne_c3 HRG10.out.extra.has HXC10.out (by decide))) (by decide)))
                have HB9 : Hid (Below xb W1 w9) := (HB10.out.grown hg8' (Nat.le_trans HXB.out HLE.out) (fun k hk => Nat.le_trans HXB.out (HRG10.out.extra.has.lt k hk).1)).grown hg9' (Nat.le_trans HXB.out HLE8.out) (fun k hk => Nat.le_trans HXB.out (HRG8.out.row_.has.lt k hk).1)
                clear hv8 hg8 hb8 hg8' hv9 hg9 hb9 hg9' HRG9 HRG8 HRG10 HCV10 HXC10 HB10 hp1 hp2
                go_wp2
                go_roundw
                case rel => exact ⟨k + 1, od' ++ [(yn : Int)], w9.heap.size, by omega, by simp; omega, by go_num, HON, HTN2, HR9, HCV9, HXC9, HB9⟩
                case measure => simp [intOf]; omega
              · have hdf : decide (f < 0) = false := decide_eq_false (by omega)
                have hmo := mid_old HA.out HST.out HY.out (by rw [HCY.out]; exact hyes)
                rw [HCY.out, ← HQ.out, ← HRE.out] at hmo
                have HON : Hid (Order RR OO od' (midL RR OO i r (k + 1))) := by rw [hmo.1]; exact hOR.out
                have HPN : Hid (partR RR OO r (k + 1) = partR RR OO r k ++ [f]) := by
                  show _ = _
                  rw [HPS.out, HCY.out, ← HQ.out, ← HRE.out, hmo.2, hfx]
                clear hgo hyes hfx hmo hf1
                by_cases hnl2 : n < od'.length
                all_goals
                  go_wp2_with (at_builtin; refine wpList_append_list (enc := Value.int .i64) (e := 3) rfl (.tmp 84) (.tmp 86) 23 rfl BB i0 (.int .i64 0) 8 Try.underlying23 hi0 hz0 hz1 hz2 rfl (.slice ra k rc) (partR RR OO r k) rfl (has_alloc HRG10.out.row_.has _) (.slice (some ⟨W10.heap.size, 0, none⟩) 1 1) [f] rfl (lies_lit1 (enc := Value.int .i64) _ rfl) (fun _ _ => rfl) (by rw [HPL.out]; simp only [List.length_cons, List.length_nil]; omega) (by rw [HPL.out]; simp only [List.length_cons, List.length_nil]; omega) (by have := HLE.out; simp; omega) ?_; intro v9 w9 hv9 hg9 hb9; have hg9' := grown_alloc hg9)
                  have HRG9 := HRG10.out.grow hv9 hg9' (fun k hk => (hb9 k hk).imp id (fun h => by simp at h; omega))
                  rw [← HPN.out] at HRG9
                  have HR9 := Lib.hid HRG9
                  have HCV9 := Lib.hid (HCV10.out.grown hg9' (fun k hk => .inr (HRG10.out.row_.has.lt k hk).1))
                  have HXC9 := Lib.hid (HXC10.out.grown hg9' (has_ne_c3 HRG10.out.row_.has HXC10.out (by decide)))
                  have HB9 : Hid (Below xb W1 w9) := HB10.out.grown hg9' (Nat.le_trans HXB.out HLE.out) (fun k hk => Nat.le_trans HXB.out (HRG10.out.row_.has.lt k hk).1)
                  clear hv9 hg9 hb9 hg9' HRG9 HRG10 HCV10 HXC10 HB10
                  go_wp2
                  go_roundw
                  case rel => exact ⟨k + 1, od', w9.heap.size, by omega, hod, by go_num, HON, hTN, HR9, HCV9, HXC9, HB9⟩
                  case measure => simp [intOf]; omega
        case neg =>
          obtain rfl : k = r.length := by omega
          have hkd : decide (r.length < bn) = false := decide_eq_false (by have := HRL.out; omega)
          have HON : Hid (Order RR OO od' (reachI Q (i + 1))) := by
            have h1 := hOR.out
            rw [midL_end HST.out, ← HQ.out] at h1
            exact h1
          have HPE : Hid (partR RR OO r r.length = minRow Q R (clsF RR OO tn)) := by
            show _ = _
            rw [HQ.out, HRE.out, HQ.out]
            exact partR_end (by rw [← HQ.out]; exact HROW.out)
          have HLT := Lib.hid (take_map_snoc (minRow Q R) HRI.out)
          have HLO := Lib.hid (take_map_snoc (fun s : Int => (outQ RR OO).getD s.toNat 0) HRI.out)
          have hRG8 := hRG.out
          rw [HPE.out] at hRG8
          have HRG8 := Lib.hid hRG8
          have d1 := HRG8.out.cells.c1
          have d2 := (HRG8.out.cells.alloc (.cells #[Value.slice ra r.length rc] 23)).c1
          have hpl := HRG8.out.cells.lt
          have HNP := Lib.hid (has_ne_c3 HRG8.out.top HRG8.out.cells (by decide))
          have HNC := Lib.hid (has_ne_c3 HRG8.out.top hXC.out (by decide))
          have HLO8 := Lib.hid (show BB ≤ W8.heap.size from Nat.le_trans HRG8.out.lo HRG8.out.le)
          clear hRG hRG8 hOR hlk hkl x1 x2
          go_wp2_with (at_builtin; refine wpList_append_list (enc := id) (e := 23) rfl (.tmp 89) (.tmp 91) 22 rfl BB i2 (.slice none 0 0) 24 Try.underlying22 hi2 hz20 hz21 hz22 rfl (.slice na l1 nc) us rfl (has_alloc HRG8.out.top _) (.slice (some ⟨W8.heap.size, 0, none⟩) 1 1) [.slice ra r.length rc] rfl (lies_lit1v _ rfl) (fun y hy => by simp at hy; subst hy; rfl) (by rw [HUSL.out]; simp; omega) (by rw [HUSL.out]; simp; omega) (by have := HLO8.out; simp; omega) ?_; intro v' w2 hv' hg2 _; obtain ⟨a3, c3, hvf, _⟩ := hv'.form; rw [show (us ++ [Value.slice ra r.length rc]).length = l1 + 1 from by rw [List.length_append, HUSL.out]; rfl] at hvf; subst hvf; have hg3 := grown_alloc hg2; have hc2 := HRG8.out.cells.grown hg3 HNP.out; have d3 := hc2.c1; have df := hc2.f)
          obtain ⟨l3, hl3⟩ : ∃ l, l = l1 + 1 := ⟨_, rfl⟩
          rw [← hl3] at hv' ⊢
          have HM5 := Lib.hid (HRG8.out.done hv' hg3)
          have HG5 : Hid (BB ≤ w2.heap.size) := Nat.le_trans HLO8.out hg3.size
          have hne1 : (p : Nat) ≠ xb := by have := HNUM.out; omega
          have hne2 : xb ≤ p := by have := HNUM.out; omega
          have hne3 : xb ≤ BB := by have := HNUM.out; omega
          have HC5 := Lib.hid ((hXC.out.grown hg3 HNC.out).other (a := ⟨p, 1, none⟩) hne1 (.slice a3 l3 c3))
          have HB5 : Hid (Below xb W1 (w2.setCell ⟨p, 1, none⟩ (.slice a3 l3 c3))) := (hB.out.grown hg3 (Nat.le_trans hne3 HLO8.out) (fun k hk => Nat.le_trans hne3 (HRG8.out.top.lt k hk).1)).setCell hne2 _
          have hcv5 := hCV.out.grown hg3 (fun k hk => .inr (HRG8.out.top.lt k hk).1)
          have HCV5 : Hid (OwnI (w2.setCell ⟨p, 1, none⟩ (.slice a3 l3 c3)) w.heap.size BB (.slice ca cls.length cc) cls) :=
            hcv5.set (a := ⟨p, 1, none⟩) (has_ne_c3 hcv5.has hc2 (by decide)) _
          have HG6 : Hid (BB ≤ (w2.setCell ⟨p, 1, none⟩ (.slice a3 l3 c3)).heap.size) := by show _ ≤ _; rw [size_setCell']; exact HG5.out
          obtain ⟨W5, hW5⟩ : ∃ W, W = w2.setCell ⟨p, 1, none⟩ (.slice a3 l3 c3) := ⟨_, rfl⟩
          rw [← hW5] at HM5 HC5 HB5 HCV5 HG6 ⊢
          have HW5 := Lib.hid (show w2.heap.size = W5.heap.size by rw [hW5, size_setCell'])
          rw [HW5.out] at HM5
          clear hcv5 hv' hg2 hg3 hc2 d1 d2 d3 df hpl HRG8 hXC hB hCV hW5 hl3 HNP HNC HLO8 HG5 x0 HEL HBW
          have HVO := Lib.hid HM5.out.terms
          have HOLN : Hid ((((R.take i).map fun s => (outQ RR OO).getD s.toNat 0)).length = l2) := HL2.out.symm
          obtain ⟨eq2, es2, ec2, he2, hel2⟩ := ints_at HM5.out.extra.has.lies (by omega)
          obtain ⟨rfl, rfl, rfl⟩ : eq = eq2 ∧ es = es2 ∧ ec' = ec2 := by
            injection he2 with h1 h2 h3
            injection h1 with h1
            injection h1 with h1 h2
            exact ⟨h1, h2, h3⟩
          have o1 := hel2 i _ hTN.out
          obtain ⟨po, oo, hpo, ho1⟩ : ∃ po oo, a2 = some ⟨po, oo, none⟩ ∧ W1.cell? ⟨po, oo + tn, none⟩ = some (.int .i64 o) := by
            obtain ⟨q', s', h1, h2⟩ := HX.out.cells.2 tn o HOO.out
            exact ⟨q', s', h1, h2⟩
          have HBW5 : Hid (Below W1.heap.size W1 W5) := by show Below _ _ _; rw [← HZX.out]; exact HB5.out
          have x2 := HC5.out.c2
          rw [hpo] at x2
          have o2 := old_cell HBW5.out ho1
          have c4 := HM5.out.cells.c2
          have c5 := (HM5.out.cells.alloc (.cells #[Value.int .i64 o] 3)).c2
          have hpl := HM5.out.cells.lt
          have hi00 : (0 : Int) ≤ (i : Int) := Int.natCast_nonneg _
          have ht0 : (0 : Int) ≤ (tn : Int) := Int.natCast_nonneg _
          have hio : (i : Int) < (od'.length : Int) := by omega
          have htO : (tn : Int) < (OO.length : Int) := by have := HOL.out; omega
          have HNO := Lib.hid (has_ne_c3 HVO.out.has HM5.out.cells (by decide))
          have HNC := Lib.hid (has_ne_c3 HVO.out.has HC5.out (by decide))
          clear hel2 he2 hpo ho1
          go_region_law ((refine step_append_at_list (enc := Value.int .i64) (e := 3) rfl (.tmp 95) (.tmp 104) 23 rfl BB i0 (.int .i64 0) 8 Try.underlying23 hi0 hz0 hz1 hz2 rfl (.slice oa l2 oc) ((R.take i).map fun s => (outQ RR OO).getD s.toNat 0) rfl (by repeat (first | with_reducible exact HVO.out.has | with_reducible apply has_drew | with_reducible apply has_alloc)) (Value.slice (some ⟨_, 0, none⟩) 1 1) [o] rfl (by repeat (first | with_reducible apply lies_drew | (with_reducible refine lies_lit1 (enc := Value.int .i64) _ rfl) | with_reducible apply lies_alloc)) (fun _ _ => rfl) (by rw [HOLN.out]; simp; omega) (by rw [HOLN.out]; simp; omega) (by have := HG6.out; simp; omega) ?_; intro vt w6 ho6 hg6 hb6; obtain ⟨a6, c6, hvf, _⟩ := ho6.form; rw [show (((R.take i).map fun s => (outQ RR OO).getD s.toNat 0) ++ [o]).length = l2 + 1 from by rw [List.length_append, HOLN.out]; rfl] at hvf; subst hvf; refine with_fact (T := W5.grownBy w6 (Value.slice oa l2 oc).ownBlock) ?_ ?_; (focus (exact grown_alloc (grown_drew hg6))); intro hg7; have hc7 := HM5.out.cells.grown hg7 HNO.out; have r1 := hc7.c2; have r3 := hc7.f))
          all_goals
            have hm7 := HM5.out.term ho6 hg7 (fun k hk => (hb6 k hk).imp id (fun h => by simp at h; omega))
            rw [← HLT.out] at hm7
            have HM8 : Hid (Making (w6.setCell ⟨p, 2, none⟩ (.slice a6 (l2 + 1) c6)) BB w6.heap.size p (bn : Int) (.slice a3 l3 c3) (.slice a6 (l2 + 1) c6) (.slice (some ⟨eq, es, none⟩) od'.length ec') (us ++ [.slice ra r.length rc]) ((R.take (i + 1)).map (minRow Q R)) ((R.take (i + 1)).map fun s => (outQ RR OO).getD s.toNat 0) od') := by
              have h1 := hm7
              rw [← HOQ.out, ← HLO.out] at h1
              exact h1
            have HC7 := Lib.hid ((HC5.out.grown hg7 HNC.out).other (a := ⟨p, 2, none⟩) hne1 (.slice a6 (l2 + 1) c6))
            have HB7 : Hid (Below xb W1 (w6.setCell ⟨p, 2, none⟩ (.slice a6 (l2 + 1) c6))) := (HB5.out.grown hg7 (Nat.le_trans hne3 HG6.out) (fun k hk => Nat.le_trans hne3 (HVO.out.has.lt k hk).1)).setCell hne2 _
            have hcv7 := HCV5.out.grown hg7 (fun k hk => .inr (HVO.out.has.lt k hk).1)
            have HCV7 : Hid (OwnI (w6.setCell ⟨p, 2, none⟩ (.slice a6 (l2 + 1) c6)) w.heap.size BB (.slice ca cls.length cc) cls) :=
              hcv7.set (a := ⟨p, 2, none⟩) (has_ne_c3 hcv7.has hc7 (by decide)) _
            clear ho6 hb6 hg6 hg7 hc7 r1 r3 c4 c5 o1 o2 x2 hpl HM5 HVO HNO HNC hm7 hcv7
            go_wp2
            go_roundw
            case rel => exact ⟨i + 1, od', _, _, _, w6.heap.size, by omega, hod, by go_num, HON, HM8, HCV7, HC7, HB7⟩
            case measure => simp [intOf]; omega
set_option maxHeartbeats 1000000 in
theorem spec_min (v : Value) (b : Int) (rows : List (List Int)) (out : List Int) (w : World) (h : LiesS w v b rows out) (hs : rows.length + tot rows + out.length ≤ 1048576) :
    Calls Try.prog 19 #[v] w (GivesK (formB b rows out) (minRV b rows out) (minOV b rows out) (formK b rows out) w) := by
  cases hk : formK b rows out with
  | false =>
    have hk' : ¬ formK b rows out = true := by rw [hk]; simp
    rw [minRV, if_neg hk', minOV, if_neg hk', formB, if_neg hk']
    exact spec_min_no v b rows out w h hs hk
  | true =>
    rw [minRV, if_pos hk, minOV, if_pos hk]
    exact spec_min_yes v b rows out w h hs hk
end Mins
end Go.Proofs.Ytgbgcaaekpgapac
/- Contracts of IsMinimal and AreSameTerms, program and model: by the minimal forms. Conditions: the arguments' sizes, as each states. -/
namespace Go.Proofs.Ytgbgcaaekpgapac
open Go.ChangeShapes Go.WideShapes Go.ChangeAt Go.RowKit
open Go.PlainAid Plain
set_option linter.unusedVariables false
namespace Mins
open Seqs
def isMinB (b : Int) (rows : List (List Int)) (out : List Int) : Bool := formK b rows out && ((minRV b rows out).length : Int) == (rows.length : Int)
def sameT (b b' : Int) (rows rows' : List (List Int)) (out out' : List Int) : Bool :=
  (formK b rows out && formK b' rows' out') && sameB (formB b rows out) (formB b' rows' out') (minRV b rows out) (minRV b' rows' out') (minOV b rows out) (minOV b' rows' out')
end Mins
end Go.Proofs.Ytgbgcaaekpgapac
/- Writes into slices that are the call's own. No conditions beyond those that each fact states. -/
namespace Go.Proofs.Ytgbgcaaekpgapac.Plain
open Go.RowKit
set_option linter.unusedVariables false
/-- A term is written into an own slice. -/
theorem OwnI.write {w : World} {lo hi g n cap : Nat} {xs : List Int} (h : OwnI w lo hi (.slice (some ⟨g, 0, none⟩) n cap) xs) (j : Nat) (x : Int) : OwnI (w.setCell ⟨g, j, none⟩ (.int .i64 x)) lo hi (.slice (some ⟨g, 0, none⟩) n cap) (xs.set j x) := by
  have h0 : w.ownsRow lo 3 1 (.slice (some ⟨g, 0, none⟩) n cap) xs.length (xs.map (Value.int .i64)) := h.has
  obtain ⟨a, c, hf, _⟩ := h.has.form
  injection hf with _ h2 _
  subst h2
  have h1 := (h0.stored j (.int .i64 x)).1
  refine ⟨?_, h.lt, by rw [size_setCell']; exact h.le⟩
  show World.ownsRow _ _ _ _ _ _ _
  rw [List.length_set, List.map_set]
  exact h1
theorem OwnRows.write {w : World} {lo hi i g n cap : Nat} {us : List Value} {rows : List (List Int)} {r : List Int} (h : OwnRows w lo hi us rows) (hu : us[i]? = some (.slice (some ⟨g, 0, none⟩) n cap)) (hr : rows[i]? = some r) (j : Nat) (x : Int) :
    OwnRows (w.setCell ⟨g, j, none⟩ (.int .i64 x)) lo hi us (rows.set i (r.set j x)) := by
  refine ⟨by rw [List.length_set]; exact h.len, fun k u r' a b => ?_, h.apart⟩
  by_cases hk : i = k
  · subst hk
    rw [hu] at a
    injection a with a
    subst a
    rw [List.getElem?_set_self (List.getElem?_eq_some_iff.1 hr).1] at b
    injection b with b
    subst b
    exact (h.row i _ r hu hr).write j x
  · rw [List.getElem?_set_ne hk] at b
    refine (h.row k u r' a b).set (a := ⟨g, j, none⟩) ?_ _
    intro e
    rcases h.apart i k _ u hu a hk with h1 | h1
    · cases h1
    · exact h1 e.symm
theorem Building.write {w : World} {base hi p i g n cap : Nat} {b : Int} {vn vo : Value} {us : List Value} {rows : List (List Int)} {out r : List Int} (h : Building w base hi p b vn vo us rows out) (hu : us[i]? = some (.slice (some ⟨g, 0, none⟩) n cap)) (hr : rows[i]? = some r) (j : Nat) (x : Int) :
    Building (w.setCell ⟨g, j, none⟩ (.int .i64 x)) base hi p b vn vo us (rows.set i (r.set j x)) out := by
  have hI : OwnI w base hi (.slice (some ⟨g, 0, none⟩) n cap) r := h.rows.row (i + 1) _ r hu hr
  have h1 := h.rows.write (i := i + 1) hu hr j x
  have h2 : vn.ownBlock ≠ some g := by
    rcases h.top.ne_top hI.has with e | e
    · rw [e]; simp
    · exact e
  have h3 : g ≠ p := fun e => has_ne_c3 hI.has h.cells (by decide) (by rw [← e]; rfl)
  exact ⟨h.top.set (a := ⟨g, j, none⟩) h2 _, h1, h.cells.other (a := ⟨g, j, none⟩) h3 _, h.lo, by rw [size_setCell']; exact h.le⟩
/-- The sequence whose first row's or slice of terms' cell j is written. -/
theorem OwnS.parts_own {w : World} {lo hi : Nat} {v : Value} {b : Int} {rows : List (List Int)} {out : List Int} (h : OwnS w lo hi v b rows out) :
    ∃ an cn ao co us, v = .agg #[.int .i64 b, .slice an rows.length cn, .slice ao out.length co] ∧ OwnR w lo hi (.slice an rows.length cn) us rows ∧ OwnRows w lo hi (us ++ [.slice ao out.length co]) (rows ++ [out]) := by
  obtain ⟨vn, vo, us, rfl, h1, h2⟩ := h
  obtain ⟨an, cn, hn, _⟩ := h1.top.form
  obtain ⟨ao, co, ho⟩ := h2.last.form
  rw [h1.rows.len] at hn
  subst hn; subst ho
  exact ⟨an, cn, ao, co, us, rfl, h1, h2⟩
theorem own_at {w : World} {base : Nat} {v : Value} {xs : List Int} (h : Has (Value.int .i64) 3 w base v xs) (hp : 0 < xs.length) : ∃ g c, v = .slice (some ⟨g, 0, none⟩) xs.length c ∧ base ≤ g ∧ g < w.heap.size := by
  obtain ⟨a, c, rfl, hg⟩ := h.form
  obtain ⟨g, rfl⟩ := hg hp
  exact ⟨g, c, rfl, (h.lt g rfl).1, (h.lt g rfl).2⟩
theorem own_outj {w : World} {lo hi : Nat} {vn : Value} {ao : Option Addr} {co : Nat} {b : Int} {rows : List (List Int)} {out : List Int} (h : OwnS w lo hi (.agg #[.int .i64 b, vn, .slice ao out.length co]) b rows out) (j : Nat) (h0 : j < out.length) :
    ∃ g, ao = some ⟨g, 0, none⟩ ∧ lo ≤ g ∧ g < hi ∧ w.frozen? ⟨g, j, none⟩ = false ∧ (∃ y, w.cell? ⟨g, j, none⟩ = some y) ∧ ∀ x : Int, OwnS (w.setCell ⟨g, j, none⟩ (.int .i64 x)) lo hi (.agg #[.int .i64 b, vn, .slice ao out.length co]) b rows (out.set j x) := by
  obtain ⟨vn', vo', us, hv, hr, ho⟩ := h
  simp at hv
  obtain ⟨rfl, rfl⟩ := hv
  have hI := ho.last
  obtain ⟨g, c, hg, hl, _⟩ := own_at hI.has (show 0 < out.length by omega)
  injection hg with h1 _ h3
  subst h1; subst h3
  have hO : w.ownsRow lo 3 1 (.slice (some ⟨g, 0, none⟩) out.length co) out.length (out.map (Value.int .i64)) := hI.has
  refine ⟨g, rfl, hl, hI.lt g rfl, hO.frozenAt j, ?_, fun x => ?_⟩
  · have y3 := hO.cellAt j (by omega)
    rw [List.getElem?_map, List.getElem?_eq_getElem h0, Option.map_some] at y3
    exact ⟨_, y3⟩
  · have hu : (us ++ [Value.slice (some ⟨g, 0, none⟩) out.length co])[us.length]? = some (.slice (some ⟨g, 0, none⟩) out.length co) := by simp
    have hq : (rows ++ [out])[us.length]? = some out := by rw [hr.rows.len]; simp
    have h2 := ho.write hu hq j x
    rw [hr.rows.len, List.set_append_right _ _ (Nat.le_refl _), Nat.sub_self, List.set_cons_zero] at h2
    have ht : vn.ownBlock ≠ some g := by
      rcases hr.top.ne_top hI.has with e | e
      · rw [e]; simp
      · exact e
    have hne : ∀ u ∈ us, u.ownBlock ≠ some g := fun u hu e => by
      obtain ⟨i, hi'⟩ := List.getElem?_of_mem hu
      have hlt := (List.getElem?_eq_some_iff.1 hi').1
      rcases ho.apart i us.length u (.slice (some ⟨g, 0, none⟩) out.length co) (by rw [List.getElem?_append_left hlt]; exact hi') (by simp) (by omega) with e' | e'
      · rw [e] at e'; cases e'
      · exact e' e
    exact ⟨vn, _, us, rfl, ⟨hr.top.set (a := ⟨g, j, none⟩) ht _, hr.lt, by rw [size_setCell']; exact hr.le, hr.rows.set (a := ⟨g, j, none⟩) hne _⟩, h2⟩
theorem own_wide {w : World} {lo hi hi' : Nat} {v : Value} {b : Int} {rows : List (List Int)} {out : List Int} (h : OwnS w lo hi v b rows out) (h1 : hi ≤ hi') (h2 : hi' ≤ w.heap.size) : OwnS w lo hi' v b rows out := by
  obtain ⟨vn, vo, us, rfl, hr, ho⟩ := h
  exact ⟨vn, vo, us, rfl, ⟨hr.top, fun k hk => Nat.lt_of_lt_of_le (hr.lt k hk) h1, h2, hr.rows.mono h1 h2⟩, ho.mono h1 h2⟩
end Go.Proofs.Ytgbgcaaekpgapac.Plain
/- Contracts of SubTerms, of the program and of the model. No conditions beyond those that each states. -/
namespace Go.Proofs.Ytgbgcaaekpgapac
open Go.ChangeShapes Go.WideShapes Go.ChangeAt Go.RowKit
open Go.PlainAid Plain
set_option linter.unusedVariables false
namespace Kern
open Seqs Mins
theorem old_cellC {w w' : World} {p o : Nat} {u : Value} (hb : Below w.heap.size w w') (h : w.cell? ⟨p, o, none⟩ = some u) : w'.cell? ⟨p, o, none⟩ = some u := (hb.cell (p := ⟨p, o, none⟩) (World.block_lt_of_cell? w _ h)).trans h
/-- What the cells of a sequence that lies say of one step. -/
theorem step_cells {w : World} {b : Int} {rows : List (List Int)} {out : List Int} {an ao : Option Addr} {cn co : Nat} (h : LiesS w (.agg #[.int .i64 b, .slice an rows.length cn, .slice ao out.length co]) b rows out) (hv : IsSeq b rows out) {x : Nat} (hx : x < rows.length) {d : Nat} (hd : (d : Int) < b) :
    ∃ p o q t c n, an = some ⟨p, o, none⟩ ∧ w.cell? ⟨p, o + x, none⟩ = some (.slice (some ⟨q, t, none⟩) n c) ∧ d < n ∧ w.cell? ⟨q, t + d, none⟩ = some (.int .i64 (nextS rows x d)) := by
  obtain ⟨r, hr⟩ : ∃ r, rows[x]? = some r := ⟨_, List.getElem?_eq_getElem hx⟩
  have hl := (hv.2.2.2.2.2.1 r (List.mem_of_getElem? hr)).1
  obtain ⟨p, o, a', ca', rfl, hu, hc⟩ := h.cells.1 x r hr
  obtain ⟨y, hy⟩ : ∃ y, r[d]? = some y := ⟨_, List.getElem?_eq_getElem (by omega)⟩
  obtain ⟨q, t, rfl, hcy⟩ := hc d y hy
  refine ⟨p, o, q, t, ca', r.length, rfl, hu, by omega, ?_⟩
  rw [hcy]
  have e : nextS rows (x : Int) (d : Int) = y := by
    unfold nextS
    rw [Int.toNat_natCast, Int.toNat_natCast, List.getD_eq_getElem?_getD (l := rows), hr, Option.getD_some, List.getD_eq_getElem?_getD, hy]
    rfl
  rw [e]
def subX (R : List (List Int)) (O : List Int) (r : Int) (i : Nat) : Int := O.getD (nextS R i r).toNat 0
def subP (R : List (List Int)) (O : List Int) (r : Int) (i : Nat) : List Int := (List.range i).map (subX R O r)
def subT (R : List (List Int)) (O : List Int) (r : Int) : List Int := subP R O r R.length
def subOK (b : Int) (rows : List (List Int)) (out : List Int) (r : Int) : Bool := formK b rows out && decide (0 ≤ r ∧ r < b)
def subE (b : Int) (rows : List (List Int)) (out : List Int) (r : Int) : List Int := subT (formR b rows out) (formO b rows out) r
def subK (b : Int) (rows : List (List Int)) (out : List Int) (r : Int) : Bool := subOK b rows out r && formK (formB b rows out) (formR b rows out) (subE b rows out r)
def subB (b : Int) (rows : List (List Int)) (out : List Int) (r : Int) : Int := if subOK b rows out r = true then formB (formB b rows out) (formR b rows out) (subE b rows out r) else 0
def subR (b : Int) (rows : List (List Int)) (out : List Int) (r : Int) : List (List Int) := if subOK b rows out r = true then minRV (formB b rows out) (formR b rows out) (subE b rows out r) else []
def subO (b : Int) (rows : List (List Int)) (out : List Int) (r : Int) : List Int := if subOK b rows out r = true then minOV (formB b rows out) (formR b rows out) (subE b rows out r) else []
theorem sub_no {b : Int} {rows : List (List Int)} {out : List Int} {r : Int} (h : subOK b rows out r = false) : subB b rows out r = 0 ∧ subR b rows out r = [] ∧ subO b rows out r = [] ∧ subK b rows out r = false := by
  unfold subB subR subO subK
  rw [h]
  simp
theorem sub_yes {b : Int} {rows : List (List Int)} {out : List Int} {r : Int} (h : subOK b rows out r = true) : subB b rows out r = formB (formB b rows out) (formR b rows out) (subE b rows out r) ∧ subR b rows out r = minRV (formB b rows out) (formR b rows out) (subE b rows out r) ∧ subO b rows out r = minOV (formB b rows out) (formR b rows out) (subE b rows out r) ∧ subK b rows out r = formK (formB b rows out) (formR b rows out) (subE b rows out r) := by
  unfold subB subR subO subK
  rw [h]
  simp
theorem sub_parts {b : Int} {rows : List (List Int)} {out : List Int} {r : Int} (h : subOK b rows out r = true) : formK b rows out = true ∧ 0 ≤ r ∧ r < b := by
  rw [subOK, Bool.and_eq_true, decide_eq_true_eq] at h
  exact h
theorem sub_out {b : Int} {rows : List (List Int)} {out : List Int} {r : Int} (h : subOK b rows out r = false) : formK b rows out = false ∨ (formK b rows out = true ∧ r < 0) ∨ (formK b rows out = true ∧ ¬ r < 0 ∧ b ≤ r) := by
  cases hk : formK b rows out with
  | false => exact .inl rfl
  | true =>
    rw [subOK, hk, Bool.true_and, decide_eq_false_iff_not] at h
    by_cases h0 : r < 0
    · exact .inr (.inl ⟨rfl, h0⟩)
    · exact .inr (.inr ⟨rfl, h0, by omega⟩)
theorem subP_len (R : List (List Int)) (O : List Int) (r : Int) (i : Nat) : (subP R O r i).length = i := by simp [subP]
theorem subP_succ (R : List (List Int)) (O : List Int) (r : Int) (i : Nat) : subP R O r (i + 1) = subP R O r i ++ [subX R O r i] := by simp [subP, List.range_succ]
theorem sub_size (b : Int) (rows : List (List Int)) (out : List Int) (r : Int) : tot (subR b rows out r) + (subO b rows out r).length ≤ 1000 := by
  unfold subR subO
  split
  · exact min_size
  · simp [tot]
theorem subP_set (R : List (List Int)) (O : List Int) (r : Int) (i n : Nat) (L : List Int) (hL : L.length = n) (h : i < n) : ((subP R O r i ++ L.drop i).map (Value.int .i64)).set i (.int .i64 (subX R O r i)) = (subP R O r (i + 1) ++ L.drop (i + 1)).map (Value.int .i64) := by
  rw [← List.map_set, List.set_append_right _ _ (by rw [subP_len]; omega), subP_len, Nat.sub_self, List.drop_eq_getElem_cons (by omega), List.set_cons_zero, subP_succ, List.append_assoc]
  rfl
theorem lies_of_parts {w : World} {b : Int} {rows : List (List Int)} {out ts : List Int} {vn vo vt : Value} (h : LiesS w (.agg #[.int .i64 b, vn, vo]) b rows out) (ht : Lies (Value.int .i64) w vt ts) : LiesS w (.agg #[.int .i64 b, vn, vt]) b rows ts := by
  obtain ⟨vn', vo', hv, h1, h2⟩ := h
  simp at hv
  obtain ⟨rfl, rfl⟩ := hv
  exact ⟨_, _, rfl, h1, ht⟩
set_option maxRecDepth 100000 in
set_option maxHeartbeats 2000000 in
theorem impl_sub_no (v : Value) (b : Int) (rows : List (List Int)) (out : List Int) (w : World) (h : LiesS w v b rows out) (r : Int) (hs : rows.length + tot rows + out.length ≤ 1048576) (hno : subOK b rows out r = false) :
    Calls Try.prog 36 #[v, .int .i64 r] w (GivesK 0 [] [] false w) := by
  have HS := Lib.hid h
  obtain ⟨an, cn, ao, co, rfl⟩ := h.form
  clear h
  have HB : Hid (Below w.heap.size w (w.alloc (Obj.cells #[Value.int .i64 b, Value.slice an rows.length cn, Value.slice ao out.length co] 30))) := (Below.refl _ _).alloc (Nat.le_refl _) _
  have HC := Lib.hid (Cells3.new w 30 (.int .i64 b) (.slice an rows.length cn) (.slice ao out.length co))
  have HB1 := Lib.hid (HB.out.alloc (by simp only [size_alloc'] <;> omega) (Obj.cells #[Value.int .i64 0, Value.slice none 0 0, Value.slice none 0 0] 30))
  have HC1 := Lib.hid (HC.out.alloc (Obj.cells #[Value.int .i64 0, Value.slice none 0 0, Value.slice none 0 0] 30))
  have hZ := Cells3.new (w.alloc (Obj.cells #[Value.int .i64 b, Value.slice an rows.length cn, Value.slice ao out.length co] 30)) 30 (.int .i64 0) (.slice none 0 0) (.slice none 0 0)
  rw [size_alloc'] at hZ
  have HZ1 := Lib.hid hZ
  have HSZ := Lib.hid hs
  clear hZ HB HC hs
  have k0 := HC1.out.c0
  have k1 := HC1.out.c1
  have k2 := HC1.out.c2
  have HCF := Lib.hid (fun (W : World) (hW : Below w.heap.size w W) => impl_form _ b rows out W (HS.out.below hW) HSZ.out)
  obtain ⟨B, hBB⟩ : ∃ B, B = formB b rows out := ⟨_, rfl⟩
  obtain ⟨RR, hRR⟩ : ∃ R, R = formR b rows out := ⟨_, rfl⟩
  obtain ⟨OO, hOO⟩ : ∃ O, O = formO b rows out := ⟨_, rfl⟩
  rw [← hBB, ← hRR, ← hOO] at HCF
  clear hBB hRR hOO
  rcases sub_out hno with hk | ⟨hk, h0⟩ | ⟨hk, h0, h1⟩
  · rw [hk] at HCF
    clear hno hk
    go_enter Try.func36, Try.ntmps36
    go_wp2_with fail
    refine (HCF.out _ HB1.out).mono ?_
    rintro e W1 ⟨v1, rfl, hv1, b1⟩
    obtain ⟨a1, c1, a2, c2, rfl⟩ := hv1.form
    have hbx : Below W1.heap.size W1 (W1.alloc (.cells #[.int .i64 B, .slice a1 RR.length c1, .slice a2 OO.length c2] 30)) := (Below.refl _ _).alloc (Nat.le_refl _) _
    have HB2 := Lib.hid (HB1.out.trans (b1.mono HB1.out.size))
    have HB3 := Lib.hid (HB2.out.trans (hbx.mono HB2.out.size))
    have HC3 := Lib.hid ((HC1.out.below b1).below hbx)
    have HZ3 := Lib.hid ((HZ1.out.below b1).below hbx)
    have HX3 := Lib.hid (Cells3.new W1 30 (.int .i64 B) (.slice a1 RR.length c1) (.slice a2 OO.length c2))
    have HL3 := Lib.hid (hv1.lies.below hbx)
    have HN3 := Lib.hid (show w.heap.size + 1 < W1.heap.size from (HZ1.out.below b1).lt)
    clear hv1 b1 k0 k1 k2 HB1 HC1 HZ1 HB2 hbx
    have HZR := HZ3
    have HBR := HB3
    have k0 := HC3.out.c0
    obtain ⟨z0, z1, z2⟩ := (⟨HZR.out.c0, HZR.out.c1, HZR.out.c2⟩ : _ ∧ _ ∧ _)
    have z3 := HZR.out.f
    go_wp2
    have hZ3 := (((HZR.out.set0 (.int .i64 0)).set1 (.slice none 0 0)).set2 (.slice none 0 0))
    have n0 := hZ3.c0
    have n1 := hZ3.c1
    have n2 := hZ3.c2
    refine bodyPost_ret (v := .tuple #[.agg #[.int .i64 0, .slice none 0 0, .slice none 0 0], .bool false]) (by simp [results, Try.results36, go_sem, n0, n1, n2]) rfl ⟨_, rfl, OwnS.zero _, ?_⟩
    exact ((HBR.out.setCell (Nat.le_succ _) _).setCell (Nat.le_succ _) _).setCell (Nat.le_succ _) _
  · rw [hk] at HCF
    have hd0 := decide_eq_true h0
    clear hno hk h0
    go_enter Try.func36, Try.ntmps36
    go_wp2_with fail
    refine (HCF.out _ HB1.out).mono ?_
    rintro e W1 ⟨v1, rfl, hv1, b1⟩
    obtain ⟨a1, c1, a2, c2, rfl⟩ := hv1.form
    have hbx : Below W1.heap.size W1 (W1.alloc (.cells #[.int .i64 B, .slice a1 RR.length c1, .slice a2 OO.length c2] 30)) := (Below.refl _ _).alloc (Nat.le_refl _) _
    have HB2 := Lib.hid (HB1.out.trans (b1.mono HB1.out.size))
    have HB3 := Lib.hid (HB2.out.trans (hbx.mono HB2.out.size))
    have HC3 := Lib.hid ((HC1.out.below b1).below hbx)
    have HZ3 := Lib.hid ((HZ1.out.below b1).below hbx)
    have HX3 := Lib.hid (Cells3.new W1 30 (.int .i64 B) (.slice a1 RR.length c1) (.slice a2 OO.length c2))
    have HL3 := Lib.hid (hv1.lies.below hbx)
    have HN3 := Lib.hid (show w.heap.size + 1 < W1.heap.size from (HZ1.out.below b1).lt)
    clear hv1 b1 k0 k1 k2 HB1 HC1 HZ1 HB2 hbx
    have HZR := HZ3
    have HBR := HB3
    have k0 := HC3.out.c0
    obtain ⟨z0, z1, z2⟩ := (⟨HZR.out.c0, HZR.out.c1, HZR.out.c2⟩ : _ ∧ _ ∧ _)
    have z3 := HZR.out.f
    go_wp2
    have hZ3 := (((HZR.out.set0 (.int .i64 0)).set1 (.slice none 0 0)).set2 (.slice none 0 0))
    have n0 := hZ3.c0
    have n1 := hZ3.c1
    have n2 := hZ3.c2
    refine bodyPost_ret (v := .tuple #[.agg #[.int .i64 0, .slice none 0 0, .slice none 0 0], .bool false]) (by simp [results, Try.results36, go_sem, n0, n1, n2]) rfl ⟨_, rfl, OwnS.zero _, ?_⟩
    exact ((HBR.out.setCell (Nat.le_succ _) _).setCell (Nat.le_succ _) _).setCell (Nat.le_succ _) _
  · rw [hk] at HCF
    have hd0 := decide_eq_false h0
    have hd1 := decide_eq_true h1
    clear hno hk h0 h1
    go_enter Try.func36, Try.ntmps36
    go_wp2_with fail
    refine (HCF.out _ HB1.out).mono ?_
    rintro e W1 ⟨v1, rfl, hv1, b1⟩
    obtain ⟨a1, c1, a2, c2, rfl⟩ := hv1.form
    have hbx : Below W1.heap.size W1 (W1.alloc (.cells #[.int .i64 B, .slice a1 RR.length c1, .slice a2 OO.length c2] 30)) := (Below.refl _ _).alloc (Nat.le_refl _) _
    have HB2 := Lib.hid (HB1.out.trans (b1.mono HB1.out.size))
    have HB3 := Lib.hid (HB2.out.trans (hbx.mono HB2.out.size))
    have HC3 := Lib.hid ((HC1.out.below b1).below hbx)
    have HZ3 := Lib.hid ((HZ1.out.below b1).below hbx)
    have HX3 := Lib.hid (Cells3.new W1 30 (.int .i64 B) (.slice a1 RR.length c1) (.slice a2 OO.length c2))
    have HL3 := Lib.hid (hv1.lies.below hbx)
    have HN3 := Lib.hid (show w.heap.size + 1 < W1.heap.size from (HZ1.out.below b1).lt)
    clear hv1 b1 k0 k1 k2 HB1 HC1 HZ1 HB2 hbx
    have HZR := HZ3
    have HBR := HB3
    have k0 := HC3.out.c0
    obtain ⟨z0, z1, z2⟩ := (⟨HZR.out.c0, HZR.out.c1, HZR.out.c2⟩ : _ ∧ _ ∧ _)
    have z3 := HZR.out.f
    go_wp2
    have hZ3 := (((HZR.out.set0 (.int .i64 0)).set1 (.slice none 0 0)).set2 (.slice none 0 0))
    have n0 := hZ3.c0
    have n1 := hZ3.c1
    have n2 := hZ3.c2
    refine bodyPost_ret (v := .tuple #[.agg #[.int .i64 0, .slice none 0 0, .slice none 0 0], .bool false]) (by simp [results, Try.results36, go_sem, n0, n1, n2]) rfl ⟨_, rfl, OwnS.zero _, ?_⟩
    exact ((HBR.out.setCell (Nat.le_succ _) _).setCell (Nat.le_succ _) _).setCell (Nat.le_succ _) _
set_option maxRecDepth 100000 in
set_option maxHeartbeats 4000000 in
theorem impl_sub_yes (v : Value) (b : Int) (rows : List (List Int)) (out : List Int) (w : World) (h : LiesS w v b rows out) (r : Int) (hs : rows.length + tot rows + out.length ≤ 1048576) (hok : subOK b rows out r = true) :
    Calls Try.prog 36 #[v, .int .i64 r] w (GivesK (formB (formB b rows out) (formR b rows out) (subE b rows out r)) (minRV (formB b rows out) (formR b rows out) (subE b rows out r)) (minOV (formB b rows out) (formR b rows out) (subE b rows out r)) (formK (formB b rows out) (formR b rows out) (subE b rows out r)) w) := by
  obtain ⟨i0, hi, hz0, hz1, hz2⟩ := info_parts Ints.infoI
  have HS := Lib.hid h
  obtain ⟨an, cn, ao, co, rfl⟩ := h.form
  clear h
  have HB : Hid (Below w.heap.size w (w.alloc (Obj.cells #[Value.int .i64 b, Value.slice an rows.length cn, Value.slice ao out.length co] 30))) := (Below.refl _ _).alloc (Nat.le_refl _) _
  have HC := Lib.hid (Cells3.new w 30 (.int .i64 b) (.slice an rows.length cn) (.slice ao out.length co))
  have HB1 := Lib.hid (HB.out.alloc (by simp only [size_alloc'] <;> omega) (Obj.cells #[Value.int .i64 0, Value.slice none 0 0, Value.slice none 0 0] 30))
  have HC1 := Lib.hid (HC.out.alloc (Obj.cells #[Value.int .i64 0, Value.slice none 0 0, Value.slice none 0 0] 30))
  have hZ := Cells3.new (w.alloc (Obj.cells #[Value.int .i64 b, Value.slice an rows.length cn, Value.slice ao out.length co] 30)) 30 (.int .i64 0) (.slice none 0 0) (.slice none 0 0)
  rw [size_alloc'] at hZ
  have HZ1 := Lib.hid hZ
  have HSZ := Lib.hid hs
  clear hZ HB HC hs
  have k0 := HC1.out.c0
  have k1 := HC1.out.c1
  have k2 := HC1.out.c2
  have HCF := Lib.hid (fun (W : World) (hW : Below w.heap.size w W) => impl_form _ b rows out W (HS.out.below hW) HSZ.out)
  obtain ⟨hk, h0, h1⟩ := sub_parts hok
  have hval := form_valid hk
  rw [hk] at HCF
  have hbb : formB b rows out = b := by rw [formB, if_pos hk]
  unfold subE
  rw [hbb] at HCF hval ⊢
  obtain ⟨RR, hRR⟩ : ∃ R, R = formR b rows out := ⟨_, rfl⟩
  obtain ⟨OO, hOO⟩ : ∃ O, O = formO b rows out := ⟨_, rfl⟩
  rw [← hRR, ← hOO] at HCF hval ⊢
  clear hRR hOO hbb hk hok
  obtain ⟨B, hBB⟩ : ∃ B, B = b := ⟨_, rfl⟩
  subst hBB
  have hval' := hval
  have HVAL := Lib.hid hval'
  have hd0 := decide_eq_false (show ¬ r < 0 by omega)
  have hd1 := decide_eq_false (show ¬ B ≤ r by omega)
  have hr1 : r < B := h1
  obtain ⟨rn, rfl⟩ : ∃ rn : Nat, r = (rn : Int) := ⟨r.toNat, by omega⟩
  have hol1 : RR.length ≤ OO.length := by have := hval'.2.2.2.2.1; omega
  have hol2 : OO.length ≤ RR.length := by have := hval'.2.2.2.2.1; omega
  have HOL := Lib.hid (show OO.length = RR.length by omega)
  have hn16 : RR.length ≤ 16 := hval'.2.2.2.1
  have HTT := Lib.hid (show tot RR ≤ 64 by have := tot_le4 RR (fun q hq => by have := (hval'.2.2.2.2.2.1 q hq).1; have := hval'.2.1; omega); omega)
  clear hval hval' h0 h1
  have hrn0 : (0 : Int) ≤ (rn : Int) := Int.natCast_nonneg _
  have HCM0 := Lib.hid (fun (W : World) (u : Value) (l : LiesS W u B RR (subT RR OO rn)) (q : RR.length + tot RR + (subT RR OO rn).length ≤ 1048576) => impl_min u B RR (subT RR OO rn) W l q)
  obtain ⟨R2, hR2⟩ : ∃ R, R = minRV B RR (subT RR OO rn) := ⟨_, rfl⟩
  obtain ⟨O2, hO2⟩ : ∃ R, R = minOV B RR (subT RR OO rn) := ⟨_, rfl⟩
  obtain ⟨B2, hB2⟩ : ∃ R, R = formB B RR (subT RR OO rn) := ⟨_, rfl⟩
  obtain ⟨K2, hK2⟩ : ∃ R, R = formK B RR (subT RR OO rn) := ⟨_, rfl⟩
  rw [← hR2, ← hO2, ← hB2, ← hK2] at HCM0 ⊢
  clear hR2 hO2 hB2 hK2
  go_enter Try.func36, Try.ntmps36
  go_wp2_with fail
  refine (HCF.out _ HB1.out).mono ?_
  rintro e W1 ⟨v1, rfl, hv1, b1⟩
  obtain ⟨a1, c1, a2, c2, rfl⟩ := hv1.form
  have hbx : Below W1.heap.size W1 (W1.alloc (.cells #[.int .i64 B, .slice a1 RR.length c1, .slice a2 OO.length c2] 30)) := (Below.refl _ _).alloc (Nat.le_refl _) _
  have HB2 := Lib.hid (HB1.out.trans (b1.mono HB1.out.size))
  have HB3 := Lib.hid (HB2.out.trans (hbx.mono HB2.out.size))
  have HC3 := Lib.hid ((HC1.out.below b1).below hbx)
  have HZ3 := Lib.hid ((HZ1.out.below b1).below hbx)
  have HX3 := Lib.hid (Cells3.new W1 30 (.int .i64 B) (.slice a1 RR.length c1) (.slice a2 OO.length c2))
  have HL3 := Lib.hid (hv1.lies.below hbx)
  have HN3 := Lib.hid (show w.heap.size + 1 < W1.heap.size from (HZ1.out.below b1).lt)
  clear hv1 b1 k0 k1 k2 HB1 HC1 HZ1 HB2 hbx
  have k0 := HC3.out.c0
  have j0 := HX3.out.c0
  have j1 := HX3.out.c1
  have j2 := HX3.out.c2
  go_wp2_with (at_make; refine wpList_make_full (W1.alloc (.cells #[.int .i64 B, .slice a1 RR.length c1, .slice a2 OO.length c2] 30)) rfl _ _ 23 rfl (W1.alloc (.cells #[.int .i64 B, .slice a1 RR.length c1, .slice a2 OO.length c2] 30)).heap.size 3 i0 (.int .i64 0) 1 Try.underlying23 hi hz0 hz1 .i64 .i64 _ _ OO.length rfl rfl rfl rfl (by rw [hz2]; omega) (by unfold maxLen; omega) (Nat.le_refl _) ?_; intro W3 hown hgrow; have q1 := (HX3.out.below (below_of_grown hgrow)).c1; have q2 := (HX3.out.below (below_of_grown hgrow)).c2)
  obtain ⟨xb, hxb⟩ : ∃ x, x = W1.heap.size := ⟨_, rfl⟩
  obtain ⟨z, hz⟩ : ∃ z, z = W1.heap.size + 1 := ⟨_, rfl⟩
  have hza : (W1.alloc (.cells #[.int .i64 B, .slice a1 RR.length c1, .slice a2 OO.length c2] 30)).heap.size = z := by rw [hz, size_alloc']
  have hzx : xb < z := by rw [hz, hxb]; exact Nat.lt_succ_self _
  have hO : Hid (W3.ownsRow z 3 1 (.slice (some ⟨z, 0, none⟩) OO.length OO.length) OO.length ((subP RR OO rn 0 ++ (List.replicate OO.length (0 : Int)).drop 0).map (Value.int .i64))) := by
    show W3.ownsRow _ _ _ _ _ _
    rw [Ints.zero_made, hza] at hown
    simpa [subP] using hown
  have hb := below_of_grown hgrow
  have hB := Lib.hid (HB3.out.trans (hb.mono HB3.out.size))
  have hZ := Lib.hid (HZ3.out.below hb)
  have hX := Lib.hid (HX3.out.below hb)
  have hL := Lib.hid (HL3.out.below hb)
  rw [← hxb] at hX HN3
  rw [← hz, ← hxb]
  have HNZ := HN3
  have hBX : Hid (Below z W3 W3) := Below.refl _ _
  have hzs : Hid (z ≤ W3.heap.size) := by rw [← hza]; exact hb.size
  have hWX : Hid (∃ W0 : World, W0.heap.size = z ∧ Below z W0 W3 ∧ LiesS W0 (.agg #[.int .i64 B, .slice a1 RR.length c1, .slice a2 OO.length c2]) B RR OO) := ⟨_, hza, by rw [← hza]; exact hb, HL3.out⟩
  clear hown hgrow hb hxb hz hza HB3 HC3 HZ3 HX3 HL3 HN3 k0 hBX hL
  have m1 := hX.out.c1
  have m2 := hX.out.c2
  clear j0 j1 j2 q1 q2
  go_loopw [36] (fun i' wr => ∃ i : Nat, i ≤ RR.length ∧ i' = .int .i64 i ∧ Hid (wr.ownsRow z 3 1 (.slice (some ⟨z, 0, none⟩) OO.length OO.length) OO.length ((subP RR OO rn i ++ (List.replicate OO.length (0 : Int)).drop i).map (Value.int .i64))) ∧ Hid (Cells3 wr xb 30 (.int .i64 B) (.slice a1 RR.length c1) (.slice a2 OO.length c2)) ∧ Hid (Cells3 wr (w.heap.size + 1) 30 (.int .i64 0) (.slice none 0 0) (.slice none 0 0)) ∧ Hid (Below w.heap.size w wr) ∧ Hid (z ≤ wr.heap.size) ∧ Hid (∃ W0 : World, W0.heap.size = z ∧ Below z W0 wr ∧ LiesS W0 (.agg #[.int .i64 B, .slice a1 RR.length c1, .slice a2 OO.length c2]) B RR OO)) (fun i' _ => RR.length - (intOf i').toNat)
  case atStart => exact ⟨0, Nat.zero_le _, rfl, hO, hX, hZ, hB, hzs, hWX⟩
  case round =>
    clear hO hX hZ hB hzs hWX m1 m2
    obtain ⟨i, hil, rfl, hO, hX, hZ, hB, hzs, hWX⟩ := hrel
    obtain ⟨W4, rfl⟩ : ∃ W : World, W = wr := ⟨_, rfl⟩
    obtain ⟨W0, hw0, hb0, hl0⟩ := hWX.out
    have j0 := hX.out.c0
    have j1 := hX.out.c1
    have j2 := hX.out.c2
    by_cases hlt : i < RR.length
    case pos =>
      obtain ⟨pq, po, q, t, c, n, he1, hc1, hdn, hc2⟩ := step_cells hl0 HVAL.out hlt hr1
      obtain ⟨hx0, hx1⟩ := HVAL.out.next (s := (i : Int)) (d := (rn : Int)) (Int.natCast_nonneg _) (by omega) hrn0 hr1 |>.elim fun _ h => h.2.2
      obtain ⟨y, hy⟩ : ∃ y : Nat, nextS RR i rn = (y : Int) := ⟨(nextS RR i rn).toNat, by omega⟩
      have hyl : y < OO.length := by omega
      obtain ⟨x, hxv⟩ : ∃ x, OO[y]? = some x := ⟨_, List.getElem?_eq_getElem hyl⟩
      have HXV : Hid (subX RR OO rn i = x) := by show _ = _; rw [subX, hy, Int.toNat_natCast, List.getD_eq_getElem?_getD, hxv]; rfl
      obtain ⟨oq, os, he2, hc3⟩ := hl0.cells.2 y x hxv
      subst he1; subst he2
      have hc1' : W4.cell? ⟨pq, po + i, none⟩ = some (.slice (some ⟨q, t, none⟩) n c) := by rw [← hw0] at hb0; exact old_cellC hb0 hc1
      have hc2' : W4.cell? ⟨q, t + rn, none⟩ = some (.int .i64 (y : Int)) := by rw [← hw0] at hb0; rw [← hy]; exact old_cellC hb0 hc2
      have hc3' : W4.cell? ⟨oq, os + y, none⟩ = some (.int .i64 x) := by rw [← hw0] at hb0; exact old_cellC hb0 hc3
      have hi0 : (0 : Int) ≤ (i : Int) := Int.natCast_nonneg _
      have hiL : (i : Int) < (RR.length : Int) := by omega
      have hiO : (i : Int) < (OO.length : Int) := by omega
      have hy0 : (0 : Int) ≤ (y : Int) := Int.natCast_nonneg _
      have hyO : (y : Int) < (OO.length : Int) := by omega
      have hrnn : (rn : Int) < (n : Int) := by omega
      have hzc : ∃ u, W4.cell? ⟨z, i, none⟩ = some u := by
        have h1 := hO.out.cellAt i (by omega)
        have hlen : i < ((subP RR OO rn i ++ (List.replicate OO.length (0 : Int)).drop i).map (Value.int .i64)).length := by
          rw [List.length_map, List.length_append, subP_len, List.length_drop, List.length_replicate]; omega
        rw [List.getElem?_eq_getElem hlen] at h1
        exact ⟨_, h1⟩
      obtain ⟨zu, hzu⟩ := hzc
      have hzf := hO.out.frozenAt i
      have hst := hO.out.stored i (.int .i64 x)
      have hse : ((subP RR OO rn i ++ (List.replicate OO.length (0 : Int)).drop i).map (Value.int .i64)).set i (.int .i64 x) = (subP RR OO rn (i + 1) ++ (List.replicate OO.length (0 : Int)).drop (i + 1)).map (Value.int .i64) := by
        rw [← HXV.out]
        exact subP_set RR OO rn i OO.length _ (List.length_replicate) (by omega)
      rw [hse] at hst
      have HST := Lib.hid hst
      have hzx1 : z ≠ xb := by omega
      have hzw : z ≠ w.heap.size + 1 := by have := HNZ.out; omega
      have hzw2 : w.heap.size ≤ z := by have := HNZ.out; omega
      have HX5 := Lib.hid (hX.out.other (a := ⟨z, i, none⟩) hzx1 (.int .i64 x))
      have HZ5 := Lib.hid (hZ.out.other (a := ⟨z, i, none⟩) hzw (.int .i64 x))
      have HB5 : Hid (Below w.heap.size w (W4.setCell ⟨z, i, none⟩ (.int .i64 x))) := hB.out.setCell hzw2 _
      have HS5 : Hid (z ≤ (W4.setCell ⟨z, i, none⟩ (.int .i64 x)).heap.size) := by show _ ≤ _; rw [size_setCell']; exact hzs.out
      have HW5 : Hid (∃ W0 : World, W0.heap.size = z ∧ Below z W0 (W4.setCell ⟨z, i, none⟩ (.int .i64 x)) ∧ LiesS W0 (.agg #[.int .i64 B, .slice (some ⟨pq, po, none⟩) RR.length c1, .slice (some ⟨oq, os, none⟩) OO.length c2]) B RR OO) := ⟨W0, hw0, hb0.setCell (Nat.le_refl _) _, hl0⟩
      clear hst hse hxv hc1 hc2 hc3 hw0 hb0 hl0 hO hX hZ hB hzs hWX hx0 hx1 hy hdn hyl
      go_wp2_with fail
      go_region_law (fail)
      all_goals
        go_wp2
        go_roundw
        case rel => exact ⟨i + 1, by omega, by go_num, HST.out.1.kept (grown_of_below (below_drew' _)) (.inr (by simp [Value.ownBlock])), HX5.out.below (below_drew' _), HZ5.out.below (below_drew' _), HB5.out.trans ((below_drew' _).mono HB5.out.size), Nat.le_trans HS5.out (below_drew' _).size, (HW5.out.elim fun W0 h => ⟨W0, h.1, h.2.1.trans ((below_drew' _).mono HS5.out), h.2.2⟩)⟩
        case measure => simp [intOf]; omega
    case neg =>
      obtain rfl : i = RR.length := by omega
      have HT : Hid (Lies (Value.int .i64) W4 (.slice (some ⟨z, 0, none⟩) OO.length OO.length) (subT RR OO rn)) := by
        have h1 := hO.out
        rw [List.drop_eq_nil_of_le (by rw [List.length_replicate]; omega), List.append_nil] at h1
        have h2 : Has (Value.int .i64) 3 W4 z (.slice (some ⟨z, 0, none⟩) OO.length OO.length) (subP RR OO rn RR.length) := by
          have e : (subP RR OO rn RR.length).length = OO.length := by rw [subP_len]; omega
          show W4.ownsRow _ _ _ _ _ _
          rw [e]
          exact h1
        exact h2.lies
      have HLS : Hid (LiesS W4 (.agg #[.int .i64 B, .slice a1 RR.length c1, .slice (some ⟨z, 0, none⟩) OO.length OO.length]) B RR (subT RR OO rn)) := lies_of_parts (hl0.below (by rw [hw0]; exact hb0)) HT.out
      have HSL : Hid (RR.length + tot RR + (subT RR OO rn).length ≤ 1048576) := by
        have h1 := HTT.out
        show _ ≤ _
        rw [subT, subP_len]
        omega
      have HCM := Lib.hid (HCM0.out W4 _ HLS.out HSL.out)
      clear hO hw0 hb0 hl0 hWX HLS HT
      go_wp2_with fail
      refine HCM.out.mono ?_
      rintro e W5 ⟨v2, rfl, hv2, b2⟩
      obtain ⟨a3, c3, a4, c4, rfl⟩ := hv2.form
      have HZR := Lib.hid (hZ.out.below b2)
      have HBR := Lib.hid (hB.out.trans (b2.mono hB.out.size))
      have HV := Lib.hid hv2
      have HLO : Hid (w.heap.size + 2 ≤ W4.heap.size) := by have := HNZ.out; have := hzs.out; show _ ≤ _; omega
      clear hv2 b2 j0 j1 j2 hX hZ hB
      obtain ⟨z0, z1, z2⟩ := (⟨HZR.out.c0, HZR.out.c1, HZR.out.c2⟩ : _ ∧ _ ∧ _)
      have z3 := HZR.out.f
      go_wp2
      have hZ3 := (((HZR.out.set0 (.int .i64 B2)).set1 (.slice a3 R2.length c3)).set2 (.slice a4 O2.length c4))
      have n0 := hZ3.c0
      have n1 := hZ3.c1
      have n2 := hZ3.c2
      refine bodyPost_ret (v := .tuple #[.agg #[.int .i64 B2, .slice a3 R2.length c3, .slice a4 O2.length c4], .bool K2]) (by simp [results, Try.results36, go_sem, n0, n1, n2]) rfl ⟨_, rfl, ?_, ?_⟩
      · have hT : ∀ (i : Nat) (u : Value) (W : World), Plain.Touch (w.heap.size + 1) (w.heap.size + 2) W (W.setCell ⟨w.heap.size + 1, i, none⟩ u) := fun i u W => Plain.Touch.of_set (a := ⟨w.heap.size + 1, i, none⟩) u (Nat.le_refl _) (Nat.lt_succ_self _)
        have T0 : Plain.Touch (w.heap.size + 1) (w.heap.size + 2) W5 (((W5.setCell ⟨w.heap.size + 1, 0, none⟩ (.int .i64 B2)).setCell ⟨w.heap.size + 1, 1, none⟩ (.slice a3 R2.length c3)).setCell ⟨w.heap.size + 1, 2, none⟩ (.slice a4 O2.length c4)) := ((hT 0 _ _).trans (hT 1 _ _)).trans (hT 2 _ _)
        have h1 := (HV.out.touch T0 (.inr HLO.out)).lower (show w.heap.size ≤ W4.heap.size by have := HLO.out; omega)
        simpa only [size_setCell'] using h1
      · exact ((HBR.out.setCell (Nat.le_succ _) _).setCell (Nat.le_succ _) _).setCell (Nat.le_succ _) _
theorem impl_sub (v : Value) (b : Int) (rows : List (List Int)) (out : List Int) (w : World) (h : LiesS w v b rows out) (r : Int) (hs : rows.length + tot rows + out.length ≤ 1048576) :
    Calls Try.prog 36 #[v, .int .i64 r] w (GivesK (subB b rows out r) (subR b rows out r) (subO b rows out r) (subK b rows out r) w) := by
  cases hk : subOK b rows out r with
  | false =>
    obtain ⟨h1, h2, h3, h4⟩ := sub_no hk
    rw [h1, h2, h3, h4]
    exact impl_sub_no v b rows out w h r hs hk
  | true =>
    obtain ⟨h1, h2, h3, h4⟩ := sub_yes hk
    rw [h1, h2, h3, h4]
    exact impl_sub_yes v b rows out w h r hs hk
set_option maxRecDepth 100000 in
set_option maxHeartbeats 2000000 in
theorem spec_sub_no (v : Value) (b : Int) (rows : List (List Int)) (out : List Int) (w : World) (h : LiesS w v b rows out) (r : Int) (hs : rows.length + tot rows + out.length ≤ 1048576) (hno : subOK b rows out r = false) :
    Calls Try.prog 20 #[v, .int .i64 r] w (GivesK 0 [] [] false w) := by
  have HS := Lib.hid h
  obtain ⟨an, cn, ao, co, rfl⟩ := h.form
  clear h
  have HB : Hid (Below w.heap.size w (w.alloc (Obj.cells #[Value.int .i64 b, Value.slice an rows.length cn, Value.slice ao out.length co] 30))) := (Below.refl _ _).alloc (Nat.le_refl _) _
  have HC := Lib.hid (Cells3.new w 30 (.int .i64 b) (.slice an rows.length cn) (.slice ao out.length co))
  have HB1 := Lib.hid (HB.out.alloc (by simp only [size_alloc'] <;> omega) (Obj.cells #[Value.int .i64 0, Value.slice none 0 0, Value.slice none 0 0] 30))
  have HC1 := Lib.hid (HC.out.alloc (Obj.cells #[Value.int .i64 0, Value.slice none 0 0, Value.slice none 0 0] 30))
  have hZ := Cells3.new (w.alloc (Obj.cells #[Value.int .i64 b, Value.slice an rows.length cn, Value.slice ao out.length co] 30)) 30 (.int .i64 0) (.slice none 0 0) (.slice none 0 0)
  rw [size_alloc'] at hZ
  have HZ1 := Lib.hid hZ
  have HSZ := Lib.hid hs
  clear hZ HB HC hs
  have k0 := HC1.out.c0
  have k1 := HC1.out.c1
  have k2 := HC1.out.c2
  have HCF := Lib.hid (fun (W : World) (hW : Below w.heap.size w W) => spec_form _ b rows out W (HS.out.below hW) HSZ.out)
  obtain ⟨B, hBB⟩ : ∃ B, B = formB b rows out := ⟨_, rfl⟩
  obtain ⟨RR, hRR⟩ : ∃ R, R = formR b rows out := ⟨_, rfl⟩
  obtain ⟨OO, hOO⟩ : ∃ O, O = formO b rows out := ⟨_, rfl⟩
  rw [← hBB, ← hRR, ← hOO] at HCF
  clear hBB hRR hOO
  rcases sub_out hno with hk | ⟨hk, h0⟩ | ⟨hk, h0, h1⟩
  · rw [hk] at HCF
    clear hno hk
    go_enter Try.func20, Try.ntmps20
    go_wp2_with fail
    refine (HCF.out _ HB1.out).mono ?_
    rintro e W1 ⟨v1, rfl, hv1, b1⟩
    obtain ⟨a1, c1, a2, c2, rfl⟩ := hv1.form
    have hbx : Below W1.heap.size W1 (W1.alloc (.cells #[.int .i64 B, .slice a1 RR.length c1, .slice a2 OO.length c2] 30)) := (Below.refl _ _).alloc (Nat.le_refl _) _
    have HB2 := Lib.hid (HB1.out.trans (b1.mono HB1.out.size))
    have HB3 := Lib.hid (HB2.out.trans (hbx.mono HB2.out.size))
    have HC3 := Lib.hid ((HC1.out.below b1).below hbx)
    have HZ3 := Lib.hid ((HZ1.out.below b1).below hbx)
    have HX3 := Lib.hid (Cells3.new W1 30 (.int .i64 B) (.slice a1 RR.length c1) (.slice a2 OO.length c2))
    have HL3 := Lib.hid (hv1.lies.below hbx)
    have HN3 := Lib.hid (show w.heap.size + 1 < W1.heap.size from (HZ1.out.below b1).lt)
    clear hv1 b1 k0 k1 k2 HB1 HC1 HZ1 HB2 hbx
    have HZR := HZ3
    have HBR := HB3
    have k0 := HC3.out.c0
    obtain ⟨z0, z1, z2⟩ := (⟨HZR.out.c0, HZR.out.c1, HZR.out.c2⟩ : _ ∧ _ ∧ _)
    have z3 := HZR.out.f
    go_wp2
    have hZ3 := (((HZR.out.set0 (.int .i64 0)).set1 (.slice none 0 0)).set2 (.slice none 0 0))
    have n0 := hZ3.c0
    have n1 := hZ3.c1
    have n2 := hZ3.c2
    refine bodyPost_ret (v := .tuple #[.agg #[.int .i64 0, .slice none 0 0, .slice none 0 0], .bool false]) (by simp [results, Try.results20, go_sem, n0, n1, n2]) rfl ⟨_, rfl, OwnS.zero _, ?_⟩
    exact ((HBR.out.setCell (Nat.le_succ _) _).setCell (Nat.le_succ _) _).setCell (Nat.le_succ _) _
  · rw [hk] at HCF
    have hd0 := decide_eq_true h0
    clear hno hk h0
    go_enter Try.func20, Try.ntmps20
    go_wp2_with fail
    refine (HCF.out _ HB1.out).mono ?_
    rintro e W1 ⟨v1, rfl, hv1, b1⟩
    obtain ⟨a1, c1, a2, c2, rfl⟩ := hv1.form
    have hbx : Below W1.heap.size W1 (W1.alloc (.cells #[.int .i64 B, .slice a1 RR.length c1, .slice a2 OO.length c2] 30)) := (Below.refl _ _).alloc (Nat.le_refl _) _
    have HB2 := Lib.hid (HB1.out.trans (b1.mono HB1.out.size))
    have HB3 := Lib.hid (HB2.out.trans (hbx.mono HB2.out.size))
    have HC3 := Lib.hid ((HC1.out.below b1).below hbx)
    have HZ3 := Lib.hid ((HZ1.out.below b1).below hbx)
    have HX3 := Lib.hid (Cells3.new W1 30 (.int .i64 B) (.slice a1 RR.length c1) (.slice a2 OO.length c2))
    have HL3 := Lib.hid (hv1.lies.below hbx)
    have HN3 := Lib.hid (show w.heap.size + 1 < W1.heap.size from (HZ1.out.below b1).lt)
    clear hv1 b1 k0 k1 k2 HB1 HC1 HZ1 HB2 hbx
    have HZR := HZ3
    have HBR := HB3
    have k0 := HC3.out.c0
    obtain ⟨z0, z1, z2⟩ := (⟨HZR.out.c0, HZR.out.c1, HZR.out.c2⟩ : _ ∧ _ ∧ _)
    have z3 := HZR.out.f
    go_wp2
    have hZ3 := (((HZR.out.set0 (.int .i64 0)).set1 (.slice none 0 0)).set2 (.slice none 0 0))
    have n0 := hZ3.c0
    have n1 := hZ3.c1
    have n2 := hZ3.c2
    refine bodyPost_ret (v := .tuple #[.agg #[.int .i64 0, .slice none 0 0, .slice none 0 0], .bool false]) (by simp [results, Try.results20, go_sem, n0, n1, n2]) rfl ⟨_, rfl, OwnS.zero _, ?_⟩
    exact ((HBR.out.setCell (Nat.le_succ _) _).setCell (Nat.le_succ _) _).setCell (Nat.le_succ _) _
  · rw [hk] at HCF
    have hd0 := decide_eq_false h0
    have hd1 := decide_eq_true h1
    clear hno hk h0 h1
    go_enter Try.func20, Try.ntmps20
    go_wp2_with fail
    refine (HCF.out _ HB1.out).mono ?_
    rintro e W1 ⟨v1, rfl, hv1, b1⟩
    obtain ⟨a1, c1, a2, c2, rfl⟩ := hv1.form
    have hbx : Below W1.heap.size W1 (W1.alloc (.cells #[.int .i64 B, .slice a1 RR.length c1, .slice a2 OO.length c2] 30)) := (Below.refl _ _).alloc (Nat.le_refl _) _
    have HB2 := Lib.hid (HB1.out.trans (b1.mono HB1.out.size))
    have HB3 := Lib.hid (HB2.out.trans (hbx.mono HB2.out.size))
    have HC3 := Lib.hid ((HC1.out.below b1).below hbx)
    have HZ3 := Lib.hid ((HZ1.out.below b1).below hbx)
    have HX3 := Lib.hid (Cells3.new W1 30 (.int .i64 B) (.slice a1 RR.length c1) (.slice a2 OO.length c2))
    have HL3 := Lib.hid (hv1.lies.below hbx)
    have HN3 := Lib.hid (show w.heap.size + 1 < W1.heap.size from (HZ1.out.below b1).lt)
    clear hv1 b1 k0 k1 k2 HB1 HC1 HZ1 HB2 hbx
    have HZR := HZ3
    have HBR := HB3
    have k0 := HC3.out.c0
    obtain ⟨z0, z1, z2⟩ := (⟨HZR.out.c0, HZR.out.c1, HZR.out.c2⟩ : _ ∧ _ ∧ _)
    have z3 := HZR.out.f
    go_wp2
    have hZ3 := (((HZR.out.set0 (.int .i64 0)).set1 (.slice none 0 0)).set2 (.slice none 0 0))
    have n0 := hZ3.c0
    have n1 := hZ3.c1
    have n2 := hZ3.c2
    refine bodyPost_ret (v := .tuple #[.agg #[.int .i64 0, .slice none 0 0, .slice none 0 0], .bool false]) (by simp [results, Try.results20, go_sem, n0, n1, n2]) rfl ⟨_, rfl, OwnS.zero _, ?_⟩
    exact ((HBR.out.setCell (Nat.le_succ _) _).setCell (Nat.le_succ _) _).setCell (Nat.le_succ _) _
theorem subP_over (R : List (List Int)) (O : List Int) (r : Int) (i : Nat) (h : i < O.length) : (subP R O r i ++ O.drop i).set i (subX R O r i) = subP R O r (i + 1) ++ O.drop (i + 1) := by
  rw [List.set_append_right _ _ (by rw [subP_len]; omega), subP_len, Nat.sub_self, List.drop_eq_getElem_cons h, List.set_cons_zero, subP_succ, List.append_assoc]
  rfl
set_option maxRecDepth 100000 in
set_option maxHeartbeats 4000000 in
theorem spec_sub_yes (v : Value) (b : Int) (rows : List (List Int)) (out : List Int) (w : World) (h : LiesS w v b rows out) (r : Int) (hs : rows.length + tot rows + out.length ≤ 1048576) (hok : subOK b rows out r = true) :
    Calls Try.prog 20 #[v, .int .i64 r] w (GivesK (formB (formB b rows out) (formR b rows out) (subE b rows out r)) (minRV (formB b rows out) (formR b rows out) (subE b rows out r)) (minOV (formB b rows out) (formR b rows out) (subE b rows out r)) (formK (formB b rows out) (formR b rows out) (subE b rows out r)) w) := by
  have HS := Lib.hid h
  obtain ⟨an, cn, ao, co, rfl⟩ := h.form
  clear h
  have HB : Hid (Below w.heap.size w (w.alloc (Obj.cells #[Value.int .i64 b, Value.slice an rows.length cn, Value.slice ao out.length co] 30))) := (Below.refl _ _).alloc (Nat.le_refl _) _
  have HC := Lib.hid (Cells3.new w 30 (.int .i64 b) (.slice an rows.length cn) (.slice ao out.length co))
  have HB1 := Lib.hid (HB.out.alloc (by simp only [size_alloc'] <;> omega) (Obj.cells #[Value.int .i64 0, Value.slice none 0 0, Value.slice none 0 0] 30))
  have HC1 := Lib.hid (HC.out.alloc (Obj.cells #[Value.int .i64 0, Value.slice none 0 0, Value.slice none 0 0] 30))
  have hZ := Cells3.new (w.alloc (Obj.cells #[Value.int .i64 b, Value.slice an rows.length cn, Value.slice ao out.length co] 30)) 30 (.int .i64 0) (.slice none 0 0) (.slice none 0 0)
  rw [size_alloc'] at hZ
  have HZ1 := Lib.hid hZ
  have HSZ := Lib.hid hs
  clear hZ HB HC hs
  have k0 := HC1.out.c0
  have k1 := HC1.out.c1
  have k2 := HC1.out.c2
  have HCF := Lib.hid (fun (W : World) (hW : Below w.heap.size w W) => spec_form _ b rows out W (HS.out.below hW) HSZ.out)
  obtain ⟨hk, h0, h1⟩ := sub_parts hok
  have hval := form_valid hk
  rw [hk] at HCF
  have hbb : formB b rows out = b := by rw [formB, if_pos hk]
  unfold subE
  rw [hbb] at HCF hval ⊢
  obtain ⟨RR, hRR⟩ : ∃ R, R = formR b rows out := ⟨_, rfl⟩
  obtain ⟨OO, hOO⟩ : ∃ O, O = formO b rows out := ⟨_, rfl⟩
  rw [← hRR, ← hOO] at HCF hval ⊢
  clear hRR hOO hbb hk hok
  obtain ⟨B, hBB⟩ : ∃ B, B = b := ⟨_, rfl⟩
  subst hBB
  have hval' := hval
  have HVAL := Lib.hid hval'
  have hd0 := decide_eq_false (show ¬ r < 0 by omega)
  have hd1 := decide_eq_false (show ¬ B ≤ r by omega)
  have hr1 : r < B := h1
  obtain ⟨rn, rfl⟩ : ∃ rn : Nat, r = (rn : Int) := ⟨r.toNat, by omega⟩
  have hol1 : RR.length ≤ OO.length := by have := hval'.2.2.2.2.1; omega
  have hol2 : OO.length ≤ RR.length := by have := hval'.2.2.2.2.1; omega
  have HOL := Lib.hid (show OO.length = RR.length by omega)
  have hn16 : RR.length ≤ 16 := hval'.2.2.2.1
  have HTT := Lib.hid (show tot RR ≤ 64 by have := tot_le4 RR (fun q hq => by have := (hval'.2.2.2.2.2.1 q hq).1; have := hval'.2.1; omega); omega)
  have HSF := Lib.hid (show RR.length + tot RR + OO.length ≤ 1048576 by have := HTT.out; omega)
  clear hval hval' h0 h1
  have hrn0 : (0 : Int) ≤ (rn : Int) := Int.natCast_nonneg _
  have HCM0 := Lib.hid (fun (W : World) (u : Value) (l : LiesS W u B RR (subT RR OO rn)) (q : RR.length + tot RR + (subT RR OO rn).length ≤ 1048576) => spec_min u B RR (subT RR OO rn) W l q)
  obtain ⟨R2, hR2⟩ : ∃ R, R = minRV B RR (subT RR OO rn) := ⟨_, rfl⟩
  obtain ⟨O2, hO2⟩ : ∃ R, R = minOV B RR (subT RR OO rn) := ⟨_, rfl⟩
  obtain ⟨B2, hB2⟩ : ∃ R, R = formB B RR (subT RR OO rn) := ⟨_, rfl⟩
  obtain ⟨K2, hK2⟩ : ∃ R, R = formK B RR (subT RR OO rn) := ⟨_, rfl⟩
  rw [← hR2, ← hO2, ← hB2, ← hK2] at HCM0 ⊢
  clear hR2 hO2 hB2 hK2
  go_enter Try.func20, Try.ntmps20
  go_wp2_with fail
  refine (HCF.out _ HB1.out).mono ?_
  rintro e W1 ⟨v1, rfl, hv1, b1⟩
  obtain ⟨a1, c1, a2, c2, rfl⟩ := hv1.form
  have hbx : Below W1.heap.size W1 (W1.alloc (.cells #[.int .i64 B, .slice a1 RR.length c1, .slice a2 OO.length c2] 30)) := (Below.refl _ _).alloc (Nat.le_refl _) _
  have HB2 := Lib.hid (HB1.out.trans (b1.mono HB1.out.size))
  have HB3 := Lib.hid (HB2.out.trans (hbx.mono HB2.out.size))
  have HC3 := Lib.hid ((HC1.out.below b1).below hbx)
  have HZ3 := Lib.hid ((HZ1.out.below b1).below hbx)
  have HX3 := Lib.hid (Cells3.new W1 30 (.int .i64 B) (.slice a1 RR.length c1) (.slice a2 OO.length c2))
  have HL3 := Lib.hid (hv1.lies.below hbx)
  have HN3 := Lib.hid (show w.heap.size + 1 < W1.heap.size from (HZ1.out.below b1).lt)
  clear hv1 b1 k0 k1 k2 HB1 HC1 HZ1 HB2 hbx
  have k0 := HC3.out.c0
  have j0 := HX3.out.c0
  have j1 := HX3.out.c1
  have j2 := HX3.out.c2
  obtain ⟨W2, hW2⟩ : ∃ W, W = W1.alloc (.cells #[.int .i64 B, .slice a1 RR.length c1, .slice a2 OO.length c2] 30) := ⟨_, rfl⟩
  go_wp2_with fail
  rw [← hW2] at HB3 HC3 HZ3 HX3 HL3 k0 j0 j1 j2 ⊢
  have hws : W2.heap.size = W1.heap.size + 1 := by rw [hW2, size_alloc']
  clear hW2
  obtain ⟨xb, hxb⟩ : ∃ x, x = W1.heap.size := ⟨_, rfl⟩
  rw [← hxb] at HX3 HN3 j0 j1 j2 hws ⊢
  clear hxb
  refine (spec_copied _ B RR OO _ HL3.out HSF.out).mono ?_
  rintro e W3 ⟨vm, rfl, hm, b3⟩
  obtain ⟨ma, mc, oa, oc, rfl⟩ := hm.form
  obtain ⟨X3, hX3⟩ : ∃ X, X = (Obj.cells #[.int .i64 B, .slice ma RR.length mc, .slice oa OO.length oc] 30) := ⟨_, rfl⟩
  have hbx : Below W3.heap.size W3 (W3.alloc X3) := (Below.refl _ _).alloc (Nat.le_refl _) _
  have HM := Lib.hid (hm.below hbx)
  have HP := Lib.hid (Cells3.new W3 30 (.int .i64 B) (.slice ma RR.length mc) (.slice oa OO.length oc))
  rw [← hX3] at HP
  have HB4 := Lib.hid ((HB3.out.trans (b3.mono HB3.out.size)).trans (hbx.mono (HB3.out.trans (b3.mono HB3.out.size)).size))
  have HZ4 := Lib.hid ((HZ3.out.below b3).below hbx)
  have HX4 := Lib.hid ((HX3.out.below b3).below hbx)
  have HW4 : Hid (∃ W0 : World, W0.heap.size = W2.heap.size ∧ Below W2.heap.size W0 (W3.alloc X3) ∧ LiesS W0 (.agg #[.int .i64 B, .slice a1 RR.length c1, .slice a2 OO.length c2]) B RR OO) := ⟨W2, rfl, b3.trans (hbx.mono b3.size), HL3.out⟩
  have HLO3 := Lib.hid (show W2.heap.size ≤ W3.heap.size from b3.size)
  clear hm b3 k0 j0 j1 j2 HB3 HC3 HZ3 HX3 HL3
  go_wp2
  rw [← hX3]
  obtain ⟨W4, hW4⟩ : ∃ W, W = W3.alloc X3 := ⟨_, rfl⟩
  rw [← hW4] at HM HP HB4 HZ4 HX4 HW4 ⊢
  obtain ⟨p, hp⟩ : ∃ p, p = W3.heap.size := ⟨_, rfl⟩
  obtain ⟨lo, hlo⟩ : ∃ lo, lo = W2.heap.size := ⟨_, rfl⟩
  rw [← hp, ← hlo] at HLO3
  rw [← hp] at HP HM ⊢
  rw [← hlo] at HM HW4 hws
  have hM : Hid (OwnS W4 lo p (.agg #[.int .i64 B, .slice ma RR.length mc, .slice oa OO.length oc]) B RR (subP RR OO rn 0 ++ OO.drop 0)) := HM.out
  have hP := HP
  have hZ := HZ4
  have hX := HX4
  have hB := HB4
  have hWX := HW4
  clear hX3 hbx hW4 hp hlo HM HP HB4 HZ4 HX4 HW4
  go_loopw [9] (fun i' wr => ∃ i : Nat, i ≤ RR.length ∧ i' = .int .i64 i ∧ Hid (OwnS wr lo p (.agg #[.int .i64 B, .slice ma RR.length mc, .slice oa OO.length oc]) B RR (subP RR OO rn i ++ OO.drop i)) ∧ Hid (Cells3 wr p 30 (.int .i64 B) (.slice ma RR.length mc) (.slice oa OO.length oc)) ∧ Hid (Cells3 wr xb 30 (.int .i64 B) (.slice a1 RR.length c1) (.slice a2 OO.length c2)) ∧ Hid (Cells3 wr (w.heap.size + 1) 30 (.int .i64 0) (.slice none 0 0) (.slice none 0 0)) ∧ Hid (Below w.heap.size w wr) ∧ Hid (∃ W0 : World, W0.heap.size = lo ∧ Below lo W0 wr ∧ LiesS W0 (.agg #[.int .i64 B, .slice a1 RR.length c1, .slice a2 OO.length c2]) B RR OO)) (fun i' _ => RR.length - (intOf i').toNat)
  case atStart => exact ⟨0, Nat.zero_le _, rfl, hM, hP, hX, hZ, hB, hWX⟩
  case round =>
    clear hM hP hX hZ hB hWX
    obtain ⟨i, hil, rfl, hM, hP, hX, hZ, hB, hWX⟩ := hrel
    obtain ⟨W4, rfl⟩ : ∃ W : World, W = wr := ⟨_, rfl⟩
    obtain ⟨W0, hw0, hb0, hl0⟩ := hWX.out
    have j0 := hX.out.c0
    have j1 := hX.out.c1
    have j2 := hX.out.c2
    have m0 := hP.out.c0
    have m1 := hP.out.c1
    have m2 := hP.out.c2
    by_cases hlt : i < RR.length
    case pos =>
      obtain ⟨pq, po, q, t, c, n, he1, hc1, hdn, hc2⟩ := step_cells hl0 HVAL.out hlt hr1
      obtain ⟨hx0, hx1⟩ := HVAL.out.next (s := (i : Int)) (d := (rn : Int)) (Int.natCast_nonneg _) (by omega) hrn0 hr1 |>.elim fun _ h => h.2.2
      obtain ⟨y, hy⟩ : ∃ y : Nat, nextS RR i rn = (y : Int) := ⟨(nextS RR i rn).toNat, by omega⟩
      have hyl : y < OO.length := by omega
      obtain ⟨x, hxv⟩ : ∃ x, OO[y]? = some x := ⟨_, List.getElem?_eq_getElem hyl⟩
      have HXV : Hid (subX RR OO rn i = x) := by show _ = _; rw [subX, hy, Int.toNat_natCast, List.getD_eq_getElem?_getD, hxv]; rfl
      obtain ⟨oq, os, he2, hc3⟩ := hl0.cells.2 y x hxv
      subst he1; subst he2
      have hc1' : W4.cell? ⟨pq, po + i, none⟩ = some (.slice (some ⟨q, t, none⟩) n c) := by rw [← hw0] at hb0; exact old_cellC hb0 hc1
      have hc2' : W4.cell? ⟨q, t + rn, none⟩ = some (.int .i64 (y : Int)) := by rw [← hw0] at hb0; rw [← hy]; exact old_cellC hb0 hc2
      have hc3' : W4.cell? ⟨oq, os + y, none⟩ = some (.int .i64 x) := by rw [← hw0] at hb0; exact old_cellC hb0 hc3
      have hi0 : (0 : Int) ≤ (i : Int) := Int.natCast_nonneg _
      have hiL : (i : Int) < (RR.length : Int) := by omega
      have hiO : (i : Int) < (OO.length : Int) := by omega
      have hy0 : (0 : Int) ≤ (y : Int) := Int.natCast_nonneg _
      have hyO : (y : Int) < (OO.length : Int) := by omega
      have hrnn : (rn : Int) < (n : Int) := by omega
      have hML := hM.out
      obtain ⟨dl, hdl⟩ : ∃ dl, dl = subP RR OO rn i ++ OO.drop i := ⟨_, rfl⟩
      rw [← hdl] at hML
      have hdn2 : dl.length = OO.length := by rw [hdl, List.length_append, subP_len, List.length_drop]; omega
      rw [← hdn2] at hML
      obtain ⟨g, hge, hgl, hgh, gf, ⟨gy, gc⟩, hwr⟩ := own_outj hML i (by omega)
      subst hge
      have hST := hwr x
      have HST : Hid (OwnS (W4.setCell ⟨g, i, none⟩ (.int .i64 x)) lo p (.agg #[.int .i64 B, .slice ma RR.length mc, .slice (some ⟨g, 0, none⟩) OO.length oc]) B RR (subP RR OO rn (i + 1) ++ OO.drop (i + 1))) := by
        rw [hdn2, hdl, ← HXV.out, subP_over RR OO rn i (by omega)] at hST
        exact HXV.out ▸ hST
      have hgp : g ≠ p := by omega
      have hgx : g ≠ xb := by omega
      have hgz : g ≠ w.heap.size + 1 := by have := HN3.out; omega
      have hgw : w.heap.size ≤ g := by have := HN3.out; omega
      have HP5 := Lib.hid (hP.out.other (a := ⟨g, i, none⟩) hgp (.int .i64 x))
      have HX5 := Lib.hid (hX.out.other (a := ⟨g, i, none⟩) hgx (.int .i64 x))
      have HZ5 := Lib.hid (hZ.out.other (a := ⟨g, i, none⟩) hgz (.int .i64 x))
      have HB5 : Hid (Below w.heap.size w (W4.setCell ⟨g, i, none⟩ (.int .i64 x))) := hB.out.setCell hgw _
      have hlos : lo ≤ (W4.setCell ⟨g, i, none⟩ (.int .i64 x)).heap.size := by rw [size_setCell']; have := hP.out.lt; omega
      have HLS := Lib.hid hlos
      have HW5 : Hid (∃ W0 : World, W0.heap.size = lo ∧ Below lo W0 (W4.setCell ⟨g, i, none⟩ (.int .i64 x)) ∧ LiesS W0 (.agg #[.int .i64 B, .slice (some ⟨pq, po, none⟩) RR.length c1, .slice (some ⟨oq, os, none⟩) OO.length c2]) B RR OO) := ⟨W0, hw0, hb0.setCell hgl _, hl0⟩
      clear hST hML hdl hwr hdn2 hxv hc1 hc2 hc3 hw0 hb0 hl0 hM hP hX hZ hB hWX hx0 hx1 hy hdn hyl hlos
      go_wp2_with fail
      go_region_law (fail)
      all_goals
        go_wp2
        go_roundw
        case rel => exact ⟨i + 1, by omega, by go_num, HST.out.below (below_drew' _), HP5.out.below (below_drew' _), HX5.out.below (below_drew' _), HZ5.out.below (below_drew' _), HB5.out.trans ((below_drew' _).mono HB5.out.size), (HW5.out.elim fun W0 h => ⟨W0, h.1, h.2.1.trans ((below_drew' _).mono HLS.out), h.2.2⟩)⟩
        case measure => simp [intOf]; omega
    case neg =>
      obtain rfl : i = RR.length := by omega
      have HLS : Hid (LiesS W4 (.agg #[.int .i64 B, .slice ma RR.length mc, .slice oa OO.length oc]) B RR (subT RR OO rn)) := by
        have h1 := hM.out.lies
        rw [List.drop_eq_nil_of_le (by omega), List.append_nil] at h1
        exact h1
      have HSL : Hid (RR.length + tot RR + (subT RR OO rn).length ≤ 1048576) := by
        have h1 := HTT.out
        show _ ≤ _
        rw [subT, subP_len]
        omega
      have HCM := Lib.hid (HCM0.out W4 _ HLS.out HSL.out)
      clear hM hw0 hb0 hl0 hWX HLS
      go_wp2_with fail
      refine HCM.out.mono ?_
      rintro e W5 ⟨v2, rfl, hv2, b2⟩
      obtain ⟨a3, c3, a4, c4, rfl⟩ := hv2.form
      obtain ⟨X6, hX6⟩ : ∃ X, X = (Obj.cells #[.int .i64 B2, .slice a3 R2.length c3, .slice a4 O2.length c4] 30) := ⟨_, rfl⟩
      have hby : Below W5.heap.size W5 (W5.alloc X6) := (Below.refl _ _).alloc (Nat.le_refl _) _
      have hY := Cells3.new W5 30 (.int .i64 B2) (.slice a3 R2.length c3) (.slice a4 O2.length c4)
      rw [← hX6] at hY
      have HZR := Lib.hid ((hZ.out.below b2).below hby)
      have HBR := Lib.hid ((hB.out.trans (b2.mono hB.out.size)).trans (hby.mono (hB.out.trans (b2.mono hB.out.size)).size))
      have HV := Lib.hid (own_wide (hv2.below hby) hby.size (Nat.le_refl _))
      have HLO : Hid (w.heap.size + 2 ≤ W4.heap.size) := by have := hZ.out.lt; have := HN3.out; have := hX.out.lt; show _ ≤ _; omega
      have y0 := hY.c0
      have y1 := hY.c1
      have y2 := hY.c2
      clear hv2 b2 hby j0 j1 j2 m0 m1 m2 hX hZ hB hP
      obtain ⟨z0, z1, z2⟩ := (⟨HZR.out.c0, HZR.out.c1, HZR.out.c2⟩ : _ ∧ _ ∧ _)
      have z3 := HZR.out.f
      rw [hX6] at y0 y1 y2 z0 z1 z2 z3
      go_wp2
      rw [← hX6]
      have hZ3 := (((HZR.out.set0 (.int .i64 B2)).set1 (.slice a3 R2.length c3)).set2 (.slice a4 O2.length c4))
      have n0 := hZ3.c0
      have n1 := hZ3.c1
      have n2 := hZ3.c2
      obtain ⟨W6, hW6⟩ : ∃ W, W = W5.alloc X6 := ⟨_, rfl⟩
      rw [← hW6] at HZR HBR HV n0 n1 n2 ⊢
      clear hW6 y0 y1 y2 z0 z1 z2 z3 hZ3 hY
      refine bodyPost_ret (v := .tuple #[.agg #[.int .i64 B2, .slice a3 R2.length c3, .slice a4 O2.length c4], .bool K2]) (by simp [results, Try.results20, go_sem, n0, n1, n2]) rfl ⟨_, rfl, ?_, ?_⟩
      · have hT : ∀ (i : Nat) (u : Value) (W : World), Plain.Touch (w.heap.size + 1) (w.heap.size + 2) W (W.setCell ⟨w.heap.size + 1, i, none⟩ u) := fun i u W => Plain.Touch.of_set (a := ⟨w.heap.size + 1, i, none⟩) u (Nat.le_refl _) (Nat.lt_succ_self _)
        have T0 : Plain.Touch (w.heap.size + 1) (w.heap.size + 2) W6 (((W6.setCell ⟨w.heap.size + 1, 0, none⟩ (.int .i64 B2)).setCell ⟨w.heap.size + 1, 1, none⟩ (.slice a3 R2.length c3)).setCell ⟨w.heap.size + 1, 2, none⟩ (.slice a4 O2.length c4)) := ((hT 0 _ _).trans (hT 1 _ _)).trans (hT 2 _ _)
        have h1 := (HV.out.touch T0 (.inr HLO.out)).lower (show w.heap.size ≤ W4.heap.size by have := HLO.out; omega)
        simpa only [size_setCell'] using h1
      · exact ((HBR.out.setCell (Nat.le_succ _) _).setCell (Nat.le_succ _) _).setCell (Nat.le_succ _) _
theorem spec_sub (v : Value) (b : Int) (rows : List (List Int)) (out : List Int) (w : World) (h : LiesS w v b rows out) (r : Int) (hs : rows.length + tot rows + out.length ≤ 1048576) :
    Calls Try.prog 20 #[v, .int .i64 r] w (GivesK (subB b rows out r) (subR b rows out r) (subO b rows out r) (subK b rows out r) w) := by
  cases hk : subOK b rows out r with
  | false =>
    obtain ⟨h1, h2, h3, h4⟩ := sub_no hk
    rw [h1, h2, h3, h4]
    exact spec_sub_no v b rows out w h r hs hk
  | true =>
    obtain ⟨h1, h2, h3, h4⟩ := sub_yes hk
    rw [h1, h2, h3, h4]
    exact spec_sub_yes v b rows out w h r hs hk
end Kern
end Go.Proofs.Ytgbgcaaekpgapac
/- Contracts of StateAfter, of the program and of the model. No conditions beyond those that each states. -/
namespace Go.Proofs.Ytgbgcaaekpgapac
open Go.ChangeShapes Go.WideShapes Go.ChangeAt Go.RowKit
open Go.PlainAid Plain
set_option linter.unusedVariables false
namespace Seqs
end Seqs
end Go.Proofs.Ytgbgcaaekpgapac
/- Contracts of TermAt, of the program and of the model. No conditions beyond those that each states. -/
namespace Go.Proofs.Ytgbgcaaekpgapac
open Go.ChangeShapes Go.WideShapes Go.ChangeAt Go.RowKit
open Go.PlainAid Plain
set_option linter.unusedVariables false
namespace Seqs
theorem cell_below {w w' : World} {p : Addr} {x : Value} (h : w.cell? p = some x) (hb : Below w.heap.size w w') : w'.cell? p = some x := (hb.cell (World.block_lt_of_cell? w p h)).trans h
open Digits
/-- May the term be asked for? -/
def askB (b : Int) (rows : List (List Int)) (out : List Int) (n : Int) : Bool := seqB b rows out && decide (0 ≤ n) && decide (n < powV b 16)
/-- The term n, -1 where it may not be asked for. -/
def termV (b : Int) (rows : List (List Int)) (out : List Int) (n : Int) : Int := if askB b rows out n = true then out.getD (afterS rows (digV n b)).toNat 0 else -1
theorem dig_ok {b : Int} {rows : List (List Int)} {out : List Int} (h : IsSeq b rows out) (n : Int) : (∀ d ∈ digV n b, 0 ≤ d ∧ d < b) ∧ areD b (digV n b) = true := by
  have hm : ∀ d ∈ digV n b, 0 ≤ d ∧ d < b := by
    intro d hd
    unfold digV at hd
    split at hd
    · have := digs_mem n.toNat b.toNat (by have := h.1; omega) d hd
      have := h.1
      omega
    · cases hd
  exact ⟨hm, areD_yes h.1 h.2.1 (digV_len n b) hm⟩
end Seqs
end Go.Proofs.Ytgbgcaaekpgapac
/- Contracts of PrefixOf, of the program and of the model. No conditions beyond those that each states. -/
namespace Go.Proofs.Ytgbgcaaekpgapac
open Go.ChangeShapes Go.WideShapes Go.ChangeAt Go.RowKit
open Go.PlainAid Plain
set_option linter.unusedVariables false
namespace Seqs
open Digits
/-- The term n, told without a look whether it may be asked for. -/
def termG (b : Int) (rows : List (List Int)) (out : List Int) (i : Nat) : Int := out.getD (afterS rows (digV (i : Int) b)).toNat 0
def termsG (b : Int) (rows : List (List Int)) (out : List Int) (i : Nat) : List Int := (List.range i).map (termG b rows out)
theorem termsG_len (b : Int) (rows : List (List Int)) (out : List Int) (i : Nat) : (termsG b rows out i).length = i := by simp [termsG]
theorem termsG_succ (b : Int) (rows : List (List Int)) (out : List Int) (i : Nat) : termsG b rows out (i + 1) = termsG b rows out i ++ [termG b rows out i] := by simp [termsG, List.range_succ]
theorem termsG_set (b : Int) (rows : List (List Int)) (out : List Int) (i m : Nat) (h : i < m) : ((termsG b rows out i ++ List.replicate (m - i) 0).map (Value.int .i64)).set i (.int .i64 (termG b rows out i)) = (termsG b rows out (i + 1) ++ List.replicate (m - (i + 1)) 0).map (Value.int .i64) := by
  rw [show m - i = (m - (i + 1)) + 1 from by omega, List.replicate_succ, List.map_append, List.map_cons, set_mid _ _ _ _ i (by rw [List.length_map, termsG_len]), termsG_succ, List.append_assoc, List.map_append]
  rfl
/-- May the terms be asked for? -/
def prefB (b : Int) (rows : List (List Int)) (out : List Int) (n : Int) : Bool := seqB b rows out && decide (1 ≤ n) && decide (n ≤ 256)
/-- The terms before n, none where they may not be asked for. -/
def prefV (b : Int) (rows : List (List Int)) (out : List Int) (n : Int) : List Int := if prefB b rows out n = true then termsG b rows out n.toNat else []
theorem prefV_len (b : Int) (rows : List (List Int)) (out : List Int) (n : Int) : (prefV b rows out n).length ≤ 256 := by
  unfold prefV
  split
  · rename_i h
    simp only [prefB, Bool.and_eq_true, decide_eq_true_eq] at h
    rw [termsG_len]
    omega
  · simp
theorem ask_small {b : Int} {rows : List (List Int)} {out : List Int} (h : seqB b rows out = true) (i : Nat) (hi : i ≤ 256) : termV b rows out (i : Int) = termG b rows out i := by
  have hb := seqB_out h
  have h2 : (i : Int) < powV b 16 := by
    obtain ⟨n, rfl⟩ := Int.eq_ofNat_of_zero_le (show 0 ≤ b by have := hb.1; omega)
    have hn := hb.1
    rw [powV_in n (by omega) (by have := hb.2.1; omega)]
    have h3 : 2 ^ 16 ≤ n ^ 16 := Nat.pow_le_pow_left (by omega) 16
    have h4 : (2 : Nat) ^ 16 = 65536 := by decide
    omega
  rw [termV, if_pos (by simp [askB, h, h2])]
  rfl
end Seqs
end Go.Proofs.Ytgbgcaaekpgapac
/- Contracts of FirstDifference, of the program and of the model. No conditions beyond those that each states. -/
namespace Go.Proofs.Ytgbgcaaekpgapac
open Go.ChangeShapes Go.WideShapes Go.ChangeAt Go.RowKit
open Go.PlainAid Plain
set_option linter.unusedVariables false
namespace Mins
open Seqs Digits
/-- The first number before 2000 whose terms differ. -/
def diffAt (b : Int) (rows : List (List Int)) (out : List Int) (rows' : List (List Int)) (out' : List Int) : Option Nat := (List.range 2000).find? fun n => decide (¬ termG b rows out n = termG b rows' out' n)
def diffOK (b b' : Int) (rows rows' : List (List Int)) (out out' : List Int) : Bool := seqB b rows out && seqB b' rows' out' && decide (b = b')
def diffV (b b' : Int) (rows rows' : List (List Int)) (out out' : List Int) : Int := if diffOK b b' rows rows' out out' = true then ((diffAt b rows out rows' out').getD 0 : Nat) else 0
def diffK (b b' : Int) (rows rows' : List (List Int)) (out out' : List Int) : Bool := diffOK b b' rows rows' out out' && (diffAt b rows out rows' out').isSome
theorem range_find {p : Nat → Bool} {n m : Nat} (h : m < n) (hp : p m = true) (hn : ∀ j < m, p j = false) : (List.range n).find? p = some m := by
  rw [List.find?_range_eq_some]
  exact ⟨hp, List.mem_range.2 h, fun j hj => by simp [hn j hj]⟩
theorem diffAt_some {b : Int} {rows rows' : List (List Int)} {out out' : List Int} {m : Nat} (h : m < 2000) (hp : ¬ termG b rows out m = termG b rows' out' m) (hn : ∀ j < m, termG b rows out j = termG b rows' out' j) : diffAt b rows out rows' out' = some m :=
  range_find h (decide_eq_true hp) fun j hj => decide_eq_false fun h => h (hn j hj)
theorem diffAt_none {b : Int} {rows rows' : List (List Int)} {out out' : List Int} (hn : ∀ j < 2000, termG b rows out j = termG b rows' out' j) : diffAt b rows out rows' out' = none := by
  rw [diffAt, List.find?_eq_none]
  intro j hj
  simp [hn j (List.mem_range.1 hj)]
theorem ask_small' {b : Int} {rows : List (List Int)} {out : List Int} (h : seqB b rows out = true) (i : Nat) (hi : i ≤ 4000) : termV b rows out (i : Int) = termG b rows out i := by
  have hb := seqB_out h
  have h2 : (i : Int) < powV b 16 := by
    obtain ⟨n, rfl⟩ := Int.eq_ofNat_of_zero_le (show 0 ≤ b by have := hb.1; omega)
    have hn := hb.1
    rw [powV_in n (by omega) (by have := hb.2.1; omega)]
    have h3 : 2 ^ 16 ≤ n ^ 16 := Nat.pow_le_pow_left (by omega) 16
    have h4 : (2 : Nat) ^ 16 = 65536 := by decide
    omega
  rw [termV, if_pos (by simp [askB, h, h2])]
  rfl
theorem ret_nb {m m' : Int} {c c' : Bool} (h1 : m = m') (h2 : c = c') : Ending.returned (.tuple #[.int .i64 m, .bool c]) = .returned (.tuple #[.int .i64 m', .bool c']) := by rw [h1, h2]
theorem six {w1 : World} {b1 b2 : Nat} {t : TypeId} {x y z x' y' z' : Value} (h1 : Cells3 w1 b1 t x y z) (h2 : Cells3 w1 b2 t x' y' z') :
    w1.cell? ⟨b1, 0, none⟩ = some x ∧ w1.cell? ⟨b1, 1, none⟩ = some y ∧ w1.cell? ⟨b1, 2, none⟩ = some z ∧ w1.cell? ⟨b2, 0, none⟩ = some x' ∧ w1.cell? ⟨b2, 1, none⟩ = some y' ∧ w1.cell? ⟨b2, 2, none⟩ = some z' := ⟨h1.c0, h1.c1, h1.c2, h2.c0, h2.c1, h2.c2⟩
end Mins
end Go.Proofs.Ytgbgcaaekpgapac
/- What a first difference says of the terms. No conditions beyond those that each fact states. -/
namespace Go.Proofs.Ytgbgcaaekpgapac
open Go.ChangeShapes Go.WideShapes Go.ChangeAt Go.RowKit
open Go.PlainAid Plain
set_option linter.unusedVariables false
namespace Mins
open Seqs Digits
/-- Where a difference is found, the terms at it differ. -/
theorem diff_differs {b b' : Int} {rows rows' : List (List Int)} {out out' : List Int} (h : diffK b b' rows rows' out out' = true) :
    ∃ n : Nat, n < 2000 ∧ diffV b b' rows rows' out out' = (n : Int) ∧ termV b rows out (n : Int) ≠ termV b' rows' out' (n : Int) := by
  rw [diffK, Bool.and_eq_true] at h
  obtain ⟨hd, hs⟩ := h
  obtain ⟨n, hn⟩ := Option.isSome_iff_exists.1 hs
  have hd2 := hd
  simp only [diffOK, Bool.and_eq_true, decide_eq_true_eq] at hd2
  obtain ⟨⟨hq, hq'⟩, rfl⟩ := hd2
  have h1 := List.find?_some hn
  have h2 := List.mem_range.1 (List.mem_of_find?_eq_some hn)
  refine ⟨n, h2, by rw [diffV, if_pos hd, hn]; rfl, ?_⟩
  rw [ask_small' hq n (by omega), ask_small' hq' n (by omega)]
  exact of_decide_eq_true h1
/-- Sequences with the same terms have no difference. -/
theorem diff_same {b : Int} {rows rows' : List (List Int)} {out out' : List Int} (h : ∀ j < 2000, termG b rows out j = termG b rows' out' j) : diffK b b rows rows' out out' = false := by
  rw [diffK, diffAt_none h]
  simp
/-- A map of states that starts at 0 and goes along with every digit goes along with every list of digits. -/
theorem after_sim {rows rows' : List (List Int)} {b : Int} (φ : Int → Int) (P : Int → Prop) (h0 : P 0) (hφ : φ 0 = 0)
    (hs : ∀ s d, P s → 0 ≤ d → d < b → P (nextS rows s d) ∧ φ (nextS rows s d) = nextS rows' (φ s) d) :
    ∀ ds : List Int, (∀ d ∈ ds, 0 ≤ d ∧ d < b) → P (afterS rows ds) ∧ φ (afterS rows ds) = afterS rows' ds := by
  have key : ∀ (ds : List Int) (s : Int), P s → (∀ d ∈ ds, 0 ≤ d ∧ d < b) → P (ds.foldl (nextS rows) s) ∧ φ (ds.foldl (nextS rows) s) = ds.foldl (nextS rows') (φ s) := by
    intro ds
    induction ds with
    | nil => intro s hp _; exact ⟨hp, rfl⟩
    | cons d ds ih =>
      intro s hp hd
      have h1 := hd d List.mem_cons_self
      have h2 := hs s d hp h1.1 h1.2
      have h3 := ih (nextS rows s d) h2.1 (fun x hx => hd x (List.mem_cons_of_mem _ hx))
      rw [List.foldl_cons, List.foldl_cons, ← h2.2]
      exact h3
  intro ds hd
  have h := key ds 0 h0 hd
  rw [hφ] at h
  exact h
/-- The merged automaton has the terms of the automaton. -/
theorem quot_out {rows : List (List Int)} {out : List Int} {n : Nat} (A : Auto rows out n) (ds : List Int) (hd : ∀ d ∈ ds, 0 ≤ d ∧ d < (n : Int)) :
    (0 ≤ afterS rows ds ∧ afterS rows ds < (rows.length : Int)) ∧ (outQ rows out).getD (afterS (rowsQ rows out) ds).toNat 0 = out.getD (afterS rows ds).toNat 0 := by
  have h := after_sim (rows := rows) (rows' := rowsQ rows out) (b := n) (clsF rows out) (fun s => 0 ≤ s ∧ s < (rows.length : Int)) ⟨by omega, by have := A.closed.1; omega⟩ (by rw [clsF]; exact class_zero A) (by
    intro s d ⟨h0, h1⟩ hd0 hd1
    obtain ⟨k, rfl⟩ := Int.eq_ofNat_of_zero_le h0
    obtain ⟨e, rfl⟩ := Int.eq_ofNat_of_zero_le hd0
    have hk : k < rows.length := by omega
    have he : e < n := by omega
    have h2 := next_lt A hk he
    have h3 : nextS rows (k : Int) (e : Int) = (rows.getD k []).getD e 0 := rfl
    rw [h3]
    refine ⟨⟨h2.1, by omega⟩, ?_⟩
    have hq := (rowsQ_at A hk).1
    have h4 : nextS (rowsQ rows out) (clsF rows out (k : Int)) (e : Int) = (rowOf (rowsQ rows out) ((classes rows out).getD k 0)).getD e 0 := rfl
    rw [h4, hq]
    have hl : e < (rows.getD k []).length := by
      rw [A.width _ (by rw [List.getD_eq_getElem?_getD, List.getElem?_eq_getElem hk]; exact List.getElem_mem hk)]
      exact he
    rw [List.getD_eq_getElem?_getD (l := List.map _ _), List.getElem?_map, List.getD_eq_getElem?_getD (l := rows.getD k []), List.getElem?_eq_getElem hl]
    rfl) ds hd
  refine ⟨h.1, ?_⟩
  rw [← h.2]
  obtain ⟨k, hk⟩ := Int.eq_ofNat_of_zero_le h.1.1
  have hkl : k < rows.length := by have := h.1.2; omega
  rw [hk, clsF, Int.toNat_natCast]
  exact (rowsQ_at A hkl).2
/-- The automaton of the reached states in their order has the terms of the automaton. -/
theorem search_out {Q : List (List Int)} {o : List Int} {n : Nat} (A : Auto Q o n) (ds : List Int) (hd : ∀ d ∈ ds, 0 ≤ d ∧ d < (n : Int)) :
    (searchO Q o).getD (afterS (searchR Q) ds).toNat 0 = o.getD (afterS Q ds).toNat 0 := by
  have hz := reached_zero Q
  have hnd : (reached Q).Nodup := (reachI_ok A.closed _).1
  have hb : ∀ s ∈ reached Q, 0 ≤ s ∧ s < Q.length := (reachI_ok A.closed _).2
  have h := after_sim (rows := Q) (rows' := searchR Q) (b := n) (fun s => (ix (reached Q) s : Int)) (fun s => s ∈ reached Q) (List.mem_of_getElem? hz) (by rw [idxOf_get hnd hz]; rfl) (by
    intro s d hs hd0 hd1
    obtain ⟨k, rfl⟩ := Int.eq_ofNat_of_zero_le (hb s hs).1
    obtain ⟨e, rfl⟩ := Int.eq_ofNat_of_zero_le hd0
    have hk : k < Q.length := by have := (hb _ hs).2; omega
    have he : e < n := by omega
    have hr : rowOf Q (k : Int) = Q.getD k [] := rfl
    have hl : e < (rowOf Q (k : Int)).length := by
      rw [A.width _ (rowOf_mem (by omega) (by omega))]
      exact he
    have h3 : nextS Q (k : Int) (e : Int) = (rowOf Q (k : Int))[e] := by
      show (rowOf Q (k : Int)).getD e 0 = _
      rw [List.getD_eq_getElem?_getD, List.getElem?_eq_getElem hl]
      rfl
    rw [h3]
    refine ⟨reached_next A.closed hs (List.getElem_mem hl), ?_⟩
    have hg := get_idxOf hs
    have h4 : nextS (searchR Q) (ix (reached Q) (k : Int) : Int) (e : Int) = ((searchR Q).getD (ix (reached Q) (k : Int)) []).getD e 0 := rfl
    rw [h4, searchR, List.getD_eq_getElem?_getD (l := List.map _ _), List.getElem?_map, hg, Option.map_some, Option.getD_some, minRow, List.getD_eq_getElem?_getD, List.getElem?_map, List.getElem?_eq_getElem hl]
    rfl) ds hd
  rw [← h.2, searchO, Int.toNat_natCast, List.getD_eq_getElem?_getD, List.getElem?_map, get_idxOf h.1, Option.map_some, Option.getD_some]
/-- The minimal automaton has the terms of the automaton. -/
theorem min_out {rows : List (List Int)} {out : List Int} {n : Nat} (A : Auto rows out n) (ds : List Int) (hd : ∀ d ∈ ds, 0 ≤ d ∧ d < (n : Int)) :
    (minO rows out).getD (afterS (minR rows out) ds).toNat 0 = out.getD (afterS rows ds).toNat 0 := by
  rw [minO, minR, search_out (rowsQ_auto A) ds hd, (quot_out A ds hd).2]
end Mins
end Go.Proofs.Ytgbgcaaekpgapac
/- The steady form has the terms of the sequence, and so has the minimal form. No conditions beyond those that each fact states. -/
namespace Go.Proofs.Ytgbgcaaekpgapac
open Go.ChangeShapes Go.WideShapes Go.ChangeAt Go.RowKit
open Go.PlainAid Plain
set_option linter.unusedVariables false
namespace Mins
open Seqs Digits
theorem lows_last (b : Nat) (hb : 2 ≤ b) : ∀ (f n : Nat), 0 < n → n < b ^ f → ∃ (l : List Int) (d : Int), lows b f n = l ++ [d] ∧ d ≠ 0 := by
  intro f
  induction f with
  | zero => intro n h0 h1; simp at h1; omega
  | succ f ih =>
    intro n h0 h1
    rw [lows_succ b f n h0]
    by_cases hz : n / b = 0
    · rw [hz, lows_zero]
      have h2 : n < b := by
        rcases Nat.lt_or_ge n b with h | h
        · exact h
        · have := Nat.div_pos h (by omega); omega
      rw [Nat.mod_eq_of_lt h2]
      exact ⟨[], (n : Int), rfl, by omega⟩
    · obtain ⟨l, d, hl, hd⟩ := ih (n / b) (Nat.pos_of_ne_zero hz) (Nat.div_lt_of_lt_mul (by rw [Nat.pow_succ, Nat.mul_comm] at h1; exact h1))
      exact ⟨((n % b : Nat) : Int) :: l, d, by rw [hl]; rfl, hd⟩
theorem digs_head (n b : Nat) (hb : 2 ≤ b) (hn : n < b ^ 16) : digs n b = [] ∨ ∃ d l, digs n b = d :: l ∧ d ≠ 0 := by
  rcases Nat.eq_zero_or_pos n with rfl | h0
  · left
    rw [digs, lows_zero]
    rfl
  · right
    obtain ⟨l, d, hl, hd⟩ := lows_last b hb 16 n h0 hn
    exact ⟨d, l.reverse, by rw [digs, hl]; simp, hd⟩
theorem digV_head (n b : Int) : digV n b = [] ∨ ∃ d l, digV n b = d :: l ∧ d ≠ 0 := by
  unfold digV
  split
  · rename_i h
    obtain ⟨h1, h2, h3, h4⟩ := h
    obtain ⟨bn, rfl⟩ := Int.eq_ofNat_of_zero_le (show 0 ≤ b by omega)
    obtain ⟨m, rfl⟩ := Int.eq_ofNat_of_zero_le h3
    rw [powV_in bn (by omega) (by omega)] at h4
    exact digs_head m bn (by omega) (Int.ofNat_lt.1 h4)
  · exact .inl rfl
theorem steady_fold {rows : List (List Int)} {out : List Int} {n : Nat} (A : Auto rows out n) : ∀ (l : List Int) (s : Int), 0 ≤ s → s < rows.length → (∀ d ∈ l, 0 ≤ d ∧ d < (n : Int)) →
    l.foldl (nextS (steadyRows rows)) (s + 1) = l.foldl (nextS rows) s + 1 ∧ 0 ≤ l.foldl (nextS rows) s := by
  intro l
  induction l with
  | nil => intro s h0 _ _; exact ⟨rfl, h0⟩
  | cons d l ih =>
    intro s h0 h1 hd
    have hdd := hd d List.mem_cons_self
    obtain ⟨k, rfl⟩ := Int.eq_ofNat_of_zero_le h0
    obtain ⟨e, rfl⟩ := Int.eq_ofNat_of_zero_le hdd.1
    have hk : k < rows.length := by omega
    have he : e < n := by have := hdd.2; omega
    have h2 := next_lt A hk he
    have h3 : nextS rows (k : Int) (e : Int) = (rows.getD k []).getD e 0 := rfl
    have hl : e < (rows.getD k []).length := by
      rw [A.width _ (by rw [List.getD_eq_getElem?_getD, List.getElem?_eq_getElem hk]; exact List.getElem_mem hk)]
      exact he
    have h4 : nextS (steadyRows rows) ((k : Int) + 1) (e : Int) = nextS rows (k : Int) (e : Int) + 1 := by
      rw [h3]
      show ((steadyRows rows).getD ((k : Int) + 1).toNat []).getD e 0 = _
      rw [show ((k : Int) + 1).toNat = k + 1 from by omega, steadyRows, List.getD_cons_succ, List.getD_eq_getElem?_getD (l := List.map _ _), List.getElem?_map, List.getElem?_eq_getElem hk, Option.map_some, Option.getD_some]
      have h5 : rows.getD k [] = rows[k] := by rw [List.getD_eq_getElem?_getD, List.getElem?_eq_getElem hk]; rfl
      rw [h5] at hl ⊢
      rw [raise, List.getD_eq_getElem?_getD, List.getElem?_map, List.getElem?_eq_getElem hl, List.getD_eq_getElem?_getD, List.getElem?_eq_getElem hl]
      rfl
    rw [List.foldl_cons, List.foldl_cons, h4]
    exact ih _ (by rw [h3]; exact h2.1) (by rw [h3]; omega) (fun x hx => hd x (List.mem_cons_of_mem _ hx))
theorem steady_out {rows : List (List Int)} {out : List Int} {n : Nat} (A : Auto rows out n) {ds : List Int} (hd : ∀ d ∈ ds, 0 ≤ d ∧ d < (n : Int)) (hh : ds = [] ∨ ∃ d l, ds = d :: l ∧ d ≠ 0) :
    (steadyOut out).getD (afterS (steadyRows rows) ds).toNat 0 = out.getD (afterS rows ds).toNat 0 := by
  rcases hh with rfl | ⟨d, l, rfl, h0⟩
  · rfl
  · have hdd := hd d List.mem_cons_self
    obtain ⟨e, rfl⟩ : ∃ e : Nat, d = (e : Int) + 1 := ⟨(d - 1).toNat, by omega⟩
    have hk : 0 < rows.length := A.closed.1
    have he : e + 1 < n := by have := hdd.2; omega
    have h2 := next_lt A hk he
    have hl : e + 1 < (rows.getD 0 []).length := by
      rw [A.width _ (by rw [List.getD_eq_getElem?_getD, List.getElem?_eq_getElem hk]; exact List.getElem_mem hk)]
      exact he
    have h3 : nextS rows 0 ((e : Int) + 1) = (rows.getD 0 []).getD (e + 1) 0 := rfl
    have h4 : nextS (steadyRows rows) 0 ((e : Int) + 1) = nextS rows 0 ((e : Int) + 1) + 1 := by
      rw [h3]
      show ((steadyRows rows).getD 0 []).getD (e + 1) 0 = _
      rw [steadyRows, List.getD_cons_zero, List.getD_cons_succ, raise, List.getD_eq_getElem?_getD, List.getElem?_map, List.getElem?_drop, Nat.add_comm 1 e, List.getElem?_eq_getElem hl, List.getD_eq_getElem?_getD (l := rows.getD 0 []), List.getElem?_eq_getElem hl]
      rfl
    have h5 := steady_fold A l (nextS rows 0 ((e : Int) + 1)) (by rw [h3]; exact h2.1) (by rw [h3]; omega) (fun x hx => hd x (List.mem_cons_of_mem _ hx))
    have h6 : afterS (steadyRows rows) (((e : Int) + 1) :: l) = afterS rows (((e : Int) + 1) :: l) + 1 := by
      show List.foldl _ _ _ = List.foldl _ _ _ + 1
      rw [List.foldl_cons, List.foldl_cons, h4]
      exact h5.1
    have h7 : 0 ≤ afterS rows (((e : Int) + 1) :: l) := h5.2
    rw [h6, show (afterS rows (((e : Int) + 1) :: l) + 1).toNat = (afterS rows (((e : Int) + 1) :: l)).toNat + 1 from by omega, steadyOut, List.getD_cons_succ]
/-- The minimal form has the terms of the sequence. -/
theorem min_term {b : Int} {rows : List (List Int)} {out : List Int} (hk : formK b rows out = true) (j : Nat) : termG b (minRV b rows out) (minOV b rows out) j = termG b rows out j := by
  have hv := form_valid hk
  have hB : formB b rows out = b := by rw [formB, if_pos hk]
  rw [hB] at hv
  have hA := hv.auto
  have hd := (dig_ok hv (j : Int)).1
  have hd' : ∀ d ∈ digV (j : Int) b, 0 ≤ d ∧ d < ((b.toNat : Nat) : Int) := fun d h => by have := hd d h; omega
  rw [minRV, if_pos hk, minOV, if_pos hk, termG, min_out hA _ hd', termG]
  rcases form_parts b rows out with ⟨_, _, _, h2, h3⟩ | ⟨h1, _⟩ | ⟨hq, _, _, _, _, h2, h3⟩
  · rw [h2, h3]
  · rw [hk] at h1; cases h1
  · rw [h2, h3]
    have hq' := (seqB_out hq).auto
    exact steady_out hq' hd' (digV_head _ _)
end Mins
end Go.Proofs.Ytgbgcaaekpgapac
