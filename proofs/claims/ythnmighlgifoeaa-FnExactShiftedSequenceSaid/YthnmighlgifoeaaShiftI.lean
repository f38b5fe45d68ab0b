/- Contract of ShiftedSequence of the program. No conditions beyond those that it states. -/
import Derived.Test.YthnmighlgifoeaaSearchP
import Derived.Test.YthnmighlgifoeaaShiftC
import Derived.Test.YthnmighlgifoeaaSeqFormV
import Derived.Deep.DeepCutAuto
import Derived.BigRegion
namespace Go.Proofs.Ythnmighlgifoeaa
open Go.ChangeShapes Go.WideShapes Go.ChangeAt Go.RowKit
open Go.PlainAid Plain
set_option linter.unusedVariables false
namespace Comb
open Seqs
def shStart (rows : List (List Int)) : Pr := (0, nextS rows 0 1)
def shK (b : Int) (rows : List (List Int)) (out : List Int) : Bool := formK b rows out && pairK (shStart (formR b rows out)) (nxN b.toNat (formR b rows out)) b.toNat
def shB (b : Int) (rows : List (List Int)) (out : List Int) : Int := if formK b rows out = true then pB (shStart (formR b rows out)) (nxN b.toNat (formR b rows out)) b.toNat else 0
def shR (b : Int) (rows : List (List Int)) (out : List Int) : List (List Int) := if formK b rows out = true then pR (shStart (formR b rows out)) (nxN b.toNat (formR b rows out)) b.toNat else []
def shO (b : Int) (rows : List (List Int)) (out : List Int) : List Int := if formK b rows out = true then pO (shStart (formR b rows out)) (nxN b.toNat (formR b rows out)) b.toNat (tmN (formO b rows out)) else []
theorem sh_no {b : Int} {rows : List (List Int)} {out : List Int} (h : formK b rows out = false) : shB b rows out = 0 ∧ shR b rows out = [] ∧ shO b rows out = [] ∧ shK b rows out = false := by
  unfold shB shR shO shK
  rw [h]
  simp
theorem sh_yes {b : Int} {rows : List (List Int)} {out : List Int} (h : formK b rows out = true) : shB b rows out = pB (shStart (formR b rows out)) (nxN b.toNat (formR b rows out)) b.toNat ∧ shR b rows out = pR (shStart (formR b rows out)) (nxN b.toNat (formR b rows out)) b.toNat ∧ shO b rows out = pO (shStart (formR b rows out)) (nxN b.toNat (formR b rows out)) b.toNat (tmN (formO b rows out)) ∧ shK b rows out = pairK (shStart (formR b rows out)) (nxN b.toNat (formR b rows out)) b.toNat := by
  unfold shB shR shO shK
  rw [h]
  simp
theorem form_base {b : Int} {rows : List (List Int)} {out : List Int} (h : formK b rows out = true) : formB b rows out = b := by unfold formB; rw [if_pos h]
set_option maxRecDepth 100000 in
set_option maxHeartbeats 2000000 in
theorem impl_shift (v : Value) (b : Int) (rows : List (List Int)) (out : List Int) (w : World) (h : LiesS w v b rows out) (hs : rows.length + tot rows + out.length ≤ 1048576) :
    Calls Try.prog 18 #[v] w (GivesK (shB b rows out) (shR b rows out) (shO b rows out) (shK b rows out) w) := by
  obtain ⟨yb, hyb⟩ : ∃ y, y = shB b rows out := ⟨_, rfl⟩
  obtain ⟨yr, hyr⟩ : ∃ y, y = shR b rows out := ⟨_, rfl⟩
  obtain ⟨yo, hyo⟩ : ∃ y, y = shO b rows out := ⟨_, rfl⟩
  obtain ⟨yk, hyk⟩ : ∃ y, y = shK b rows out := ⟨_, rfl⟩
  have HYE := Lib.hid (show yb = shB b rows out ∧ yr = shR b rows out ∧ yo = shO b rows out ∧ yk = shK b rows out from ⟨hyb, hyr, hyo, hyk⟩)
  rw [← hyb, ← hyr, ← hyo, ← hyk]
  clear hyb hyr hyo hyk
  have HS := Lib.hid h
  have HF := Lib.hid (fun (W : World) (hW : Below w.heap.size w W) => impl_form _ b rows out W (HS.out.below hW) hs)
  obtain ⟨an, cn, ao, co, rfl⟩ := h.form
  clear h hs
  have hZ := Cells3.new (w.alloc (Obj.cells #[Value.int .i64 b, Value.slice an rows.length cn, Value.slice ao out.length co] 27)) 27 (.int .i64 0) (.slice none 0 0) (.slice none 0 0)
  rw [size_alloc'] at hZ
  have HA0 := Lib.hid ((Cells3.new w 27 (.int .i64 b) (.slice an rows.length cn) (.slice ao out.length co)).alloc (Obj.cells #[Value.int .i64 0, Value.slice none 0 0, Value.slice none 0 0] 27))
  have HZ1 := Lib.hid hZ
  have HB1 : Hid (Below w.heap.size w ((w.alloc (Obj.cells #[Value.int .i64 b, Value.slice an rows.length cn, Value.slice ao out.length co] 27)).alloc (Obj.cells #[Value.int .i64 0, Value.slice none 0 0, Value.slice none 0 0] 27))) := ((Below.refl _ _).alloc (Nat.le_refl _) _).alloc (by simp only [size_alloc'] <;> omega) _
  obtain ⟨fb, hfb⟩ : ∃ x, x = formB b rows out := ⟨_, rfl⟩
  obtain ⟨RR, hRR⟩ : ∃ x, x = formR b rows out := ⟨_, rfl⟩
  obtain ⟨OO, hOO⟩ : ∃ x, x = formO b rows out := ⟨_, rfl⟩
  obtain ⟨q, hq⟩ : ∃ x, x = formK b rows out := ⟨_, rfl⟩
  rw [← hfb, ← hRR, ← hOO, ← hq] at HF
  have HFE := Lib.hid (show fb = formB b rows out ∧ RR = formR b rows out ∧ OO = formO b rows out ∧ q = formK b rows out from ⟨hfb, hRR, hOO, hq⟩)
  clear hZ hfb hRR hOO hq
  go_enter Try.func18, Try.ntmps18
  go_wp2_with fail
  refine (HF.out _ HB1.out).mono ?_
  rintro e W1 ⟨rv, rfl, hrv, b1⟩
  obtain ⟨an5, cn5, ao5, co5, rfl⟩ := hrv.form
  have HZa := Lib.hid (HZ1.out.below b1)
  have HAa := Lib.hid (HA0.out.below b1)
  have HBa := Lib.hid (HB1.out.trans (b1.mono HB1.out.size))
  have HRV := Lib.hid hrv
  clear hrv b1 HB1 HZ1 HA0
  cases q with
  | false =>
    have HNO := Lib.hid (sh_no HFE.out.2.2.2.symm)
    have HZR := Lib.hid (HZa.out.alloc (.cells #[.int .i64 fb, .slice an5 RR.length cn5, .slice ao5 OO.length co5] 27))
    have HBR := Lib.hid (HBa.out.alloc HBa.out.size (.cells #[.int .i64 fb, .slice an5 RR.length cn5, .slice ao5 OO.length co5] 27))
    clear HZa HBa
    have hy := HYE.out
    rw [HNO.out.1, HNO.out.2.1, HNO.out.2.2.1, HNO.out.2.2.2] at hy
    obtain ⟨rfl, rfl, rfl, rfl⟩ := hy
    have z0 := HZR.out.c0
    have z1 := HZR.out.c1
    have z2 := HZR.out.c2
    have z3 := HZR.out.f
    go_wp2
    have hZ3 := (((HZR.out.set0 (.int .i64 0)).set1 (.slice none 0 0)).set2 (.slice none 0 0))
    have n0 := hZ3.c0
    have n1 := hZ3.c1
    have n2 := hZ3.c2
    refine bodyPost_ret (v := .tuple #[.agg #[.int .i64 0, .slice none 0 0, .slice none 0 0], .bool false]) (by simp [results, Try.results18, go_sem, n0, n1, n2]) rfl ⟨_, rfl, OwnS.zero _, ?_⟩
    exact ((HBR.out.setCell (by show _ ≤ _ + 1; omega) _).setCell (by show _ ≤ _ + 1; omega) _).setCell (by show _ ≤ _ + 1; omega) _
  | true =>
    have hk := HFE.out.2.2.2.symm
    have hv := Mins.form_valid hk
    rw [← HFE.out.1, ← HFE.out.2.1, ← HFE.out.2.2.1] at hv
    have hfb : fb = b := HFE.out.1.trans (form_base hk)
    subst hfb
    have HYY := Lib.hid (sh_yes hk)
    have hy := HYE.out
    rw [HYY.out.1, HYY.out.2.1, HYY.out.2.2.1, HYY.out.2.2.2, ← HFE.out.2.1, ← HFE.out.2.2.1] at hy
    obtain ⟨bn, rfl⟩ : ∃ n : Nat, fb = (n : Int) := ⟨fb.toNat, by have := hv.1; omega⟩
    have hb2 : 2 ≤ bn := by have := hv.1; omega
    have hb4 : bn ≤ 4 := by have := hv.2.1; omega
    have hwk := walksN hv
    rw [Int.toNat_natCast] at hy hwk
    have hr0 : 0 < RR.length := by have := hv.2.2.1; omega
    obtain ⟨p, o, q, t, c, n, he, a1, hn, a2⟩ := step_cells HRV.out.lies hv hr0 (d := 1) (by omega)
    subst he
    rw [Nat.add_zero] at a1
    obtain ⟨n1, hn1⟩ : ∃ n, n = nextS RR 0 1 := ⟨_, rfl⟩
    rw [show nextS RR ((0 : Nat) : Int) ((1 : Nat) : Int) = n1 from hn1.symm] at a2
    rw [show shStart RR = (0, n1) from by rw [hn1]; rfl] at hy
    rw [← hn1] at hwk
    have HYP := Lib.hid hy
    have HWK := Lib.hid hwk
    have HV := Lib.hid hv
    have hbs : Below W1.heap.size W1 (W1.alloc (Obj.cells #[Value.int .i64 (bn : Int), Value.slice (some ⟨p, o, none⟩) RR.length cn5, Value.slice ao5 OO.length co5] 27)) := (Below.refl _ _).alloc (Nat.le_refl _) _
    have HBS := Lib.hid hbs
    have HBX := Lib.hid (Cells3.new W1 27 (.int .i64 (bn : Int)) (.slice (some ⟨p, o, none⟩) RR.length cn5) (.slice ao5 OO.length co5))
    have HSV := Lib.hid (HRV.out.lies.below hbs)
    have HA1 := Lib.hid (old_cellC hbs a1)
    have HA2 := Lib.hid (old_cellC hbs a2)
    have HZb := Lib.hid (HZa.out.below hbs)
    have HBb := Lib.hid (HBa.out.trans (hbs.mono HBa.out.size))
    have HAb := Lib.hid (HAa.out.below hbs)
    have HLO := Lib.hid (show w.heap.size + 2 ≤ W1.heap.size by have := HZa.out.lt; omega)
    clear hy hwk hv hbs a1 a2 hn1 hk HZa HBa HAa
    obtain ⟨W2, hW2⟩ : ∃ W, W = W1.alloc (Obj.cells #[Value.int .i64 (bn : Int), Value.slice (some ⟨p, o, none⟩) RR.length cn5, Value.slice ao5 OO.length co5] 27) := ⟨_, rfl⟩
    have HSZ := Lib.hid (show W2.heap.size = W1.heap.size + 1 by rw [hW2, size_alloc'])
    rw [← hW2] at HBS HBX HSV HA1 HA2 HZb HBb HAb
    have HSP := Lib.hid (fun (W : World) (hW : Below W2.heap.size W2 W) => searched_pairs bn hb2 hb4 0 n1 (nxN bn RR) (tmN OO) (OkN RR) HWK.out 53 54 #[.agg #[.int .i64 (bn : Int), .slice (some ⟨p, o, none⟩) RR.length cn5, .slice ao5 OO.length co5]] #[] #[] #[.pointer (some ⟨W1.heap.size, 0, none⟩)]
      (enters_of Try.func53 (by kernel_rfl) rfl) (enters_of Try.func54 (by kernel_rfl) rfl) W
      (fun W' hW' x y hok d hdd => by
        obtain ⟨x, rfl⟩ := Int.eq_ofNat_of_zero_le hok.1.1
        obtain ⟨y, rfl⟩ := Int.eq_ofNat_of_zero_le hok.2.1
        have hb := hW.trans (hW'.mono hW.size)
        have hc := shift_next (bn : Int) RR OO (some ⟨p, o, none⟩) ao5 cn5 co5 W' (HSV.out.below hb) HV.out x y d (by have := hok.1.2; omega) (by have := hok.2.2; omega) (by omega)
        rw [Int.toNat_natCast] at hc
        exact hc)
      (fun W' hW' x y hok => by
        obtain ⟨y, rfl⟩ := Int.eq_ofNat_of_zero_le hok.2.1
        have hb := hW.trans (hW'.mono hW.size)
        exact shift_term (bn : Int) RR OO (some ⟨p, o, none⟩) ao5 cn5 co5 W' _ (HSV.out.below hb) (HBX.out.below hb) HV.out x _ y rfl (by have := hok.2.2; omega)))
    rw [← HYP.out.1, ← HYP.out.2.1, ← HYP.out.2.2.1, ← HYP.out.2.2.2] at HSP
    have k0 := HBX.out.c0
    have k1 := HBX.out.c1
    have k2 := HBX.out.c2
    have s0 := HAb.out.c0
    have e1 := HA1.out
    have e2 := HA2.out
    have h2z : Below W2.heap.size W2 (W2.alloc (.cells #[.int .i64 0, .int .i64 0, .int .i64 0, .nilFunc, .nilFunc] 61)) := (Below.refl _ _).alloc (Nat.le_refl _) _
    have k0a := (HBX.out.below h2z).c0
    have k1a := (HBX.out.below h2z).c1
    have k2a := (HBX.out.below h2z).c2
    have s0a := (HAb.out.below h2z).c0
    have e1a := old_cellC h2z HA1.out
    have e2a := old_cellC h2z HA2.out
    have c5 := CellsN.new W2 61 [.int .i64 0, .int .i64 0, .int .i64 0, .nilFunc, .nilFunc]
    have hrl : (0 : Int) < (RR.length : Int) := by omega
    have hnl : (1 : Int) < (n : Int) := by omega
    have HTT := Lib.hid hW2
    go_upto_region 4 with fail
    rw [← hW2]
    clear hW2
    go_cut [6] (fun s wx => ∃ q : Nat, s = .pointer (some ⟨q, 0, none⟩) ∧ Hid (W2.heap.size ≤ q) ∧ Hid (Below W2.heap.size W2 wx) ∧ Hid (CellsN wx q 61 [.int .i64 (bn : Int), .int .i64 0, .int .i64 n1, .func (.func 53) #[.agg #[.int .i64 (bn : Int), .slice (some ⟨p, o, none⟩) RR.length cn5, .slice ao5 OO.length co5]] #[], .func (.func 54) #[] #[.pointer (some ⟨W1.heap.size, 0, none⟩)]]))
    case first =>
      go_region
      all_goals go_wp2_with fail
      all_goals go_meet
      have hz7 : Below W2.heap.size W2 (W2.alloc (.cells [.int .i64 (bn : Int), .int .i64 0, .int .i64 n1, .func (.func 53) #[.agg #[.int .i64 (bn : Int), .slice (some ⟨p, o, none⟩) RR.length cn5, .slice ao5 OO.length co5]] #[], .func (.func 54) #[] #[.pointer (some ⟨W1.heap.size, 0, none⟩)]].toArray 61)) := (Below.refl _ _).alloc (Nat.le_refl _) _
      exact ⟨_, rfl, Nat.le_refl _, hz7.trans ((below_drew' _).mono hz7.size), (CellsN.new W2 61 [.int .i64 (bn : Int), .int .i64 0, .int .i64 n1, .func (.func 53) #[.agg #[.int .i64 (bn : Int), .slice (some ⟨p, o, none⟩) RR.length cn5, .slice ao5 OO.length co5]] #[], .func (.func 54) #[] #[.pointer (some ⟨W1.heap.size, 0, none⟩)]]).drew⟩
    case rest =>
      obtain ⟨q, rfl, HQ, HBQ, HCQ⟩ := hcut
      obtain ⟨W5, rfl⟩ : ∃ W : World, W = wc := ⟨_, rfl⟩
      have HZc := Lib.hid (HZb.out.below HBQ.out)
      have HBc := Lib.hid (HBb.out.trans (HBQ.out.mono HBb.out.size))
      have f0 := HCQ.out.at_ (i := 0) rfl
      have f1 := HCQ.out.at_ (i := 1) rfl
      have f2 := HCQ.out.at_ (i := 2) rfl
      have f3 := HCQ.out.at_ (i := 3) rfl
      have f4 := HCQ.out.at_ (i := 4) rfl
      clear k0 k1 k2 s0 e1 e2 h2z k0a k1a k2a s0a e1a e2a c5 hrl hnl hn HBX HSV HA1 HA2 HAb HBb
      go_wp2_with fail
      refine (HSP.out _ HBQ.out).mono ?_
      rintro e W6 ⟨rv, rfl, hrv, b5⟩
      obtain ⟨an6, cn6, ao6, co6, rfl⟩ := hrv.form
      have HR5 := Lib.hid hrv
      have HZ5 := Lib.hid (HZc.out.below b5)
      have HB5 := Lib.hid (HBc.out.trans (b5.mono HBc.out.size))
      have HL5 := Lib.hid (show w.heap.size + 2 ≤ W5.heap.size by have h1 := HBQ.out.size; have h2 := HSZ.out; have h3 := HLO.out; omega)
      have z0 := HZ5.out.c0
      have z1 := HZ5.out.c1
      have z2 := HZ5.out.c2
      have z3 := HZ5.out.f
      have h55 := b5.size
      clear hrv b5
      go_wp2
      have hZ3 := (((HZ5.out.set0 (.int .i64 yb)).set1 (.slice an6 yr.length cn6)).set2 (.slice ao6 yo.length co6))
      have m0 := hZ3.c0
      have m1 := hZ3.c1
      have m2 := hZ3.c2
      refine bodyPost_ret (v := .tuple #[.agg #[.int .i64 yb, .slice an6 yr.length cn6, .slice ao6 yo.length co6], .bool yk]) (by simp [results, Try.results18, go_sem, m0, m1, m2]) rfl ⟨_, rfl, ?_, ?_⟩
      · have hT : ∀ (i : Nat) (u : Value) (W : World), Plain.Touch (w.heap.size + 1) (w.heap.size + 2) W (W.setCell ⟨w.heap.size + 1, i, none⟩ u) := fun i u W => Plain.Touch.of_set (a := ⟨w.heap.size + 1, i, none⟩) u (Nat.le_refl _) (Nat.lt_succ_self _)
        have T0 : Plain.Touch (w.heap.size + 1) (w.heap.size + 2) W6 (((W6.setCell ⟨w.heap.size + 1, 0, none⟩ (.int .i64 yb)).setCell ⟨w.heap.size + 1, 1, none⟩ (.slice an6 yr.length cn6)).setCell ⟨w.heap.size + 1, 2, none⟩ (.slice ao6 yo.length co6)) := ((hT 0 _ _).trans (hT 1 _ _)).trans (hT 2 _ _)
        have := (HR5.out.touch T0 (.inr HL5.out)).lower (show w.heap.size ≤ _ by have := HL5.out; omega)
        simpa only [size_setCell'] using this
      · exact ((HB5.out.setCell (by show _ ≤ _ + 1; omega) _).setCell (by show _ ≤ _ + 1; omega) _).setCell (by show _ ≤ _ + 1; omega) _
end Comb
end Go.Proofs.Ythnmighlgifoeaa
