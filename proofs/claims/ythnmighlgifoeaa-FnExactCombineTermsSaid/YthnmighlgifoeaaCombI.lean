/- Contract of CombineTerms of the program. No conditions beyond those that it states. -/
import Derived.Test.YthnmighlgifoeaaSearchP
import Derived.Test.YthnmighlgifoeaaCombC
namespace Go.Proofs.Ythnmighlgifoeaa
open Go.ChangeShapes Go.WideShapes Go.ChangeAt Go.RowKit
open Go.PlainAid Plain
set_option linter.unusedVariables false
namespace Comb
open Seqs
def nxC (ra rb : List (List Int)) : Pr → Nat → Pr := fun s d => (nextS ra s.1 d, nextS rb s.2 d)
def tmC (oa ob : List Int) (how : Int) : Pr → Int := fun s => combW (oa.getD s.1.toNat 0) (ob.getD s.2.toNat 0) how
def OkC (ra rb : List (List Int)) : Pr → Prop := fun s => (0 ≤ s.1 ∧ s.1 < (ra.length : Int)) ∧ 0 ≤ s.2 ∧ s.2 < (rb.length : Int)
theorem walksC {b : Int} {ra rb : List (List Int)} {oa ob : List Int} (va : IsSeq b ra oa) (vb : IsSeq b rb ob) : Walks (0, 0) (nxC ra rb) b.toNat (OkC ra rb) := by
  refine ⟨⟨⟨Int.le_refl _, by have := va.2.2.1; show (0 : Int) < _; omega⟩, Int.le_refl _, by have := vb.2.2.1; show (0 : Int) < _; omega⟩, fun s hs d hd => ?_⟩
  have hdb : (d : Int) < b := by omega
  obtain ⟨_, _, _, h1⟩ := va.next hs.1.1 hs.1.2 (Int.natCast_nonneg d) hdb
  obtain ⟨_, _, _, h2⟩ := vb.next hs.2.1 hs.2.2 (Int.natCast_nonneg d) hdb
  exact ⟨h1, h2⟩
def combOK (b b' : Int) (ra rb : List (List Int)) (oa ob : List Int) (how : Int) : Bool := (seqB b ra oa && seqB b' rb ob) && (decide (b = b') && decide (1 ≤ how ∧ how ≤ 4))
def cmK (b b' : Int) (ra rb : List (List Int)) (oa ob : List Int) (how : Int) : Bool := combOK b b' ra rb oa ob how && pairK (0, 0) (nxC ra rb) b.toNat
def cmB (b b' : Int) (ra rb : List (List Int)) (oa ob : List Int) (how : Int) : Int := if combOK b b' ra rb oa ob how = true then pB (0, 0) (nxC ra rb) b.toNat else 0
def cmR (b b' : Int) (ra rb : List (List Int)) (oa ob : List Int) (how : Int) : List (List Int) := if combOK b b' ra rb oa ob how = true then pR (0, 0) (nxC ra rb) b.toNat else []
def cmO (b b' : Int) (ra rb : List (List Int)) (oa ob : List Int) (how : Int) : List Int := if combOK b b' ra rb oa ob how = true then pO (0, 0) (nxC ra rb) b.toNat (tmC oa ob how) else []
theorem cm_no {b b' : Int} {ra rb : List (List Int)} {oa ob : List Int} {how : Int} (h : combOK b b' ra rb oa ob how = false) : cmB b b' ra rb oa ob how = 0 ∧ cmR b b' ra rb oa ob how = [] ∧ cmO b b' ra rb oa ob how = [] ∧ cmK b b' ra rb oa ob how = false := by
  unfold cmB cmR cmO cmK
  rw [h]
  simp
theorem cm_yes {b b' : Int} {ra rb : List (List Int)} {oa ob : List Int} {how : Int} (h : combOK b b' ra rb oa ob how = true) : cmB b b' ra rb oa ob how = pB (0, 0) (nxC ra rb) b.toNat ∧ cmR b b' ra rb oa ob how = pR (0, 0) (nxC ra rb) b.toNat ∧ cmO b b' ra rb oa ob how = pO (0, 0) (nxC ra rb) b.toNat (tmC oa ob how) ∧ cmK b b' ra rb oa ob how = pairK (0, 0) (nxC ra rb) b.toNat := by
  unfold cmB cmR cmO cmK
  rw [h]
  simp
set_option maxRecDepth 100000 in
set_option maxHeartbeats 2000000 in
theorem impl_comb (u v : Value) (b b' : Int) (ra rb : List (List Int)) (oa ob : List Int) (how : Int) (w : World) (h1 : LiesS w u b ra oa) (h2 : LiesS w v b' rb ob) :
    Calls Try.prog 13 #[u, v, .int .i64 how] w (GivesK (cmB b b' ra rb oa ob how) (cmR b b' ra rb oa ob how) (cmO b b' ra rb oa ob how) (cmK b b' ra rb oa ob how) w) := by
  obtain ⟨yb, hyb⟩ : ∃ y, y = cmB b b' ra rb oa ob how := ⟨_, rfl⟩
  obtain ⟨yr, hyr⟩ : ∃ y, y = cmR b b' ra rb oa ob how := ⟨_, rfl⟩
  obtain ⟨yo, hyo⟩ : ∃ y, y = cmO b b' ra rb oa ob how := ⟨_, rfl⟩
  obtain ⟨yk, hyk⟩ : ∃ y, y = cmK b b' ra rb oa ob how := ⟨_, rfl⟩
  have HYE := Lib.hid (show yb = cmB b b' ra rb oa ob how ∧ yr = cmR b b' ra rb oa ob how ∧ yo = cmO b b' ra rb oa ob how ∧ yk = cmK b b' ra rb oa ob how from ⟨hyb, hyr, hyo, hyk⟩)
  rw [← hyb, ← hyr, ← hyo, ← hyk]
  clear hyb hyr hyo hyk
  have HSA := Lib.hid h1
  have HSB := Lib.hid h2
  obtain ⟨ana, cna, aoa, coa, rfl⟩ := h1.form
  obtain ⟨anb, cnb, aob, cob, rfl⟩ := h2.form
  clear h1 h2
  have hA := ((Cells3.new w 27 (.int .i64 b) (.slice ana ra.length cna) (.slice aoa oa.length coa)).alloc (Obj.cells #[Value.int .i64 b', .slice anb rb.length cnb, .slice aob ob.length cob] 27)).alloc (Obj.cells #[Value.int .i64 0, Value.slice none 0 0, Value.slice none 0 0] 27)
  have hBo := (Cells3.new (w.alloc (Obj.cells #[Value.int .i64 b, .slice ana ra.length cna, .slice aoa oa.length coa] 27)) 27 (.int .i64 b') (.slice anb rb.length cnb) (.slice aob ob.length cob)).alloc (Obj.cells #[Value.int .i64 0, Value.slice none 0 0, Value.slice none 0 0] 27)
  have hZ := Cells3.new ((w.alloc (Obj.cells #[Value.int .i64 b, .slice ana ra.length cna, .slice aoa oa.length coa] 27)).alloc (Obj.cells #[Value.int .i64 b', .slice anb rb.length cnb, .slice aob ob.length cob] 27)) 27 (.int .i64 0) (.slice none 0 0) (.slice none 0 0)
  rw [size_alloc'] at hBo
  rw [size_alloc', size_alloc'] at hZ
  have HA1 := Lib.hid hA
  have HO1 := Lib.hid hBo
  have HZ1 := Lib.hid hZ
  have HB1 : Hid (Below w.heap.size w (((w.alloc (Obj.cells #[Value.int .i64 b, .slice ana ra.length cna, .slice aoa oa.length coa] 27)).alloc (Obj.cells #[Value.int .i64 b', .slice anb rb.length cnb, .slice aob ob.length cob] 27)).alloc (Obj.cells #[Value.int .i64 0, Value.slice none 0 0, Value.slice none 0 0] 27))) := (((Below.refl _ _).alloc (Nat.le_refl _) _).alloc (by simp only [size_alloc'] <;> omega) _).alloc (by simp only [size_alloc'] <;> omega) _
  clear hA hBo hZ
  by_cases hh : 1 ≤ how ∧ how ≤ 4
  case neg =>
    have HNO := Lib.hid (cm_no (show combOK b b' ra rb oa ob how = false by unfold combOK; rw [decide_eq_false hh]; simp))
    have HW := Lib.hid (fun W => way_no how W hh)
    clear hh
    go_enter Try.func13, Try.ntmps13
    go_wp2_with fail
    refine (HW.out _).mono ?_
    rintro e W1 ⟨rfl, b1⟩
    have HZa := Lib.hid (HZ1.out.below b1)
    have HBa := Lib.hid (HB1.out.trans (b1.mono HB1.out.size))
    have HZR := Lib.hid (HZa.out.alloc (.cells #[.int .i64 0, .nilFunc] 54))
    have HBR := Lib.hid (HBa.out.alloc HBa.out.size (.cells #[.int .i64 0, .nilFunc] 54))
    clear b1 HA1 HO1 HZ1 HB1 HZa HBa
    have hy := HYE.out
    rw [HNO.out.1, HNO.out.2.1, HNO.out.2.2.1, HNO.out.2.2.2] at hy
    obtain ⟨rfl, rfl, rfl, rfl⟩ := hy
    have z0 := HZR.out.c0
    have z1 := HZR.out.c1
    have z2 := HZR.out.c2
    have z3 := HZR.out.f
    go_wp2
    have hZ3 := (((HZR.out.set0 (.int .i64 0)).set1 (.slice none 0 0)).set2 (.slice none 0 0))
    have n0 := hZ3.c0
    have n1 := hZ3.c1
    have n2 := hZ3.c2
    refine bodyPost_ret (v := .tuple #[.agg #[.int .i64 0, .slice none 0 0, .slice none 0 0], .bool false]) (by simp [results, Try.results13, go_sem, n0, n1, n2]) rfl ⟨_, rfl, OwnS.zero _, ?_⟩
    exact ((HBR.out.setCell (by show _ ≤ _ + 1 + 1; omega) _).setCell (by show _ ≤ _ + 1 + 1; omega) _).setCell (by show _ ≤ _ + 1 + 1; omega) _
  case pos =>
    have HH := Lib.hid hh
    clear hh
    obtain ⟨g, hg⟩ : ∃ g, g = wayF how := ⟨_, rfl⟩
    have HW := Lib.hid (fun W => way_yes how W HH.out)
    rw [← hg] at HW
    have HGE := Lib.hid hg
    clear hg
    obtain ⟨q1, hq1⟩ : ∃ q, q = seqB b ra oa := ⟨_, rfl⟩
    obtain ⟨q2, hq2⟩ : ∃ q, q = seqB b' rb ob := ⟨_, rfl⟩
    have HQ1 := Lib.hid hq1
    have HQ2 := Lib.hid hq2
    have HC1 := Lib.hid (fun (W : World) (hW : Below w.heap.size w W) => impl_is _ b ra oa W (HSA.out.below hW))
    have HC2 := Lib.hid (fun (W : World) (hW : Below w.heap.size w W) => impl_is _ b' rb ob W (HSB.out.below hW))
    rw [← hq1] at HC1
    rw [← hq2] at HC2
    clear hq1 hq2
    go_enter Try.func13, Try.ntmps13
    go_wp2_with fail
    refine (HW.out _).mono ?_
    rintro e W1 ⟨rfl, b1⟩
    have HAa := Lib.hid ((HA1.out.below b1).alloc (.cells #[.int .i64 how, .func (.func g) #[] #[]] 54))
    have HOa := Lib.hid ((HO1.out.below b1).alloc (.cells #[.int .i64 how, .func (.func g) #[] #[]] 54))
    have HZa := Lib.hid ((HZ1.out.below b1).alloc (.cells #[.int .i64 how, .func (.func g) #[] #[]] 54))
    have HWa := Lib.hid (CellsN.new W1 54 [.int .i64 how, .func (.func g) #[] #[]])
    have hBa := HB1.out.trans (b1.mono HB1.out.size)
    have HBa := Lib.hid (hBa.alloc hBa.size (.cells #[.int .i64 how, .func (.func g) #[] #[]] 54))
    have HPW := Lib.hid (show w.heap.size + 3 ≤ W1.heap.size by have := (HZ1.out.below b1).lt; omega)
    clear b1 HA1 HO1 HZ1 HB1 hBa
    have k0 := HAa.out.c0
    have k1 := HAa.out.c1
    have k2 := HAa.out.c2
    go_wp2_with fail
    refine (HC1.out _ HBa.out).mono ?_
    rintro e W2 ⟨rfl, b2⟩
    have HAb := Lib.hid (HAa.out.below b2)
    have HOb := Lib.hid (HOa.out.below b2)
    have HZb := Lib.hid (HZa.out.below b2)
    have HWb := Lib.hid (HWa.out.below b2)
    have HBb := Lib.hid (HBa.out.trans (b2.mono HBa.out.size))
    clear b2 HAa HOa HZa HWa HBa k0 k1 k2
    cases q1 with
    | false =>
      have HNO := Lib.hid (cm_no (how := how) (b' := b') (rb := rb) (ob := ob) (show combOK b b' ra rb oa ob how = false by unfold combOK; rw [← HQ1.out]; simp))
      have HZR := HZb
      have HBR := HBb
      have hy := HYE.out
      rw [HNO.out.1, HNO.out.2.1, HNO.out.2.2.1, HNO.out.2.2.2] at hy
      obtain ⟨rfl, rfl, rfl, rfl⟩ := hy
      have z0 := HZR.out.c0
      have z1 := HZR.out.c1
      have z2 := HZR.out.c2
      have z3 := HZR.out.f
      go_wp2
      have hZ3 := (((HZR.out.set0 (.int .i64 0)).set1 (.slice none 0 0)).set2 (.slice none 0 0))
      have n0 := hZ3.c0
      have n1 := hZ3.c1
      have n2 := hZ3.c2
      refine bodyPost_ret (v := .tuple #[.agg #[.int .i64 0, .slice none 0 0, .slice none 0 0], .bool false]) (by simp [results, Try.results13, go_sem, n0, n1, n2]) rfl ⟨_, rfl, OwnS.zero _, ?_⟩
      exact ((HBR.out.setCell (by show _ ≤ _ + 1 + 1; omega) _).setCell (by show _ ≤ _ + 1 + 1; omega) _).setCell (by show _ ≤ _ + 1 + 1; omega) _
    | true =>
    have k0 := HOb.out.c0
    have k1 := HOb.out.c1
    have k2 := HOb.out.c2
    go_wp2_with fail
    refine (HC2.out _ HBb.out).mono ?_
    rintro e W3 ⟨rfl, b3⟩
    have HAc := Lib.hid (HAb.out.below b3)
    have HOc := Lib.hid (HOb.out.below b3)
    have HZc := Lib.hid (HZb.out.below b3)
    have HWc := Lib.hid (HWb.out.below b3)
    have HBc := Lib.hid (HBb.out.trans (b3.mono HBb.out.size))
    clear b3 HAb HOb HZb HWb HBb k0 k1 k2
    cases q2 with
    | false =>
      have HNO := Lib.hid (cm_no (how := how) (ra := ra) (oa := oa) (b := b) (show combOK b b' ra rb oa ob how = false by unfold combOK; rw [← HQ2.out]; simp))
      have HZR := HZc
      have HBR := HBc
      have hy := HYE.out
      rw [HNO.out.1, HNO.out.2.1, HNO.out.2.2.1, HNO.out.2.2.2] at hy
      obtain ⟨rfl, rfl, rfl, rfl⟩ := hy
      have z0 := HZR.out.c0
      have z1 := HZR.out.c1
      have z2 := HZR.out.c2
      have z3 := HZR.out.f
      go_wp2
      have hZ3 := (((HZR.out.set0 (.int .i64 0)).set1 (.slice none 0 0)).set2 (.slice none 0 0))
      have n0 := hZ3.c0
      have n1 := hZ3.c1
      have n2 := hZ3.c2
      refine bodyPost_ret (v := .tuple #[.agg #[.int .i64 0, .slice none 0 0, .slice none 0 0], .bool false]) (by simp [results, Try.results13, go_sem, n0, n1, n2]) rfl ⟨_, rfl, OwnS.zero _, ?_⟩
      exact ((HBR.out.setCell (by show _ ≤ _ + 1 + 1; omega) _).setCell (by show _ ≤ _ + 1 + 1; omega) _).setCell (by show _ ≤ _ + 1 + 1; omega) _
    | true =>
    have k0 := HAc.out.c0
    have k1 := HOc.out.c0
    by_cases hbb : b = b'
    case neg =>
      have hd : (b != b') = true := by simpa using hbb
      have HNO := Lib.hid (cm_no (how := how) (ra := ra) (oa := oa) (rb := rb) (ob := ob) (show combOK b b' ra rb oa ob how = false by unfold combOK; rw [decide_eq_false hbb]; simp))
      have HZR := HZc
      have HBR := HBc
      clear hbb
      have hy := HYE.out
      rw [HNO.out.1, HNO.out.2.1, HNO.out.2.2.1, HNO.out.2.2.2] at hy
      obtain ⟨rfl, rfl, rfl, rfl⟩ := hy
      have z0 := HZR.out.c0
      have z1 := HZR.out.c1
      have z2 := HZR.out.c2
      have z3 := HZR.out.f
      go_wp2
      have hZ3 := (((HZR.out.set0 (.int .i64 0)).set1 (.slice none 0 0)).set2 (.slice none 0 0))
      have n0 := hZ3.c0
      have n1 := hZ3.c1
      have n2 := hZ3.c2
      refine bodyPost_ret (v := .tuple #[.agg #[.int .i64 0, .slice none 0 0, .slice none 0 0], .bool false]) (by simp [results, Try.results13, go_sem, n0, n1, n2]) rfl ⟨_, rfl, OwnS.zero _, ?_⟩
      exact ((HBR.out.setCell (by show _ ≤ _ + 1 + 1; omega) _).setCell (by show _ ≤ _ + 1 + 1; omega) _).setCell (by show _ ≤ _ + 1 + 1; omega) _
    case pos =>
      subst hbb
      have hd : (b != b) = false := by simp
      have va := seqB_out HQ1.out.symm
      have vb := seqB_out HQ2.out.symm
      have HVA := Lib.hid va
      have HVB := Lib.hid vb
      obtain ⟨bn, rfl⟩ : ∃ n : Nat, b = (n : Int) := ⟨b.toNat, by have := va.1; omega⟩
      have hb2 : 2 ≤ bn := by have := va.1; omega
      have hb4 : bn ≤ 4 := by have := va.2.1; omega
      have HYY := Lib.hid (cm_yes (show combOK (bn : Int) (bn : Int) ra rb oa ob how = true by unfold combOK; rw [← HQ1.out, ← HQ2.out, decide_eq_true HH.out]; simp))
      have hy := HYE.out
      rw [HYY.out.1, HYY.out.2.1, HYY.out.2.2.1, HYY.out.2.2.2, Int.toNat_natCast] at hy
      have HYP := Lib.hid hy
      have hwk := walksC va vb
      rw [Int.toNat_natCast] at hwk
      have HWK := Lib.hid hwk
      clear hy hwk va vb
      have HSP := Lib.hid (fun (W : World) (hW : Below W3.heap.size W3 W) => searched_pairs bn hb2 hb4 0 0 (nxC ra rb) (tmC oa ob how) (OkC ra rb) HWK.out 42 43 #[] #[.pointer (some ⟨w.heap.size, 0, none⟩), .pointer (some ⟨w.heap.size + 1, 0, none⟩)] #[] #[.pointer (some ⟨W1.heap.size, 0, none⟩), .pointer (some ⟨w.heap.size, 0, none⟩), .pointer (some ⟨w.heap.size + 1, 0, none⟩)]
        (enters_of Try.func42 (by kernel_rfl) rfl) (enters_of Try.func43 (by kernel_rfl) rfl) W
        (fun W' hW' x y hok d hdd => by
          obtain ⟨x, rfl⟩ := Int.eq_ofNat_of_zero_le hok.1.1
          obtain ⟨y, rfl⟩ := Int.eq_ofNat_of_zero_le hok.2.1
          have hb := hW.trans (hW'.mono hW.size)
          have hbw := HBc.out.trans (hb.mono HBc.out.size)
          exact comb_next (bn : Int) ra rb oa ob ana aoa anb aob cna coa cnb cob W' _ _ (HSA.out.below hbw) (HSB.out.below hbw) (HAc.out.below hb) (HOc.out.below hb) HVA.out HVB.out x y d (by have := hok.1.2; omega) (by have := hok.2.2; omega) (by omega))
        (fun W' hW' x y hok => by
          obtain ⟨x, rfl⟩ := Int.eq_ofNat_of_zero_le hok.1.1
          obtain ⟨y, rfl⟩ := Int.eq_ofNat_of_zero_le hok.2.1
          have hb := hW.trans (hW'.mono hW.size)
          have hbw := HBc.out.trans (hb.mono HBc.out.size)
          have hww := HWc.out.below hb
          rw [HGE.out] at hww
          exact comb_term (bn : Int) ra rb oa ob ana aoa anb aob cna coa cnb cob W' _ _ _ how HH.out (HSA.out.below hbw) (HSB.out.below hbw) (HAc.out.below hb) (HOc.out.below hb) hww HVA.out HVB.out x y (by have := hok.1.2; omega) (by have := hok.2.2; omega)))
      rw [← HYP.out.1, ← HYP.out.2.1, ← HYP.out.2.2.1, ← HYP.out.2.2.2] at HSP
      have hbp : Below W3.heap.size W3 (W3.alloc (.cells #[.int .i64 (bn : Int), .int .i64 0, .int .i64 0, .func (.func 42) #[] #[.pointer (some ⟨w.heap.size, 0, none⟩), .pointer (some ⟨w.heap.size + 1, 0, none⟩)], .func (.func 43) #[] #[.pointer (some ⟨W1.heap.size, 0, none⟩), .pointer (some ⟨w.heap.size, 0, none⟩), .pointer (some ⟨w.heap.size + 1, 0, none⟩)]] 61)) := (Below.refl _ _).alloc (Nat.le_refl _) _
      have HBP := Lib.hid hbp
      have HZd := Lib.hid (HZc.out.below hbp)
      have HBd := Lib.hid (HBc.out.trans (hbp.mono HBc.out.size))
      have HLO := Lib.hid (show w.heap.size + 3 ≤ (W3.alloc (.cells #[.int .i64 (bn : Int), .int .i64 0, .int .i64 0, .func (.func 42) #[] #[.pointer (some ⟨w.heap.size, 0, none⟩), .pointer (some ⟨w.heap.size + 1, 0, none⟩)], .func (.func 43) #[] #[.pointer (some ⟨W1.heap.size, 0, none⟩), .pointer (some ⟨w.heap.size, 0, none⟩), .pointer (some ⟨w.heap.size + 1, 0, none⟩)]] 61)).heap.size by
        have := HZc.out.lt
        rw [size_alloc']
        omega)
      clear hbp
      go_wp2_with fail
      refine (HSP.out _ HBP.out).mono ?_
      rintro e W5 ⟨rv, rfl, hrv, b5⟩
      obtain ⟨an5, cn5, ao5, co5, rfl⟩ := hrv.form
      have HR5 := Lib.hid hrv
      have HZ5 := Lib.hid (HZd.out.below b5)
      have HB5 := Lib.hid (HBd.out.trans (b5.mono HBd.out.size))
      have z0 := HZ5.out.c0
      have z1 := HZ5.out.c1
      have z2 := HZ5.out.c2
      have z3 := HZ5.out.f
      have h55 := b5.size
      clear hrv b5 k0 k1 hd
      go_wp2
      have hZ3 := (((HZ5.out.set0 (.int .i64 yb)).set1 (.slice an5 yr.length cn5)).set2 (.slice ao5 yo.length co5))
      have n0 := hZ3.c0
      have n1 := hZ3.c1
      have n2 := hZ3.c2
      refine bodyPost_ret (v := .tuple #[.agg #[.int .i64 yb, .slice an5 yr.length cn5, .slice ao5 yo.length co5], .bool yk]) (by simp [results, Try.results13, go_sem, n0, n1, n2]) rfl ⟨_, rfl, ?_, ?_⟩
      · have hT : ∀ (i : Nat) (u : Value) (W : World), Plain.Touch (w.heap.size + 1 + 1) (w.heap.size + 3) W (W.setCell ⟨w.heap.size + 1 + 1, i, none⟩ u) := fun i u W => Plain.Touch.of_set (a := ⟨w.heap.size + 1 + 1, i, none⟩) u (Nat.le_refl _) (Nat.lt_succ_self _)
        have T0 : Plain.Touch (w.heap.size + 1 + 1) (w.heap.size + 3) W5 (((W5.setCell ⟨w.heap.size + 1 + 1, 0, none⟩ (.int .i64 yb)).setCell ⟨w.heap.size + 1 + 1, 1, none⟩ (.slice an5 yr.length cn5)).setCell ⟨w.heap.size + 1 + 1, 2, none⟩ (.slice ao5 yo.length co5)) := ((hT 0 _ _).trans (hT 1 _ _)).trans (hT 2 _ _)
        have := (HR5.out.touch T0 (.inr HLO.out)).lower (show w.heap.size ≤ _ by have := HLO.out; omega)
        simpa only [size_setCell'] using this
      · exact ((HB5.out.setCell (by show _ ≤ _ + 1 + 1; omega) _).setCell (by show _ ≤ _ + 1 + 1; omega) _).setCell (by show _ ≤ _ + 1 + 1; omega) _
end Comb
end Go.Proofs.Ythnmighlgifoeaa
