/- Several texts of this proof, one behind the other: each says ahead of it what it shows and under which conditions. -/
import Derived.Test.YtodnkkofammhbaaCM7
import Derived.Test.YtodnkkofammhbaaCM6
import Derived.StillTailTactics
import Derived.BigQuiet
import Derived.Test.YtodnkkofammhbaaCM1
/- Contract of CombineTerms of the model. No conditions beyond those that it states. -/
namespace Go.Proofs.Ytodnkkofammhbaa
open Go.ChangeShapes Go.WideShapes Go.ChangeAt Go.RowKit
open Go.PlainAid Plain
set_option linter.unusedVariables false
namespace Comb
open Seqs
theorem ok_nat {ra rb : List (List Int)} {s : Pr} (h : OkC ra rb s) : ∃ x y : Nat, s = ((x : Int), (y : Int)) ∧ x < ra.length ∧ y < rb.length := by
  obtain ⟨⟨h1, h2⟩, h3, h4⟩ := h
  exact ⟨s.1.toNat, s.2.toNat, Prod.ext (by simp; omega) (by simp; omega), by omega, by omega⟩
set_option maxRecDepth 100000 in
set_option maxHeartbeats 8000000 in
theorem spec_comb_yes (u v : Value) (b : Int) (ra rb : List (List Int)) (oa ob : List Int) (how : Int) (w : World) (h1 : LiesS w u b ra oa) (h2 : LiesS w v b rb ob) (hok : combOK b b ra rb oa ob how = true) :
    Calls Try.prog 7 #[u, v, .int .i64 how] w (GivesK (pB (0, 0) (nxC ra rb) b.toNat) (pR (0, 0) (nxC ra rb) b.toNat) (pO (0, 0) (nxC ra rb) b.toNat (tmC oa ob how)) (pairK (0, 0) (nxC ra rb) b.toNat) w) := by
  obtain ⟨i0, hi0, hz0, hz1, hz2⟩ := info_parts Ints.infoI
  obtain ⟨i2, hi2, hz20, hz21, hz22⟩ := info_parts infoR
  rw [combOK, Bool.and_eq_true, Bool.and_eq_true, Bool.and_eq_true, decide_eq_true_eq, decide_eq_true_eq] at hok
  obtain ⟨⟨hqa, hqb⟩, _, hhow⟩ := hok
  have hva := seqB_out hqa
  have hvb := seqB_out hqb
  obtain ⟨bn, rfl⟩ : ∃ bn : Nat, b = (bn : Int) := ⟨b.toNat, by have := hva.1; omega⟩
  rw [Int.toNat_natCast]
  have hw0 := walksC hva hvb
  rw [Int.toNat_natCast] at hw0
  have HQA := Lib.hid hqa
  have HQB := Lib.hid hqb
  have HVA := Lib.hid hva
  have HVB := Lib.hid hvb
  have HHOW := Lib.hid hhow
  have hb2 : 2 ≤ bn := by have := hva.1; omega
  have hb4 : bn ≤ 4 := by have := hva.2.1; omega
  obtain ⟨st, hst⟩ : ∃ s : Pr, s = (0, 0) := ⟨_, rfl⟩
  obtain ⟨nx, hnx⟩ : ∃ f, f = nxC ra rb := ⟨_, rfl⟩
  obtain ⟨tm, htm⟩ : ∃ f, f = tmC oa ob how := ⟨_, rfl⟩
  rw [← hst, ← hnx, ← htm]
  rw [← hst, ← hnx] at hw0
  have HWK := Lib.hid hw0
  have HST := Lib.hid hst
  have HNX : Hid (∀ x y d : Nat, (nextS ra x d, nextS rb y d) = nx ((x : Int), (y : Int)) d) := fun x y d => by rw [hnx]; rfl
  have HTM : Hid (∀ x y : Nat, x < ra.length → y < rb.length → combV (oa.getD x 0) (ob.getD y 0) how = tm ((x : Int), (y : Int))) := fun x y hx hy => by
    have ha := HVA.out.2.2.2.2.2.2 (oa.getD x 0) (by have := HVA.out.2.2.2.2.1; rw [List.getD_eq_getElem?_getD, List.getElem?_eq_getElem (show x < oa.length by omega)]; exact List.getElem_mem _)
    have hb := HVB.out.2.2.2.2.2.2 (ob.getD y 0) (by have := HVB.out.2.2.2.2.1; rw [List.getD_eq_getElem?_getD, List.getElem?_eq_getElem (show y < ob.length by omega)]; exact List.getElem_mem _)
    rw [combV, combK, decide_eq_true ⟨ha, hb, HHOW.out⟩, if_pos rfl, htm, tmC, Int.toNat_natCast, Int.toNat_natCast]
  obtain ⟨YB, hYB⟩ : ∃ y, y = pB st nx bn := ⟨_, rfl⟩
  obtain ⟨YR, hYR⟩ : ∃ y, y = pR st nx bn := ⟨_, rfl⟩
  obtain ⟨YO, hYO⟩ : ∃ y, y = pO st nx bn tm := ⟨_, rfl⟩
  obtain ⟨YK, hYK⟩ : ∃ y, y = pairK st nx bn := ⟨_, rfl⟩
  rw [← hYB, ← hYR, ← hYO, ← hYK]
  have HY := Lib.hid (show YB = pB st nx bn ∧ YR = pR st nx bn ∧ YO = pO st nx bn tm ∧ YK = pairK st nx bn from ⟨hYB, hYR, hYO, hYK⟩)
  have HSA := Lib.hid h1
  have HSB := Lib.hid h2
  obtain ⟨ana, cna, aoa, coa, rfl⟩ := h1.form
  obtain ⟨anb, cnb, aob, cob, rfl⟩ := h2.form
  clear h1 h2 hqa hqb hva hvb hhow hw0 hst hnx htm hYB hYR hYO hYK
  have hA := ((Cells3.new w 27 (.int .i64 (bn : Int)) (.slice ana ra.length cna) (.slice aoa oa.length coa)).alloc (Obj.cells #[Value.int .i64 (bn : Int), .slice anb rb.length cnb, .slice aob ob.length cob] 27)).alloc (Obj.cells #[Value.int .i64 0, Value.slice none 0 0, Value.slice none 0 0] 27)
  have hO := (Cells3.new (w.alloc (Obj.cells #[Value.int .i64 (bn : Int), .slice ana ra.length cna, .slice aoa oa.length coa] 27)) 27 (.int .i64 (bn : Int)) (.slice anb rb.length cnb) (.slice aob ob.length cob)).alloc (Obj.cells #[Value.int .i64 0, Value.slice none 0 0, Value.slice none 0 0] 27)
  have hZ := Cells3.new ((w.alloc (Obj.cells #[Value.int .i64 (bn : Int), .slice ana ra.length cna, .slice aoa oa.length coa] 27)).alloc (Obj.cells #[Value.int .i64 (bn : Int), .slice anb rb.length cnb, .slice aob ob.length cob] 27)) 27 (.int .i64 0) (.slice none 0 0) (.slice none 0 0)
  rw [size_alloc'] at hO
  rw [size_alloc', size_alloc'] at hZ
  have HA1 := Lib.hid hA
  have HO1 := Lib.hid hO
  have HZ1 := Lib.hid hZ
  have HB1 : Hid (Below w.heap.size w (((w.alloc (Obj.cells #[Value.int .i64 (bn : Int), .slice ana ra.length cna, .slice aoa oa.length coa] 27)).alloc (Obj.cells #[Value.int .i64 (bn : Int), .slice anb rb.length cnb, .slice aob ob.length cob] 27)).alloc (Obj.cells #[Value.int .i64 0, Value.slice none 0 0, Value.slice none 0 0] 27))) := (((Below.refl _ _).alloc (Nat.le_refl _) _).alloc (by simp only [size_alloc'] <;> omega) _).alloc (by simp only [size_alloc'] <;> omega) _
  clear hA hO hZ
  have k0 := HA1.out.c0
  have k1 := HA1.out.c1
  have k2 := HA1.out.c2
  go_enter Try.func7, Try.ntmps7
  go_wp2_with fail
  refine (spec_is _ _ ra oa _ (HSA.out.below HB1.out)).mono ?_
  rintro e W1 ⟨rfl, b1⟩
  rw [HQA.out]
  have HA2 := Lib.hid (HA1.out.below b1)
  have HO2 := Lib.hid (HO1.out.below b1)
  have HZ2 := Lib.hid (HZ1.out.below b1)
  have HB2 := Lib.hid (HB1.out.trans (b1.mono HB1.out.size))
  clear b1 k0 k1 k2 HA1 HO1 HZ1 HB1
  have k0 := HO2.out.c0
  have k1 := HO2.out.c1
  have k2 := HO2.out.c2
  go_wp2_with fail
  refine (spec_is _ _ rb ob _ (HSB.out.below HB2.out)).mono ?_
  rintro e W3 ⟨rfl, b1⟩
  rw [HQB.out]
  have HA3 := Lib.hid (HA2.out.below b1)
  have HO3 := Lib.hid (HO2.out.below b1)
  have HZ3 := Lib.hid (HZ2.out.below b1)
  have HB3 := Lib.hid (HB2.out.trans (b1.mono HB2.out.size))
  clear b1 k0 k1 k2 HA2 HO2 HZ2 HB2
  have k0 := HO3.out.c0
  have j0 := HA3.out.c0
  have hbe : ((bn : Int) != (bn : Int)) = false := by simp
  go_wp2_with fail
  refine (l1In_yes _ _ _ _ HHOW.out.1 HHOW.out.2).mono ?_
  rintro e w' ⟨rfl, rfl⟩
  go_wp2_with fail
  clear k0 j0 hbe
  -- the sequence in the making, the pairs
  obtain ⟨W4, hW4⟩ : ∃ W, W = W3.alloc (Obj.cells #[Value.int .i64 (bn : Int), Value.slice none 0 0, Value.slice none 0 0] 27) := ⟨_, rfl⟩
  obtain ⟨W5, hW5⟩ : ∃ W, W = W4.alloc (.cells #[.int .i64 0, .int .i64 0] 3) := ⟨_, rfl⟩
  obtain ⟨W6, hW6⟩ : ∃ W, W = W5.alloc (.cells #[.slice (some ⟨W4.heap.size, 0, none⟩) 2 2] 25) := ⟨_, rfl⟩
  have hs4 : W4.heap.size = W3.heap.size + 1 := by rw [hW4, size_alloc']
  have hs5 : W5.heap.size = W3.heap.size + 1 + 1 := by rw [hW5, size_alloc', hs4]
  have hgo : (((W3.alloc (Obj.cells #[Value.int .i64 (bn : Int), Value.slice none 0 0, Value.slice none 0 0] 27)).alloc (.cells #[.int .i64 0, .int .i64 0] 3)).alloc (.cells #[.slice (some ⟨W3.heap.size + 1, 0, none⟩) 2 2] 25)) = W6 := by rw [hW6, hW5, hW4, size_alloc']
  rw [hgo]
  have hb34 : Below W3.heap.size W3 W4 := by rw [hW4]; exact (Below.refl _ _).alloc (Nat.le_refl _) _
  have hb45 : Below W4.heap.size W4 W5 := by rw [hW5]; exact (Below.refl _ _).alloc (Nat.le_refl _) _
  have hb56 : Below W5.heap.size W5 W6 := by rw [hW6]; exact (Below.refl _ _).alloc (Nat.le_refl _) _
  have hc4 : Cells3 W4 W3.heap.size 27 (.int .i64 (bn : Int)) (.slice none 0 0) (.slice none 0 0) := by rw [hW4]; exact Cells3.new W3 27 _ _ _
  have hl5 : Has (Value.int .i64) 3 W5 W4.heap.size (.slice (some ⟨W4.heap.size, 0, none⟩) 2 2) (pl st) := by rw [hW5, HST.out]; exact has_lit2 0 0 (Nat.le_refl _)
  have ht6 : Has id 25 W6 W4.heap.size (.slice (some ⟨W5.heap.size, 0, none⟩) 1 1) [.slice (some ⟨W4.heap.size, 0, none⟩) 2 2] := by rw [hW6]; exact has_lit1v _ rfl (by rw [hs5, hs4]; omega)
  obtain ⟨p, hp⟩ : ∃ x, x = W3.heap.size := ⟨_, rfl⟩
  obtain ⟨BB, hBB⟩ : ∃ x, x = W4.heap.size := ⟨_, rfl⟩
  obtain ⟨W0, hW0⟩ : ∃ W, W = W3 := ⟨_, rfl⟩
  have HPB := Lib.hid (show p ≤ BB by omega)
  have HNUM := Lib.hid (show w.heap.size + 3 ≤ p ∧ p < BB from by have := HZ3.out.lt; omega)
  have hM6 : Hid (PM W6 BB W6.heap.size p (bn : Int) (.slice none 0 0) (.slice none 0 0) (.slice (some ⟨p + 1 + 1, 0, none⟩) 1 1) [] [.slice (some ⟨BB, 0, none⟩) 2 2] (pairRows st nx bn 0) (pairI st nx bn 0) (pairOuts st nx bn tm 0) []) := by
    rw [show p + 1 + 1 = W5.heap.size by rw [hp, hs5], hp, hBB]
    have hbb := hb45.trans (hb56.mono hb45.size)
    exact PM.start ((hc4.below hb45).below hb56) ht6 ((own_of_has (hl5.below hb56)).mono (Nat.le_refl _) (Nat.le_refl _) (Nat.le_refl _)) hbb.size
  have hB6 : Hid (Below p W0 W6) := by
    rw [hp, hW0]
    exact hb34.trans ((hb45.mono hb34.size).trans (hb56.mono (Nat.le_trans hb34.size hb45.size)))
  have HP0 := Lib.hid (show p = W0.heap.size by rw [hW0]; exact hp)
  rw [← hp]
  rw [← hW0] at HA3 HO3 HZ3 HB3
  have hl0 : (pairI st nx bn 0).length ≤ 20 := by simp [pairI]
  clear hW4 hW5 hW6 hs4 hs5 hgo hb34 hb45 hb56 hc4 hl5 ht6 hp hBB hW0
  go_loopw [9, 10] (fun o' i' wr => ∃ (i : Nat) (vn vo : Value) (us es : List Value) (hi : Nat), i ≤ (pairI st nx bn i).length ∧ i ≤ 16 ∧ (pairI st nx bn i).length ≤ 20 ∧ i' = .int .i64 i ∧ Hid (PM wr BB hi p (bn : Int) vn vo o' us es (pairRows st nx bn i) (pairI st nx bn i) (pairOuts st nx bn tm i) []) ∧ Hid (Below p W0 wr)) (fun _ i' _ => 21 - (intOf i').toNat)
  case atStart => exact ⟨0, _, _, _, _, _, Nat.zero_le _, by omega, hl0, rfl, hM6, hB6⟩
  case round =>
    clear hM6 hB6 hl0
    obtain ⟨i, vn, vo, us, es, hi, hil, hi16, hl20, rfl, hM, hB⟩ := hrel
    obtain ⟨W7, rfl⟩ : ∃ W : World, W = wr := ⟨_, rfl⟩
    obtain ⟨na, nc, oa1, oc1, ea, ec, hvn, hvo, hve⟩ := hM.out.form
    obtain ⟨l1, hl1⟩ : ∃ l, l = (pairRows st nx bn i).length := ⟨_, rfl⟩
    obtain ⟨l2, hl2⟩ : ∃ l, l = (pairOuts st nx bn tm i).length := ⟨_, rfl⟩
    obtain ⟨l0, hl0⟩ : ∃ l, l = (pairI st nx bn i).length := ⟨_, rfl⟩
    have hl1' : l1 ≤ 16 := by rw [hl1]; simp [pairRows]; omega
    have hl2' : l2 ≤ 16 := by rw [hl2]; simp [pairOuts]; omega
    have HL1 := Lib.hid hl1
    have HL2 := Lib.hid hl2
    have HL0 := Lib.hid hl0
    rw [← hl1] at hvn
    rw [← hl2] at hvo
    rw [← hl0] at hve hil hl20
    subst hvn; subst hvo; subst hve
    clear hl1 hl2 hl0
    have hA := c3_of_below hB.out HA3.out (by have := HNUM.out; omega)
    have hO := c3_of_below hB.out HO3.out (by have := HNUM.out; omega)
    have hZ := c3_of_below hB.out HZ3.out (by have := HNUM.out; omega)
    have hBw : Below w.heap.size w W7 := HB3.out.trans (hB.out.mono (by have := HNUM.out; omega))
    by_cases hlt : i < l0
    case neg =>
      have hfe := found_end (st := st) (nx := nx) (b := bn) hi16 (by have := HL0.out; omega)
      have hk : pairK st nx bn = true := decide_eq_true (by rw [hfe]; have := HL0.out; omega)
      have hie : i = (found st nx bn).length := by rw [hfe]; have := HL0.out; omega
      have hyp := p_yes (tm := tm) hk
      rw [← hie] at hyp
      have hy := HY.out
      rw [hyp.1, hyp.2.1, hyp.2.2, hk] at hy
      obtain ⟨rfl, hy2, hy3, rfl⟩ := hy
      have HW : Hid (OwnS W7 BB W7.heap.size (.agg #[.int .i64 (bn : Int), .slice na l1 nc, .slice oa1 l2 oc1]) (bn : Int) YR YO) := by rw [hy2, hy3]; exact hM.out.seq
      have hP := hM.out.cells
      have m0 := hP.c0
      have m1 := hP.c1
      have m2 := hP.c2
      have HZ6 := Lib.hid hZ
      have HB6 := Lib.hid hBw
      have z0 := hZ.c0
      have z1 := hZ.c1
      have z2 := hZ.c2
      have z3 := hZ.f
      clear hP hfe hk hie hyp hy2 hy3 hA hO hZ hBw
      go_wp2
      have hZ3 := (((HZ6.out.set0 (.int .i64 (bn : Int))).set1 (.slice na l1 nc)).set2 (.slice oa1 l2 oc1))
      have n0 := hZ3.c0
      have n1 := hZ3.c1
      have n2 := hZ3.c2
      refine bodyPost_ret (v := .tuple #[.agg #[.int .i64 (bn : Int), .slice na l1 nc, .slice oa1 l2 oc1], .bool true]) (by simp [results, Try.results7, go_sem, n0, n1, n2]) rfl ⟨_, rfl, ?_, ?_⟩
      · have hT : ∀ (i : Nat) (u : Value) (W : World), Plain.Touch (w.heap.size + 1 + 1) (w.heap.size + 3) W (W.setCell ⟨w.heap.size + 1 + 1, i, none⟩ u) := fun i u W => Plain.Touch.of_set (a := ⟨w.heap.size + 1 + 1, i, none⟩) u (Nat.le_refl _) (Nat.lt_succ_self _)
        have T0 : Plain.Touch (w.heap.size + 1 + 1) (w.heap.size + 3) W7 (((W7.setCell ⟨w.heap.size + 1 + 1, 0, none⟩ (.int .i64 (bn : Int))).setCell ⟨w.heap.size + 1 + 1, 1, none⟩ (.slice na l1 nc)).setCell ⟨w.heap.size + 1 + 1, 2, none⟩ (.slice oa1 l2 oc1)) := ((hT 0 _ _).trans (hT 1 _ _)).trans (hT 2 _ _)
        have := (HW.out.touch T0 (.inr (by have := HNUM.out; omega))).lower (show w.heap.size ≤ BB by have := HNUM.out; omega)
        simpa only [size_setCell'] using this
      · exact ((HB6.out.setCell (by show _ ≤ _ + 1 + 1; omega) _).setCell (by show _ ≤ _ + 1 + 1; omega) _).setCell (by show _ ≤ _ + 1 + 1; omega) _
    case pos =>
      by_cases h16 : 16 < l0
      case pos =>
        have hk := found_many (st := st) (nx := nx) (b := bn) (i := i) (by omega) (by have := HL0.out; omega)
        have hyp := p_no (tm := tm) hk
        have hy := HY.out
        rw [hyp.1, hyp.2.1, hyp.2.2, hk] at hy
        obtain ⟨rfl, rfl, rfl, rfl⟩ := hy
        have HZR := Lib.hid hZ
        have HBR := Lib.hid hBw
        have z0 := hZ.c0
        have z1 := hZ.c1
        have z2 := hZ.c2
        have z3 := hZ.f
        have hd16 := decide_eq_true h16
        clear hk hyp hA hO hZ hBw hM
        go_wp2
        have hZ3 := (((HZR.out.set0 (.int .i64 0)).set1 (.slice none 0 0)).set2 (.slice none 0 0))
        have n0 := hZ3.c0
        have n1 := hZ3.c1
        have n2 := hZ3.c2
        refine bodyPost_ret (v := .tuple #[.agg #[.int .i64 0, .slice none 0 0, .slice none 0 0], .bool false]) (by simp [results, Try.results7, go_sem, n0, n1, n2]) rfl ⟨_, rfl, OwnS.zero _, ?_⟩
        exact ((HBR.out.setCell (by show _ ≤ _ + 1 + 1; omega) _).setCell (by show _ ≤ _ + 1 + 1; omega) _).setCell (by show _ ≤ _ + 1 + 1; omega) _
      case neg =>
        have hd16 := decide_eq_false h16
        obtain ⟨s, hs⟩ : ∃ s, (pairI st nx bn i)[i]? = some s := ⟨_, List.getElem?_eq_getElem (by have := HL0.out; omega)⟩
        have HSI := Lib.hid hs
        obtain ⟨x, y, hxy, hxa, hyb⟩ := ok_nat (pairI_ok HWK.out i s (List.mem_of_getElem? hs))
        have HXY := Lib.hid hxy
        have H16 := Lib.hid (show (pairI st nx bn i).length ≤ 16 by have := HL0.out; omega)
        have hb7 : Below W7.heap.size W7 (W7.alloc (.cells #[] 3)) := (Below.refl _ _).alloc (Nat.le_refl _) _
        have hM0 : Hid (PM (W7.alloc (.cells #[] 3)) BB (W7.alloc (.cells #[] 3)).heap.size p (bn : Int) (.slice na l1 nc) (.slice oa1 l2 oc1) (.slice ea l0 ec) us es (pairRows st nx bn i) (midP st nx bn i s 0) (pairOuts st nx bn tm i) [(.slice (some ⟨W7.heap.size, 0, none⟩) 0 0, pairPart st nx bn s 0)]) :=
          hM.out.begin hb7 (has_lit0 (enc := Value.int .i64) rfl (Nat.le_refl _))
        have hB7 : Hid (Below p W0 (W7.alloc (.cells #[] 3))) := hB.out.alloc (by have := hM.out.cells.lt; omega) _
        have hml0 : (midP st nx bn i s 0).length ≤ 20 := by rw [mid_zero]; have := H16.out; omega
        obtain ⟨zr, hzr⟩ : ∃ z, z = W7.heap.size := ⟨_, rfl⟩
        rw [← hzr] at hM0
        clear hs hxy hM hB hb7 hA hO hZ hBw
        go_wp2_with fail
        rw [← hzr]
        clear hzr
        go_loopw [9, 11, 12] (fun o' r' k' wr => ∃ (k : Nat) (es : List Value) (hi : Nat), k ≤ bn ∧ (midP st nx bn i s k).length ≤ 20 ∧ k' = .int .i64 k ∧ Hid (PM wr BB hi p (bn : Int) (.slice na l1 nc) (.slice oa1 l2 oc1) o' us es (pairRows st nx bn i) (midP st nx bn i s k) (pairOuts st nx bn tm i) [(r', (pairPart st nx bn s k))]) ∧ Hid (Below p W0 wr)) (fun _ _ k' _ => bn - (intOf k').toNat)
        case atStart => exact ⟨0, es, _, Nat.zero_le _, hml0, rfl, hM0, hB7⟩
        case round =>
          clear hM0 hB7 hml0
          obtain ⟨k, es', hi', hkl, hm20, rfl, hM, hB⟩ := hrel
          obtain ⟨W8, rfl⟩ : ∃ W : World, W = wr := ⟨_, rfl⟩
          obtain ⟨MD, hMD⟩ : ∃ l, l = midP st nx bn i s k := ⟨_, rfl⟩
          obtain ⟨ml, hml⟩ : ∃ l, l = MD.length := ⟨_, rfl⟩
          have HMD := Lib.hid hMD
          have HML := Lib.hid hml.symm
          have hml19 : ml ≤ 16 + k := by rw [hml, hMD]; exact mid_len H16.out
          rw [← hMD] at hM
          have hsi : MD[i]? = some s := by
            obtain ⟨r, hr⟩ := mid_prefix (st := st) (nx := nx) (b := bn) i s (Nat.zero_le k)
            rw [hMD, ← hr, mid_zero, List.getElem?_append_left (List.getElem?_eq_some_iff.1 HSI.out).1]
            exact HSI.out
          have HSM := Lib.hid hsi
          have himl : i < ml := by rw [hml]; exact (List.getElem?_eq_some_iff.1 hsi).1
          obtain ⟨eq, eo, ec', g, gc, hve, hc0, hc1, hc2, _⟩ := hM.out.at_ hsi
          rw [HXY.out] at hc1 hc2
          simp only at hc1 hc2
          rw [← hml] at hve
          subst hve
          obtain ⟨rra, rrc, hrr⟩ := (hM.out.extra (x := _) (r := (pairPart st nx bn s k)) (List.mem_cons_self ..)).form
          rw [part_len] at hrr
          subst hrr
          have hA := c3_of_below hB.out HA3.out (by have := HNUM.out; omega)
          have hO := c3_of_below hB.out HO3.out (by have := HNUM.out; omega)
          have hBw := HB3.out.trans (hB.out.mono (by have := HNUM.out; omega))
          have hkL : (i : Int) < (ml : Int) := by omega
          have hi00 : (0 : Int) ≤ (i : Int) := Int.natCast_nonneg _
          have hx00 : (0 : Int) ≤ (x : Int) := Int.natCast_nonneg _
          have hy00 : (0 : Int) ≤ (y : Int) := Int.natCast_nonneg _
          have hxL : (x : Int) < (ra.length : Int) := by omega
          have hyL : (y : Int) < (rb.length : Int) := by omega
          clear hMD hml hsi
          by_cases hlk : k < bn
          case pos =>
            have hkb : decide (k < bn) = true := decide_eq_true hlk
            have hkb2 := hlk
            have hk00 : (0 : Int) ≤ (k : Int) := Int.natCast_nonneg _
            obtain ⟨pa, po, qa, ta, ca, na', he1, a1, hna, a2⟩ := step_cells (HSA.out.below HB3.out) HVA.out hxa (show (k : Int) < (bn : Int) by omega)
            obtain ⟨pb, pob, qb, tb, cb, nb', he2, b1, hnb, b2⟩ := step_cells (HSB.out.below HB3.out) HVB.out hyb (show (k : Int) < (bn : Int) by omega)
            have hBW0 : Below W0.heap.size W0 W8 := by rw [← HP0.out]; exact hB.out
            have a1' := old_cellC hBW0 a1
            have a2' := old_cellC hBW0 a2
            have b1' := old_cellC hBW0 b1
            have b2' := old_cellC hBW0 b2
            subst he1; subst he2
            obtain ⟨u1, hu1⟩ : ∃ u, u = nextS ra x k := ⟨_, rfl⟩
            obtain ⟨u2, hu2⟩ : ∃ u, u = nextS rb y k := ⟨_, rfl⟩
            have HTN : Hid ((u1, u2) = nx s k) := by show _ = _; rw [HXY.out, hu1, hu2]; exact HNX.out x y k
            rw [← hu1] at a2'
            rw [← hu2] at b2'
            have hkna : (k : Int) < (na' : Int) := by omega
            have hknb : (k : Int) < (nb' : Int) := by omega
            have e1 := hA.c1
            have e2 := hO.c1
            have e0 := hA.c0
            have HM8 := hM
            have HB8 := hB
            clear hu1 hu2 a1 a2 b1 b2 hBW0 hA hO hBw hM hB
            go_wp2
            go_still_tail 26, (by kernel_rfl)
            change wpList _ _ _ _ _ W8.drew
            have hbd := below_drew' W8
            have hPd := HM8.out.below hbd
            have HBd := Lib.hid (HB8.out.trans (hbd.mono (show p ≤ W8.heap.size by have := HM8.out.cells.lt; omega)))
            have HPd := Lib.hid hPd
            generalize W8.drew = W9 at HPd HBd ⊢
            clear hPd hbd HM8 HB8 a1' a2' b1' b2' hc0 hc1 hc2 e0 e1 e2
            go_wp2_with fail
            obtain ⟨W10, hW10⟩ : ∃ W, W = W9.alloc (.cells #[.int .i64 u1, .int .i64 u2] 3) := ⟨_, rfl⟩
            rw [← hW10]
            have hb9 : Below W9.heap.size W9 W10 := by rw [hW10]; exact (Below.refl _ _).alloc (Nat.le_refl _) _
            have hPW9 : p ≤ W9.heap.size := by have := HPd.out.cells.lt; omega
            have hpm := HPd.out.begin hb9 (x := .slice (some ⟨W9.heap.size, 0, none⟩) 2 2) (r := pl (u1, u2)) (by rw [hW10]; exact has_lit2 u1 u2 (Nat.le_refl _))
            have HBp : Hid (Below p W0 W10) := HBd.out.trans (hb9.mono hPW9)
            have HPW := Lib.hid (Nat.le_trans hPW9 hb9.size)
            obtain ⟨tz, htz⟩ : ∃ z, z = W9.heap.size := ⟨_, rfl⟩
            rw [← htz] at hpm ⊢
            have HPM := Lib.hid hpm
            clear hW10 hb9 hPW9 hpm htz HPd HBd
            -- the search for the pair t among those found; W10: the world behind t's slice
            have hBx0 : Hid (Below W10.heap.size W10 W10) := Below.refl _ _
            go_loopw [14, 15] (fun f' n' wr => ∃ (n : Nat) (f : Int), n ≤ ml ∧ n' = .int .i64 n ∧ f' = .int .i64 f ∧ Hid (FoundL MD (u1, u2) n f) ∧ Hid (Below W10.heap.size W10 wr)) (fun _ n' _ => ml - (intOf n').toNat)
            case atStart => exact ⟨0, -1, Nat.zero_le _, rfl, rfl, .inl ⟨rfl, fun j hj => by omega⟩, hBx0⟩
            case round =>
              clear hBx0
              obtain ⟨n, f, hnl, rfl, rfl, hF, hBx⟩ := hrel
              obtain ⟨W11, rfl⟩ : ∃ W : World, W = wr := ⟨_, rfl⟩
              have hPM := HPM.out.below hBx.out
              have HPM11 := Lib.hid hPM
              clear hPM
              by_cases hgo : n < ml ∧ f < 0
              case pos =>
                obtain ⟨hn2, hf⟩ := hgo
                have hdf := decide_eq_true hf
                obtain ⟨s2, hs2⟩ : ∃ x, MD[n]? = some x := ⟨_, List.getElem?_eq_getElem (by have := HML.out; omega)⟩
                obtain ⟨eq2, eo2, ec2, g2, gc2, hve, hc0, _, _, hly⟩ := HPM11.out.at_ hs2
                injection hve with e1 e2 e3
                injection e1 with e1
                injection e1 with e1 e1'
                subst e1; subst e1'
                have hlt := (HPM11.out.extra (x := .slice (some ⟨tz, 0, none⟩) 2 2) (r := pl (u1, u2)) (List.mem_cons_self ..)).has.lies
                have hn0 : (0 : Int) ≤ (n : Int) := Int.natCast_nonneg _
                have hnd : (n : Int) < (ml : Int) := by omega
                have HS2 := Lib.hid hs2
                have HLY := Lib.hid hly
                have HLT := Lib.hid hlt
                have HFN := Lib.hid hf
                clear hs2 hly hlt hf e2 e3
                by_cases he : s2 = (u1, u2)
                · have HC := Lib.hid (same_c HLY.out HLT.out (show decide (pl s2 = pl (u1, u2)) = true by rw [he]; exact decide_eq_true rfl))
                  have HFY : Hid (FoundL MD (u1, u2) (n + 1) (n : Int)) := .inr ⟨n, rfl, by rw [HS2.out, he]⟩
                  clear he
                  go_wp2_with fail
                  refine HC.out.mono ?_
                  rintro e W12 ⟨rfl, bx⟩
                  have HB12 := Lib.hid (hBx.out.trans (bx.mono hBx.out.size))
                  clear bx
                  go_wp2
                  go_roundw
                  case rel => exact ⟨n + 1, (n : Int), by omega, by go_num, rfl, HFY, HB12⟩
                  case measure => simp [intOf]; omega
                · have HC := Lib.hid (same_c HLY.out HLT.out (show decide (pl s2 = pl (u1, u2)) = false from decide_eq_false (fun h => he (pl_inj h))))
                  have HFY : Hid (FoundL MD (u1, u2) (n + 1) f) := foundL_no hF.out HFN.out HS2.out he
                  clear he
                  go_wp2_with fail
                  refine HC.out.mono ?_
                  rintro e W12 ⟨rfl, bx⟩
                  have HB12 := Lib.hid (hBx.out.trans (bx.mono hBx.out.size))
                  clear bx
                  go_wp2
                  go_roundw
                  case rel => exact ⟨n + 1, f, by omega, by go_num, rfl, HFY, HB12⟩
                  case measure => simp [intOf]; omega
              case neg =>
                have HBe := Lib.hid (HBp.out.trans (hBx.out.mono HPW.out))
                have hfe := foundL_end (by rw [HMD.out]; exact mid_nodup i s k) hF.out (by have := HML.out; omega)
                clear hF
                have HPS := Lib.hid (part_succ (st := st) (nx := nx) (b := bn) s k)
                have HPL := Lib.hid (part_len (st := st) (nx := nx) (b := bn) s k)
                have HLE := Lib.hid (show BB ≤ W11.heap.size from Nat.le_trans HPM11.out.lo HPM11.out.le)
                have hle20 : ml ≤ 19 := by omega
                rcases hfe with ⟨hf1, hno⟩ | ⟨hf1, hyes, hfx⟩
                · have hnl2 : ¬ n < ml := fun h => hgo ⟨h, by omega⟩
                  have hdf : decide (f < 0) = true := decide_eq_true (by omega)
                  have hpn := place_new (st := st) (nx := nx) (b := bn) hi16 hkb2 HSI.out (by rw [← HTN.out, ← HMD.out]; exact hno)
                  rw [← HMD.out, ← HTN.out, HML.out] at hpn
                  have HON := Lib.hid hpn.1
                  have HPN : Hid (pairPart st nx bn s (k + 1) = (pairPart st nx bn s k) ++ [(ml : Int)]) := by
                    show _ = _
                    rw [HPS.out, ← HTN.out, hpn.2]
                  clear hgo hno hpn hf1
                  have hPMx := HPM11.out
                  have HX1 := Lib.hid hPMx.etop
                  have HEL := Lib.hid (show es'.length = ml by rw [hPMx.el, HML.out])
                  clear hPMx
                  go_wp2_with (first
                    | (at_builtin; refine wpList_append_list (enc := id) (e := 25) rfl (.tmp 107) (.tmp 109) 24 rfl BB i2 (.slice none 0 0) 24 Try.underlying24 hi2 hz20 hz21 hz22 rfl (.slice (some ⟨eq, eo, none⟩) ml ec') es' rfl (has_alloc HX1.out _) (.slice (some ⟨W11.heap.size, 0, none⟩) 1 1) [.slice (some ⟨tz, 0, none⟩) 2 2] rfl (lies_lit1v _ rfl) (fun y hy => by simp at hy; subst hy; rfl) (by rw [HEL.out]; simp; omega) (by rw [HEL.out]; simp; omega) (by have := HLE.out; simp; omega) ?_; intro v8 w8 hv8 hg8 hb8; obtain ⟨a8, c8, hvf, _⟩ := hv8.form; rw [show (es' ++ [Value.slice (some ⟨tz, 0, none⟩) 2 2]).length = ml + 1 from by rw [List.length_append, HEL.out]; rfl] at hvf; subst hvf; have hg8' := grown_alloc hg8; have hpm8 := HPM11.out.add hv8 hg8' (fun k hk => (hb8 k hk).imp id (fun h => by simp at h; omega)); have HP8 := Lib.hid hpm8; clear hpm8; have HLE8 := Lib.hid (Nat.le_trans HLE.out hg8'.size))
                    | (at_builtin; refine wpList_append_list (enc := Value.int .i64) (e := 3) rfl (.tmp 111) (.tmp 113) 25 rfl BB i0 (.int .i64 0) 8 Try.underlying25 hi0 hz0 hz1 hz2 rfl (.slice rra k rrc) (pairPart st nx bn s k) rfl (has_alloc (HP8.out.extra (x := .slice rra k rrc) (r := (pairPart st nx bn s k)) (List.mem_cons_self ..)).has _) (.slice (some ⟨w8.heap.size, 0, none⟩) 1 1) [(ml : Int)] rfl (lies_lit1 (enc := Value.int .i64) _ rfl) (fun _ _ => rfl) (by rw [HPL.out]; simp only [List.length_cons, List.length_nil]; omega) (by rw [HPL.out]; simp only [List.length_cons, List.length_nil]; omega) (by have := HLE8.out; simp; omega) ?_; intro v9 w9 hv9 hg9 hb9; have hg9' := grown_alloc hg9))
                  have HR9 := HP8.out.grow hv9 hg9' (fun k hk => (hb9 k hk).imp id (fun h => by simp at h; omega))
                  rw [← HPN.out, ← HON.out] at HR9
                  have HR9' := Lib.hid HR9
                  have hxe := HX1.out
                  have hB8 : Below p W0 w8 := HBe.out.grown hg8' (Nat.le_trans HPB.out HLE.out) (fun kk hk => Nat.le_trans HPB.out (hxe.lt kk hk).1)
                  have HB9 : Hid (Below p W0 w9) := hB8.grown hg9' (Nat.le_trans HPB.out HLE8.out) (fun kk hk => Nat.le_trans HPB.out ((HP8.out.extra (x := .slice rra _ rrc) (r := (pairPart st nx bn s k)) (List.mem_cons_self ..)).has.lt kk hk).1)
                  have hm20 : (midP st nx bn i s (k + 1)).length ≤ 20 := by rw [HON.out, List.length_append, HML.out]; simp; omega
                  clear hv8 hg8 hb8 hg8' hv9 hg9 hb9 hg9' HR9 HP8 hB8 hxe HX1 HPM11
                  go_wp2
                  go_roundw
                  case rel => exact ⟨k + 1, _, _, by omega, hm20, by go_num, HR9', HB9⟩
                  case measure => simp [intOf]; omega
                · have hdf : decide (f < 0) = false := decide_eq_false (by omega)
                  have hpo := place_old (st := st) (nx := nx) (b := bn) hi16 hkb2 HSI.out (by rw [← HTN.out, ← HMD.out]; exact hyes)
                  rw [← HTN.out, ← HMD.out] at hpo
                  have HON := Lib.hid hpo.1
                  have HPN : Hid (pairPart st nx bn s (k + 1) = (pairPart st nx bn s k) ++ [f]) := by
                    show _ = _
                    rw [HPS.out, ← HTN.out, hpo.2, hfx]
                  clear hgo hyes hfx hpo hf1
                  have hpf := HPM11.out.forget
                  have HP8 := Lib.hid hpf
                  clear hpf HPM11
                  by_cases hnl2 : n < ml
                  all_goals
                    go_wp2_with (at_builtin; refine wpList_append_list (enc := Value.int .i64) (e := 3) rfl (.tmp 111) (.tmp 113) 25 rfl BB i0 (.int .i64 0) 8 Try.underlying25 hi0 hz0 hz1 hz2 rfl (.slice rra k rrc) (pairPart st nx bn s k) rfl (has_alloc (HP8.out.extra (x := .slice rra k rrc) (r := (pairPart st nx bn s k)) (List.mem_cons_self ..)).has _) (.slice (some ⟨W11.heap.size, 0, none⟩) 1 1) [f] rfl (lies_lit1 (enc := Value.int .i64) _ rfl) (fun _ _ => rfl) (by rw [HPL.out]; simp only [List.length_cons, List.length_nil]; omega) (by rw [HPL.out]; simp only [List.length_cons, List.length_nil]; omega) (by have := HLE.out; simp; omega) ?_; intro v9 w9 hv9 hg9 hb9; have hg9' := grown_alloc hg9)
                    have HR9 := HP8.out.grow hv9 hg9' (fun k hk => (hb9 k hk).imp id (fun h => by simp at h; omega))
                    rw [← HPN.out, ← HON.out] at HR9
                    have HR9' := Lib.hid HR9
                    have HB9 : Hid (Below p W0 w9) := HBe.out.grown hg9' (Nat.le_trans HPB.out HLE.out) (fun kk hk => Nat.le_trans HPB.out ((HP8.out.extra (x := .slice rra _ rrc) (r := (pairPart st nx bn s k)) (List.mem_cons_self ..)).has.lt kk hk).1)
                    have hm20 : (midP st nx bn i s (k + 1)).length ≤ 20 := by rw [HON.out, HML.out]; omega
                    clear hv9 hg9 hb9 hg9' HR9 HP8
                    go_wp2
                    go_roundw
                    case rel => exact ⟨k + 1, _, _, by omega, hm20, by go_num, HR9', HB9⟩
                    case measure => simp [intOf]; omega
          case neg =>
            obtain ⟨tq, htq⟩ : ∃ t, t = tm s := ⟨_, rfl⟩
            have HTQ := Lib.hid htq
            clear htq
            -- the row is whole: it is appended
            have HKE := Lib.hid (show k = bn by omega)
            have hkd : decide (k < bn) = false := decide_eq_false hlk
            have HON : Hid (MD = pairI st nx bn (i + 1)) := by show _ = _; rw [HMD.out, HKE.out]; exact mid_end HSI.out
            have hPE : (pairPart st nx bn s k) = pairRow st nx bn s := by rw [HKE.out]; rfl
            have hfa := found_at (st := st) (nx := nx) (b := bn) (show i ≤ 17 by omega) HSI.out
            have HRS := Lib.hid (rows_succ hfa)
            have HOU := Lib.hid (outs_succ (tm := tm) hfa)
            have hM8 := hM.out
            rw [hPE] at hM8
            have HM8 := Lib.hid hM8
            have HUL : Hid (us.length = l1) := by show _ = _; rw [HL1.out]; exact hM8.ul
            have d1 := HM8.out.cells.c1
            have d2 := (HM8.out.cells.alloc (.cells #[Value.slice rra k rrc] 25)).c1
            have HNP := Lib.hid (has_ne_c3 HM8.out.top HM8.out.cells (by decide))
            have HLO8 := Lib.hid (show BB ≤ W8.heap.size from Nat.le_trans HM8.out.lo HM8.out.le)
            have HB8 := hB
            have e0 := hA.c0
            have HSI2 : Hid ((pairI st nx bn (i + 1))[i]? = some s) := by rw [← HON.out]; exact HSM.out
            have hln : (pairI st nx bn (i + 1)).length ≤ 20 := by rw [← HON.out, HML.out]; omega
            have hil2 : i + 1 ≤ (pairI st nx bn (i + 1)).length := by rw [← HON.out, HML.out]; omega
            have HLEN := Lib.hid (show ml = (pairI st nx bn (i + 1)).length by rw [← HON.out]; exact HML.out.symm)
            try clear hO
            clear hPE hfa hM8 hM hB hA hBw hc0 hc1 hc2
            go_wp2_with (at_builtin; refine wpList_append_list (enc := id) (e := 25) rfl (.tmp 116) (.tmp 118) 24 rfl BB i2 (.slice none 0 0) 24 Try.underlying24 hi2 hz20 hz21 hz22 rfl (.slice na l1 nc) us rfl (has_alloc HM8.out.top _) (.slice (some ⟨W8.heap.size, 0, none⟩) 1 1) [.slice rra k rrc] rfl (lies_lit1v _ rfl) (fun y hy => by simp at hy; subst hy; rfl) (by rw [HUL.out]; simp; omega) (by rw [HUL.out]; simp; omega) (by have := HLO8.out; simp; omega) ?_; intro v' w2 hv' hg2 hbk; obtain ⟨a3, c3, hvf, _⟩ := hv'.form; rw [show (us ++ [Value.slice rra k rrc]).length = l1 + 1 from by rw [List.length_append, HUL.out]; rfl] at hvf; subst hvf; have hg3 := grown_alloc hg2; have hc2 := HM8.out.cells.grown hg3 HNP.out; have d3 := hc2.c1; have df := hc2.f)
            obtain ⟨l3, hl3⟩ : ∃ l, l = l1 + 1 := ⟨_, rfl⟩
            rw [← hl3] at hv' hbk ⊢
            have hpm5 := HM8.out.done hv' hg3 (fun kk hk => (hbk kk hk).imp id (fun h => by simp at h; omega))
            rw [HON.out, ← HRS.out] at hpm5
            have HM5 := Lib.hid hpm5
            have HB5 : Hid (Below p W0 (w2.setCell ⟨p, 1, none⟩ (.slice a3 l3 c3))) := (HB8.out.grown hg3 (Nat.le_trans HPB.out HLO8.out) (fun kk hk => Nat.le_trans HPB.out (HM8.out.top.lt kk hk).1)).setCell (Nat.le_refl _) _
            have HG6 : Hid (BB ≤ (w2.setCell ⟨p, 1, none⟩ (.slice a3 l3 c3)).heap.size) := by show _ ≤ _; rw [size_setCell']; exact Nat.le_trans HLO8.out hg3.size
            obtain ⟨W5, hW5⟩ : ∃ W, W = w2.setCell ⟨p, 1, none⟩ (.slice a3 l3 c3) := ⟨_, rfl⟩
            rw [← hW5] at HM5 HB5 HG6 ⊢
            have HW5 := Lib.hid (show w2.heap.size = W5.heap.size by rw [hW5, size_setCell'])
            rw [HW5.out] at HM5
            clear hpm5 hv' hg2 hg3 hbk hc2 d1 d2 d3 df HM8 HB8 hW5 hl3 HNP HLO8 e0
            obtain ⟨eq3, eo3, ec3, g3, gc3, hve3, hd0, hd1, hd2, _⟩ := HM5.out.at_ HSI2.out
            rw [← HLEN.out] at hve3
            injection hve3 with f1 f2 f3
            injection f1 with f1
            injection f1 with f1 f1'
            subst f1; subst f1'; subst f3
            have hVO := HM5.out.terms
            have HVO := Lib.hid hVO.has
            have HOLN : Hid ((pairOuts st nx bn tm i).length = l2) := HL2.out.symm
            have c4 := HM5.out.cells.c2
            have c5 := (HM5.out.cells.alloc (.cells #[Value.int .i64 tq] 3)).c2
            have hpl := HM5.out.cells.lt
            have HNO := Lib.hid (has_ne_c3 HVO.out HM5.out.cells (by decide))
            clear hVO f2
            rw [HXY.out] at hd1 hd2
            simp only at hd1 hd2
            obtain ⟨qa, ta, he1, a1, hxo, _⟩ := term_cells (HSA.out.below HB3.out) HVA.out hxa
            obtain ⟨qb, tb, he2, b1, hyo, _⟩ := term_cells (HSB.out.below HB3.out) HVB.out hyb
            have hBW0 : Below W0.heap.size W0 W5 := by rw [← HP0.out]; exact HB5.out
            have a1' := old_cellC hBW0 a1
            have b1' := old_cellC hBW0 b1
            subst he1; subst he2
            have hA := c3_of_below HB5.out HA3.out (by have := HNUM.out; omega)
            have hO := c3_of_below HB5.out HO3.out (by have := HNUM.out; omega)
            have e1 := hA.c2
            have e2 := hO.c2
            have HCV := Lib.hid (fun W => spec_values (oa.getD x 0) (ob.getD y 0) how W)
            rw [HTM.out x y hxa hyb, ← HXY.out, ← HTQ.out] at HCV
            obtain ⟨o1, ho1⟩ : ∃ o, o = oa.getD x 0 := ⟨_, rfl⟩
            obtain ⟨o2, ho2⟩ : ∃ o, o = ob.getD y 0 := ⟨_, rfl⟩
            rw [← ho1] at a1' HCV
            rw [← ho2] at b1' HCV
            have hxoL : (x : Int) < (oa.length : Int) := by omega
            have hyoL : (y : Int) < (ob.length : Int) := by omega
            have HFAR := Lib.hid (HM5.out.at_far HSI2.out rfl hd0)
            have HQLT : Hid (qa < p ∧ qb < p) := by show _ ∧ _; rw [HP0.out]; exact ⟨World.block_lt_of_cell? W0 _ a1, World.block_lt_of_cell? W0 _ b1⟩
            clear ho1 ho2 a1 b1 hBW0 hA hO hxo hyo
            obtain ⟨KS, hKS⟩ : ∃ S : World → Prop, S = (fun w' => w'.cell? ⟨w.heap.size, 2, none⟩ = some (.slice (some ⟨qa, ta, none⟩) oa.length coa) ∧ w'.cell? ⟨w.heap.size + 1, 2, none⟩ = some (.slice (some ⟨qb, tb, none⟩) ob.length cob) ∧ w'.cell? ⟨eq, eo + i, none⟩ = some (.slice (some ⟨g3, 0, none⟩) 2 gc3) ∧ w'.cell? ⟨g3, 0, none⟩ = some (.int .i64 (x : Int)) ∧ w'.cell? ⟨g3, 1, none⟩ = some (.int .i64 (y : Int)) ∧ w'.cell? ⟨qa, ta + x, none⟩ = some (.int .i64 o1) ∧ w'.cell? ⟨qb, tb + y, none⟩ = some (.int .i64 o2)) := ⟨_, rfl⟩
            have HKEEP : Hid (∀ W' : World, (∀ k, k < W5.heap.size → (Value.slice oa1 l2 oc1).ownBlock ≠ some k → k ≠ p → W'.heap[k]? = W5.heap[k]?) → KS W') := by
              intro W' hk
              have hob : ∀ k, k < p → (Value.slice oa1 l2 oc1).ownBlock ≠ some k := fun k hkp e => by have := (HVO.out.lt k e).1; have := HNUM.out; omega
              have key : ∀ {a : Addr} {u : Value}, W5.cell? a = some u → (Value.slice oa1 l2 oc1).ownBlock ≠ some a.block → a.block ≠ p → W'.cell? a = some u := fun {a u} h1 h2 h3 => (cell_same (hk a.block (World.block_lt_of_cell? W5 a h1) h2 h3)).trans h1
              rw [hKS]
              exact ⟨key e1 (hob _ (by have := HNUM.out; show w.heap.size < p; omega)) (by have := HNUM.out; show w.heap.size ≠ p; omega), key e2 (hob _ (by have := HNUM.out; show w.heap.size + 1 < p; omega)) (by have := HNUM.out; show w.heap.size + 1 ≠ p; omega), key hd0 HFAR.out.2.1 HFAR.out.2.2, key hd1 HFAR.out.1.1 HFAR.out.1.2, key hd2 HFAR.out.1.1 HFAR.out.1.2, key a1' (hob _ HQLT.out.1) (Nat.ne_of_lt HQLT.out.1), key b1' (hob _ HQLT.out.2) (Nat.ne_of_lt HQLT.out.2)⟩
            have HKO : Hid (∀ W' : World, KS W' → (W'.cell? ⟨w.heap.size, 2, none⟩ = some (.slice (some ⟨qa, ta, none⟩) oa.length coa) ∧ W'.cell? ⟨w.heap.size + 1, 2, none⟩ = some (.slice (some ⟨qb, tb, none⟩) ob.length cob) ∧ W'.cell? ⟨eq, eo + i, none⟩ = some (.slice (some ⟨g3, 0, none⟩) 2 gc3) ∧ W'.cell? ⟨g3, 0, none⟩ = some (.int .i64 (x : Int)) ∧ W'.cell? ⟨g3, 1, none⟩ = some (.int .i64 (y : Int)) ∧ W'.cell? ⟨qa, ta + x, none⟩ = some (.int .i64 o1) ∧ W'.cell? ⟨qb, tb + y, none⟩ = some (.int .i64 o2))) := fun W' h => by rw [hKS] at h; exact h
            have c4d : W5.drew.cell? ⟨p, 2, none⟩ = some (.slice oa1 l2 oc1) := old_cellC (below_drew' W5) c4
            have c5d : (W5.drew.alloc (.cells #[Value.int .i64 tq] 3)).cell? ⟨p, 2, none⟩ = some (.slice oa1 l2 oc1) := (HM5.out.cells.below (below_drew' W5)).alloc (.cells #[Value.int .i64 tq] 3) |>.c2
            have HKD : Hid (KS W5.drew) := HKEEP.out _ fun k _ _ _ => rfl
            have HKA : Hid (KS (W5.drew.alloc (.cells #[Value.int .i64 tq] 3))) := HKEEP.out _ fun k hk _ _ => ((Below.refl W5.drew.heap.size W5.drew).alloc (Nat.le_refl _) _).block k hk
            clear hKS e1 e2 hd0 hd1 hd2 a1' b1'
            go_wp2_with fail
            refine wp_region_held_drew (S := KS) (by kernel_rfl) HKD.out (fun hHeld => ?_)
            refine wpAnyH_take (i := 0) (oi := { dst := some 121, op := Op.fieldAddr 27 (Operand.tmp 8) 2, type := 0, pos := "l05_combine.go:54", after := #[], guard := none }) (v := ?_) rfl (by kernel_rfl) (by kernel_rfl) (by kernel_rfl) (fun _ _ _ h => h) (Or.inl ⟨by rfl, ?_⟩) (by assumption) ?_
            rotate_left
            focus (intro w' hSw; obtain ⟨s1, s2, s3, s4, s5, s6, s7⟩ := HKO.out w' hSw; first | (go_simp; done) | (go_simp; with_reducible rfl))
            try simp only [Act.put, List.setIfInBounds_toArray, List.set_cons_zero, List.set_cons_succ]
            refine wpAnyH_take (i := 2) (oi := { dst := some 123, op := Op.fieldAddr 27 (Operand.tmp 3) 2, type := 0, pos := "l05_combine.go:54", after := #[], guard := none }) (v := ?_) rfl (by kernel_rfl) (by kernel_rfl) (by kernel_rfl) (fun _ _ _ h => h) (Or.inl ⟨by rfl, ?_⟩) (by assumption) ?_
            rotate_left
            focus (intro w' hSw; obtain ⟨s1, s2, s3, s4, s5, s6, s7⟩ := HKO.out w' hSw; first | (go_simp; done) | (go_simp; with_reducible rfl))
            try simp only [Act.put, List.setIfInBounds_toArray, List.set_cons_zero, List.set_cons_succ]
            refine wpAnyH_take (i := 3) (oi := { dst := some 124, op := Op.load 25 (Operand.tmp 123), type := 25, pos := "l05_combine.go:54", after := #[{ on := 2, ground := Ground.data }], guard := none }) (v := ?_) rfl (by kernel_rfl) (by kernel_rfl) (by kernel_rfl) (fun _ _ _ h => h) (Or.inl ⟨by rfl, ?_⟩) (by assumption) ?_
            rotate_left
            focus (intro w' hSw; obtain ⟨s1, s2, s3, s4, s5, s6, s7⟩ := HKO.out w' hSw; first | (go_simp; done) | (go_simp; with_reducible rfl))
            try simp only [Act.put, List.setIfInBounds_toArray, List.set_cons_zero, List.set_cons_succ]
            refine wpAnyH_take (i := 4) (oi := { dst := some 125, op := Op.move (Operand.tmp 9), type := 24, pos := "l05_combine.go:54", after := #[], guard := none }) (v := ?_) rfl (by kernel_rfl) (by kernel_rfl) (by kernel_rfl) (fun _ _ _ h => h) (Or.inl ⟨by rfl, ?_⟩) (by assumption) ?_
            rotate_left
            focus (intro w' hSw; obtain ⟨s1, s2, s3, s4, s5, s6, s7⟩ := HKO.out w' hSw; first | (go_simp; done) | (go_simp; with_reducible rfl))
            try simp only [Act.put, List.setIfInBounds_toArray, List.set_cons_zero, List.set_cons_succ]
            refine wpAnyH_take (i := 5) (oi := { dst := some 126, op := Op.move (Operand.tmp 10), type := 3, pos := "l05_combine.go:54", after := #[], guard := none }) (v := ?_) rfl (by kernel_rfl) (by kernel_rfl) (by kernel_rfl) (fun _ _ _ h => h) (Or.inl ⟨by rfl, ?_⟩) (by assumption) ?_
            rotate_left
            focus (intro w' hSw; obtain ⟨s1, s2, s3, s4, s5, s6, s7⟩ := HKO.out w' hSw; first | (go_simp; done) | (go_simp; with_reducible rfl))
            try simp only [Act.put, List.setIfInBounds_toArray, List.set_cons_zero, List.set_cons_succ]
            refine wpAnyH_take (i := 6) (oi := { dst := some 127, op := Op.indexAddr 24 (Operand.tmp 125) (Operand.tmp 126), type := 0, pos := "l05_combine.go:54", after := #[{ on := 4, ground := Ground.data }, { on := 5, ground := Ground.data }], guard := none }) (v := ?_) rfl (by kernel_rfl) (by kernel_rfl) (by kernel_rfl) (fun _ _ _ h => h) (Or.inl ⟨by rfl, ?_⟩) (by assumption) ?_
            rotate_left
            focus (intro w' hSw; obtain ⟨s1, s2, s3, s4, s5, s6, s7⟩ := HKO.out w' hSw; first | (go_simp; done) | (go_simp; with_reducible rfl))
            try simp only [Act.put, List.setIfInBounds_toArray, List.set_cons_zero, List.set_cons_succ]
            refine wpAnyH_take (i := 7) (oi := { dst := some 128, op := Op.load 25 (Operand.tmp 127), type := 25, pos := "l05_combine.go:54", after := #[{ on := 6, ground := Ground.data }], guard := none }) (v := ?_) rfl (by kernel_rfl) (by kernel_rfl) (by kernel_rfl) (fun _ _ _ h => h) (Or.inl ⟨by rfl, ?_⟩) (by assumption) ?_
            rotate_left
            focus (intro w' hSw; obtain ⟨s1, s2, s3, s4, s5, s6, s7⟩ := HKO.out w' hSw; first | (go_simp; done) | (go_simp; with_reducible rfl))
            try simp only [Act.put, List.setIfInBounds_toArray, List.set_cons_zero, List.set_cons_succ]
            refine wpAnyH_take (i := 8) (oi := { dst := some 129, op := Op.indexAddr 25 (Operand.tmp 128) (Operand.const (Value.int IntKind.i64 0)), type := 0, pos := "l05_combine.go:54", after := #[{ on := 7, ground := Ground.data }], guard := none }) (v := ?_) rfl (by kernel_rfl) (by kernel_rfl) (by kernel_rfl) (fun _ _ _ h => h) (Or.inl ⟨by rfl, ?_⟩) (by assumption) ?_
            rotate_left
            focus (intro w' hSw; obtain ⟨s1, s2, s3, s4, s5, s6, s7⟩ := HKO.out w' hSw; first | (go_simp; done) | (go_simp; with_reducible rfl))
            try simp only [Act.put, List.setIfInBounds_toArray, List.set_cons_zero, List.set_cons_succ]
            refine wpAnyH_take (i := 9) (oi := { dst := some 130, op := Op.load 3 (Operand.tmp 129), type := 3, pos := "l05_combine.go:54", after := #[{ on := 8, ground := Ground.data }], guard := none }) (v := ?_) rfl (by kernel_rfl) (by kernel_rfl) (by kernel_rfl) (fun _ _ _ h => h) (Or.inl ⟨by rfl, ?_⟩) (by assumption) ?_
            rotate_left
            focus (intro w' hSw; obtain ⟨s1, s2, s3, s4, s5, s6, s7⟩ := HKO.out w' hSw; first | (go_simp; done) | (go_simp; with_reducible rfl))
            try simp only [Act.put, List.setIfInBounds_toArray, List.set_cons_zero, List.set_cons_succ]
            refine wpAnyH_take (i := 10) (oi := { dst := some 131, op := Op.indexAddr 25 (Operand.tmp 124) (Operand.tmp 130), type := 0, pos := "l05_combine.go:54", after := #[{ on := 3, ground := Ground.data }, { on := 9, ground := Ground.data }], guard := none }) (v := ?_) rfl (by kernel_rfl) (by kernel_rfl) (by kernel_rfl) (fun _ _ _ h => h) (Or.inl ⟨by rfl, ?_⟩) (by assumption) ?_
            rotate_left
            focus (intro w' hSw; obtain ⟨s1, s2, s3, s4, s5, s6, s7⟩ := HKO.out w' hSw; first | (go_simp; done) | (go_simp; with_reducible rfl))
            try simp only [Act.put, List.setIfInBounds_toArray, List.set_cons_zero, List.set_cons_succ]
            refine wpAnyH_take (i := 11) (oi := { dst := some 132, op := Op.load 3 (Operand.tmp 131), type := 3, pos := "l05_combine.go:54", after := #[{ on := 10, ground := Ground.data }], guard := none }) (v := ?_) rfl (by kernel_rfl) (by kernel_rfl) (by kernel_rfl) (fun _ _ _ h => h) (Or.inl ⟨by rfl, ?_⟩) (by assumption) ?_
            rotate_left
            focus (intro w' hSw; obtain ⟨s1, s2, s3, s4, s5, s6, s7⟩ := HKO.out w' hSw; first | (go_simp; done) | (go_simp; with_reducible rfl))
            try simp only [Act.put, List.setIfInBounds_toArray, List.set_cons_zero, List.set_cons_succ]
            refine wpAnyH_take (i := 12) (oi := { dst := some 133, op := Op.fieldAddr 27 (Operand.tmp 4) 2, type := 0, pos := "l05_combine.go:54", after := #[], guard := none }) (v := ?_) rfl (by kernel_rfl) (by kernel_rfl) (by kernel_rfl) (fun _ _ _ h => h) (Or.inl ⟨by rfl, ?_⟩) (by assumption) ?_
            rotate_left
            focus (intro w' hSw; obtain ⟨s1, s2, s3, s4, s5, s6, s7⟩ := HKO.out w' hSw; first | (go_simp; done) | (go_simp; with_reducible rfl))
            try simp only [Act.put, List.setIfInBounds_toArray, List.set_cons_zero, List.set_cons_succ]
            refine wpAnyH_take (i := 13) (oi := { dst := some 134, op := Op.load 25 (Operand.tmp 133), type := 25, pos := "l05_combine.go:54", after := #[{ on := 12, ground := Ground.data }], guard := none }) (v := ?_) rfl (by kernel_rfl) (by kernel_rfl) (by kernel_rfl) (fun _ _ _ h => h) (Or.inl ⟨by rfl, ?_⟩) (by assumption) ?_
            rotate_left
            focus (intro w' hSw; obtain ⟨s1, s2, s3, s4, s5, s6, s7⟩ := HKO.out w' hSw; first | (go_simp; done) | (go_simp; with_reducible rfl))
            try simp only [Act.put, List.setIfInBounds_toArray, List.set_cons_zero, List.set_cons_succ]
            refine wpAnyH_take (i := 14) (oi := { dst := some 135, op := Op.move (Operand.tmp 9), type := 24, pos := "l05_combine.go:54", after := #[], guard := none }) (v := ?_) rfl (by kernel_rfl) (by kernel_rfl) (by kernel_rfl) (fun _ _ _ h => h) (Or.inl ⟨by rfl, ?_⟩) (by assumption) ?_
            rotate_left
            focus (intro w' hSw; obtain ⟨s1, s2, s3, s4, s5, s6, s7⟩ := HKO.out w' hSw; first | (go_simp; done) | (go_simp; with_reducible rfl))
            try simp only [Act.put, List.setIfInBounds_toArray, List.set_cons_zero, List.set_cons_succ]
            refine wpAnyH_take (i := 15) (oi := { dst := some 136, op := Op.move (Operand.tmp 10), type := 3, pos := "l05_combine.go:54", after := #[], guard := none }) (v := ?_) rfl (by kernel_rfl) (by kernel_rfl) (by kernel_rfl) (fun _ _ _ h => h) (Or.inl ⟨by rfl, ?_⟩) (by assumption) ?_
            rotate_left
            focus (intro w' hSw; obtain ⟨s1, s2, s3, s4, s5, s6, s7⟩ := HKO.out w' hSw; first | (go_simp; done) | (go_simp; with_reducible rfl))
            try simp only [Act.put, List.setIfInBounds_toArray, List.set_cons_zero, List.set_cons_succ]
            refine wpAnyH_take (i := 16) (oi := { dst := some 137, op := Op.indexAddr 24 (Operand.tmp 135) (Operand.tmp 136), type := 0, pos := "l05_combine.go:54", after := #[{ on := 14, ground := Ground.data }, { on := 15, ground := Ground.data }], guard := none }) (v := ?_) rfl (by kernel_rfl) (by kernel_rfl) (by kernel_rfl) (fun _ _ _ h => h) (Or.inl ⟨by rfl, ?_⟩) (by assumption) ?_
            rotate_left
            focus (intro w' hSw; obtain ⟨s1, s2, s3, s4, s5, s6, s7⟩ := HKO.out w' hSw; first | (go_simp; done) | (go_simp; with_reducible rfl))
            try simp only [Act.put, List.setIfInBounds_toArray, List.set_cons_zero, List.set_cons_succ]
            refine wpAnyH_take (i := 17) (oi := { dst := some 138, op := Op.load 25 (Operand.tmp 137), type := 25, pos := "l05_combine.go:54", after := #[{ on := 16, ground := Ground.data }], guard := none }) (v := ?_) rfl (by kernel_rfl) (by kernel_rfl) (by kernel_rfl) (fun _ _ _ h => h) (Or.inl ⟨by rfl, ?_⟩) (by assumption) ?_
            rotate_left
            focus (intro w' hSw; obtain ⟨s1, s2, s3, s4, s5, s6, s7⟩ := HKO.out w' hSw; first | (go_simp; done) | (go_simp; with_reducible rfl))
            try simp only [Act.put, List.setIfInBounds_toArray, List.set_cons_zero, List.set_cons_succ]
            refine wpAnyH_take (i := 18) (oi := { dst := some 139, op := Op.indexAddr 25 (Operand.tmp 138) (Operand.const (Value.int IntKind.i64 1)), type := 0, pos := "l05_combine.go:54", after := #[{ on := 17, ground := Ground.data }], guard := none }) (v := ?_) rfl (by kernel_rfl) (by kernel_rfl) (by kernel_rfl) (fun _ _ _ h => h) (Or.inl ⟨by rfl, ?_⟩) (by assumption) ?_
            rotate_left
            focus (intro w' hSw; obtain ⟨s1, s2, s3, s4, s5, s6, s7⟩ := HKO.out w' hSw; first | (go_simp; done) | (go_simp; with_reducible rfl))
            try simp only [Act.put, List.setIfInBounds_toArray, List.set_cons_zero, List.set_cons_succ]
            refine wpAnyH_take (i := 19) (oi := { dst := some 140, op := Op.load 3 (Operand.tmp 139), type := 3, pos := "l05_combine.go:54", after := #[{ on := 18, ground := Ground.data }], guard := none }) (v := ?_) rfl (by kernel_rfl) (by kernel_rfl) (by kernel_rfl) (fun _ _ _ h => h) (Or.inl ⟨by rfl, ?_⟩) (by assumption) ?_
            rotate_left
            focus (intro w' hSw; obtain ⟨s1, s2, s3, s4, s5, s6, s7⟩ := HKO.out w' hSw; first | (go_simp; done) | (go_simp; with_reducible rfl))
            try simp only [Act.put, List.setIfInBounds_toArray, List.set_cons_zero, List.set_cons_succ]
            refine wpAnyH_take (i := 20) (oi := { dst := some 141, op := Op.indexAddr 25 (Operand.tmp 134) (Operand.tmp 140), type := 0, pos := "l05_combine.go:54", after := #[{ on := 13, ground := Ground.data }, { on := 19, ground := Ground.data }], guard := none }) (v := ?_) rfl (by kernel_rfl) (by kernel_rfl) (by kernel_rfl) (fun _ _ _ h => h) (Or.inl ⟨by rfl, ?_⟩) (by assumption) ?_
            rotate_left
            focus (intro w' hSw; obtain ⟨s1, s2, s3, s4, s5, s6, s7⟩ := HKO.out w' hSw; first | (go_simp; done) | (go_simp; with_reducible rfl))
            try simp only [Act.put, List.setIfInBounds_toArray, List.set_cons_zero, List.set_cons_succ]
            refine wpAnyH_take (i := 21) (oi := { dst := some 142, op := Op.load 3 (Operand.tmp 141), type := 3, pos := "l05_combine.go:54", after := #[{ on := 20, ground := Ground.data }], guard := none }) (v := ?_) rfl (by kernel_rfl) (by kernel_rfl) (by kernel_rfl) (fun _ _ _ h => h) (Or.inl ⟨by rfl, ?_⟩) (by assumption) ?_
            rotate_left
            focus (intro w' hSw; obtain ⟨s1, s2, s3, s4, s5, s6, s7⟩ := HKO.out w' hSw; first | (go_simp; done) | (go_simp; with_reducible rfl))
            try simp only [Act.put, List.setIfInBounds_toArray, List.set_cons_zero, List.set_cons_succ]
            refine wpAnyH_take (i := 22) (oi := { dst := some 143, op := Op.move (Operand.tmp 2), type := 3, pos := "l05_combine.go:54", after := #[], guard := none }) (v := ?_) rfl (by kernel_rfl) (by kernel_rfl) (by kernel_rfl) (fun _ _ _ h => h) (Or.inl ⟨by rfl, ?_⟩) (by assumption) ?_
            rotate_left
            focus (intro w' hSw; obtain ⟨s1, s2, s3, s4, s5, s6, s7⟩ := HKO.out w' hSw; first | (go_simp; done) | (go_simp; with_reducible rfl))
            try simp only [Act.put, List.setIfInBounds_toArray, List.set_cons_zero, List.set_cons_succ]
            refine wpAnyH_ready (rs := [1, 23]) (by kernel_rfl) (by simp) ?_
            refine AllReadyH.cons (o := { dst := some 122, op := Op.load 25 (Operand.tmp 121), type := 25, pos := "l05_combine.go:54", after := #[{ on := 0, ground := Ground.data }], guard := none }) rfl (fun K hK => ?_) (AllReadyH.cons (o := { dst := some 144, op := Op.call { callee := Callee.value (Operand.func 27), args := #[Operand.tmp 132, Operand.tmp 142, Operand.tmp 143], argTypes := #[3, 3, 3] }, type := 3, pos := "l05_combine.go:54", after := #[{ on := 11, ground := Ground.data }, { on := 21, ground := Ground.data }, { on := 22, ground := Ground.data }], guard := none }) rfl (fun K hK => ?_) AllReadyH.nil)
            · go_simp
              refine hK.out _ _ (HKD.out) (fun hHeld => ?_)
              clear hK K
              try simp only [Act.put, List.setIfInBounds_toArray, List.set_cons_zero, List.set_cons_succ]
              refine wpAnyH_ready (rs := [23]) (by kernel_rfl) (by simp) ?_
              refine AllReadyH.cons (o := { dst := some 144, op := Op.call { callee := Callee.value (Operand.func 27), args := #[Operand.tmp 132, Operand.tmp 142, Operand.tmp 143], argTypes := #[3, 3, 3] }, type := 3, pos := "l05_combine.go:54", after := #[{ on := 11, ground := Ground.data }, { on := 21, ground := Ground.data }, { on := 22, ground := Ground.data }], guard := none }) rfl (fun K hK => ?_) AllReadyH.nil
              · go_simp
                go_at_call 27
                (with_reducible refine (HCV.out _).mono ?_)
                rintro e Wv ⟨rfl, rfl⟩
                refine hK.out _ _ (HKD.out) (fun hHeld => ?_)
                clear hK K
                try simp only [Act.put, List.setIfInBounds_toArray, List.set_cons_zero, List.set_cons_succ]
                refine wpAnyH_ready (rs := [24]) (by kernel_rfl) (by simp) ?_
                refine AllReadyH.cons (o := { dst := some 145, op := Op.buildSlice 25 1 #[(0, Operand.tmp 144)], type := 25, pos := "l05_combine.go:54", after := #[{ on := 23, ground := Ground.data }], guard := none }) rfl (fun K hK => ?_) AllReadyH.nil
                · go_simp
                  refine hK.out _ _ (HKA.out) (fun hHeld => ?_)
                  clear hK K
                  try simp only [Act.put, List.setIfInBounds_toArray, List.set_cons_zero, List.set_cons_succ]
                  refine wpAnyH_ready (rs := [25]) (by kernel_rfl) (by simp) ?_
                  refine AllReadyH.cons (o := { dst := some 146, op := Op.call { callee := Callee.builtin Builtin.append, args := #[Operand.tmp 122, Operand.tmp 145], argTypes := #[25, 25] }, type := 25, pos := "l05_combine.go:54", after := #[{ on := 1, ground := Ground.data }, { on := 24, ground := Ground.data }, { on := 23, ground := Ground.chain }], guard := none }) rfl (fun K hK => ?_) AllReadyH.nil
                  · (refine step_append_at_list (enc := Value.int .i64) (e := 3) rfl (.tmp 122) (.tmp 145) 25 rfl BB i0 (.int .i64 0) 8 Try.underlying25 hi0 hz0 hz1 hz2 rfl (.slice oa1 l2 oc1) (pairOuts st nx bn tm i) rfl (by repeat (first | with_reducible exact HVO.out | with_reducible apply has_drew | with_reducible apply has_alloc)) (Value.slice (some ⟨_, 0, none⟩) 1 1) [tq] rfl (by repeat (first | with_reducible apply lies_drew | (with_reducible refine lies_lit1 (enc := Value.int .i64) _ rfl) | with_reducible apply lies_alloc)) (fun _ _ => rfl) (by rw [HOLN.out]; simp; omega) (by rw [HOLN.out]; simp; omega) (by have := HG6.out; simp; omega) ?_; intro vt w6 ho6 hg6 hb6; obtain ⟨a6, c6, hvf, _⟩ := ho6.form; rw [show ((pairOuts st nx bn tm i) ++ [tq]).length = l2 + 1 from by rw [List.length_append, HOLN.out]; rfl] at hvf; subst hvf; refine with_fact (T := W5.grownBy w6 (Value.slice oa1 l2 oc1).ownBlock) ?_ ?_; (focus (exact grown_alloc (grown_drew hg6))); intro hg7; have hc7 := HM5.out.cells.grown hg7 HNO.out; have r1 := hc7.c2; have r3 := hc7.f)
                    have HKG : Hid (KS w6) := HKEEP.out _ fun k hk h1 _ => hg7.block k hk (Ne.symm h1)
                    have HKS : Hid (KS (w6.setCell ⟨p, 2, none⟩ (.slice a6 (l2 + 1) c6))) := HKEEP.out _ fun k hk h1 h2 => by rw [← hg7.block k hk (Ne.symm h1)]; simp [World.setCell, Array.getElem?_modify, Ne.symm h2]
                    refine hK.out _ _ (HKG.out) (fun hHeld => ?_)
                    clear hK K
                    try simp only [Act.put, List.setIfInBounds_toArray, List.set_cons_zero, List.set_cons_succ]
                    refine wpAnyH_ready (rs := [26]) (by kernel_rfl) (by simp) ?_
                    refine AllReadyH.cons (o := { dst := some 147, op := Op.fieldAddr 27 (Operand.tmp 8) 2, type := 0, pos := "l05_combine.go:54", after := #[{ on := 0, ground := Ground.phase }, { on := 1, ground := Ground.phase }, { on := 2, ground := Ground.phase }, { on := 3, ground := Ground.phase }, { on := 4, ground := Ground.phase }, { on := 5, ground := Ground.phase }, { on := 6, ground := Ground.phase }, { on := 7, ground := Ground.phase }, { on := 8, ground := Ground.phase }, { on := 9, ground := Ground.phase }, { on := 10, ground := Ground.phase }, { on := 11, ground := Ground.phase }, { on := 12, ground := Ground.phase }, { on := 13, ground := Ground.phase }, { on := 14, ground := Ground.phase }, { on := 15, ground := Ground.phase }, { on := 16, ground := Ground.phase }, { on := 17, ground := Ground.phase }, { on := 18, ground := Ground.phase }, { on := 19, ground := Ground.phase }, { on := 20, ground := Ground.phase }, { on := 21, ground := Ground.phase }, { on := 22, ground := Ground.phase }, { on := 23, ground := Ground.phase }, { on := 24, ground := Ground.phase }, { on := 25, ground := Ground.phase }], guard := none }) rfl (fun K hK => ?_) AllReadyH.nil
                    · go_simp
                      refine hK.out _ _ (HKG.out) (fun hHeld => ?_)
                      clear hK K
                      try simp only [Act.put, List.setIfInBounds_toArray, List.set_cons_zero, List.set_cons_succ]
                      refine wpAnyH_ready (rs := [27]) (by kernel_rfl) (by simp) ?_
                      refine AllReadyH.cons (o := { dst := none, op := Op.store 25 (Operand.tmp 147) (Operand.tmp 146), type := 0, pos := "l05_combine.go:54", after := #[{ on := 26, ground := Ground.data }, { on := 25, ground := Ground.data }, { on := 25, ground := Ground.chain }, { on := 0, ground := Ground.phase }, { on := 1, ground := Ground.phase }, { on := 2, ground := Ground.phase }, { on := 3, ground := Ground.phase }, { on := 4, ground := Ground.phase }, { on := 5, ground := Ground.phase }, { on := 6, ground := Ground.phase }, { on := 7, ground := Ground.phase }, { on := 8, ground := Ground.phase }, { on := 9, ground := Ground.phase }, { on := 10, ground := Ground.phase }, { on := 11, ground := Ground.phase }, { on := 12, ground := Ground.phase }, { on := 13, ground := Ground.phase }, { on := 14, ground := Ground.phase }, { on := 15, ground := Ground.phase }, { on := 16, ground := Ground.phase }, { on := 17, ground := Ground.phase }, { on := 18, ground := Ground.phase }, { on := 19, ground := Ground.phase }, { on := 20, ground := Ground.phase }, { on := 21, ground := Ground.phase }, { on := 22, ground := Ground.phase }, { on := 23, ground := Ground.phase }, { on := 24, ground := Ground.phase }, { on := 25, ground := Ground.phase }], guard := none }) rfl (fun K hK => ?_) AllReadyH.nil
                      · go_simp
                        refine hK.out _ _ (HKS.out) (fun hHeld => ?_)
                        clear hK K
                        try simp only [Act.put, List.setIfInBounds_toArray, List.set_cons_zero, List.set_cons_succ]
                        refine wpAnyH_done (by kernel_rfl) ?_ _
                        have hm7 := HM5.out.term ho6 hg7 (fun kk hk => (hb6 kk hk).imp id (fun h => by simp at h; omega))
                        rw [HTQ.out, ← HOU.out] at hm7
                        have HM9 := Lib.hid hm7
                        have HB7 : Hid (Below p W0 (w6.setCell ⟨p, 2, none⟩ (.slice a6 (l2 + 1) c6))) := (HB5.out.grown hg7 (Nat.le_trans HPB.out HG6.out) (fun kk hk => Nat.le_trans HPB.out (HVO.out.lt kk hk).1)).setCell (Nat.le_refl _) _
                        have hi17 : i + 1 ≤ 16 := by have := H16.out; have := HL0.out; omega
                        clear ho6 hb6 hg6 hg7 hc7 r1 r3 c4 c5 c4d c5d hpl HM5 HB5 HVO HNO hm7 HKEEP HKO HKD HKA HKG HKS hHeld
                        go_wp2
                        go_roundw
                        case rel => exact ⟨i + 1, _, _, _, _, _, hil2, hi17, hln, by go_num, HM9, HB7⟩
                        case measure => simp [intOf]; omega
            · go_simp
              go_at_call 27
              (with_reducible refine (HCV.out _).mono ?_)
              rintro e Wv ⟨rfl, rfl⟩
              refine hK.out _ _ (HKD.out) (fun hHeld => ?_)
              clear hK K
              try simp only [Act.put, List.setIfInBounds_toArray, List.set_cons_zero, List.set_cons_succ]
              refine wpAnyH_ready (rs := [1, 24]) (by kernel_rfl) (by simp) ?_
              refine AllReadyH.cons (o := { dst := some 122, op := Op.load 25 (Operand.tmp 121), type := 25, pos := "l05_combine.go:54", after := #[{ on := 0, ground := Ground.data }], guard := none }) rfl (fun K hK => ?_) (AllReadyH.cons (o := { dst := some 145, op := Op.buildSlice 25 1 #[(0, Operand.tmp 144)], type := 25, pos := "l05_combine.go:54", after := #[{ on := 23, ground := Ground.data }], guard := none }) rfl (fun K hK => ?_) AllReadyH.nil)
              · go_simp
                refine hK.out _ _ (HKD.out) (fun hHeld => ?_)
                clear hK K
                try simp only [Act.put, List.setIfInBounds_toArray, List.set_cons_zero, List.set_cons_succ]
                refine wpAnyH_ready (rs := [24]) (by kernel_rfl) (by simp) ?_
                refine AllReadyH.cons (o := { dst := some 145, op := Op.buildSlice 25 1 #[(0, Operand.tmp 144)], type := 25, pos := "l05_combine.go:54", after := #[{ on := 23, ground := Ground.data }], guard := none }) rfl (fun K hK => ?_) AllReadyH.nil
                · go_simp
                  refine hK.out _ _ (HKA.out) (fun hHeld => ?_)
                  clear hK K
                  try simp only [Act.put, List.setIfInBounds_toArray, List.set_cons_zero, List.set_cons_succ]
                  refine wpAnyH_ready (rs := [25]) (by kernel_rfl) (by simp) ?_
                  refine AllReadyH.cons (o := { dst := some 146, op := Op.call { callee := Callee.builtin Builtin.append, args := #[Operand.tmp 122, Operand.tmp 145], argTypes := #[25, 25] }, type := 25, pos := "l05_combine.go:54", after := #[{ on := 1, ground := Ground.data }, { on := 24, ground := Ground.data }, { on := 23, ground := Ground.chain }], guard := none }) rfl (fun K hK => ?_) AllReadyH.nil
                  · (refine step_append_at_list (enc := Value.int .i64) (e := 3) rfl (.tmp 122) (.tmp 145) 25 rfl BB i0 (.int .i64 0) 8 Try.underlying25 hi0 hz0 hz1 hz2 rfl (.slice oa1 l2 oc1) (pairOuts st nx bn tm i) rfl (by repeat (first | with_reducible exact HVO.out | with_reducible apply has_drew | with_reducible apply has_alloc)) (Value.slice (some ⟨_, 0, none⟩) 1 1) [tq] rfl (by repeat (first | with_reducible apply lies_drew | (with_reducible refine lies_lit1 (enc := Value.int .i64) _ rfl) | with_reducible apply lies_alloc)) (fun _ _ => rfl) (by rw [HOLN.out]; simp; omega) (by rw [HOLN.out]; simp; omega) (by have := HG6.out; simp; omega) ?_; intro vt w6 ho6 hg6 hb6; obtain ⟨a6, c6, hvf, _⟩ := ho6.form; rw [show ((pairOuts st nx bn tm i) ++ [tq]).length = l2 + 1 from by rw [List.length_append, HOLN.out]; rfl] at hvf; subst hvf; refine with_fact (T := W5.grownBy w6 (Value.slice oa1 l2 oc1).ownBlock) ?_ ?_; (focus (exact grown_alloc (grown_drew hg6))); intro hg7; have hc7 := HM5.out.cells.grown hg7 HNO.out; have r1 := hc7.c2; have r3 := hc7.f)
                    have HKG : Hid (KS w6) := HKEEP.out _ fun k hk h1 _ => hg7.block k hk (Ne.symm h1)
                    have HKS : Hid (KS (w6.setCell ⟨p, 2, none⟩ (.slice a6 (l2 + 1) c6))) := HKEEP.out _ fun k hk h1 h2 => by rw [← hg7.block k hk (Ne.symm h1)]; simp [World.setCell, Array.getElem?_modify, Ne.symm h2]
                    refine hK.out _ _ (HKG.out) (fun hHeld => ?_)
                    clear hK K
                    try simp only [Act.put, List.setIfInBounds_toArray, List.set_cons_zero, List.set_cons_succ]
                    refine wpAnyH_ready (rs := [26]) (by kernel_rfl) (by simp) ?_
                    refine AllReadyH.cons (o := { dst := some 147, op := Op.fieldAddr 27 (Operand.tmp 8) 2, type := 0, pos := "l05_combine.go:54", after := #[{ on := 0, ground := Ground.phase }, { on := 1, ground := Ground.phase }, { on := 2, ground := Ground.phase }, { on := 3, ground := Ground.phase }, { on := 4, ground := Ground.phase }, { on := 5, ground := Ground.phase }, { on := 6, ground := Ground.phase }, { on := 7, ground := Ground.phase }, { on := 8, ground := Ground.phase }, { on := 9, ground := Ground.phase }, { on := 10, ground := Ground.phase }, { on := 11, ground := Ground.phase }, { on := 12, ground := Ground.phase }, { on := 13, ground := Ground.phase }, { on := 14, ground := Ground.phase }, { on := 15, ground := Ground.phase }, { on := 16, ground := Ground.phase }, { on := 17, ground := Ground.phase }, { on := 18, ground := Ground.phase }, { on := 19, ground := Ground.phase }, { on := 20, ground := Ground.phase }, { on := 21, ground := Ground.phase }, { on := 22, ground := Ground.phase }, { on := 23, ground := Ground.phase }, { on := 24, ground := Ground.phase }, { on := 25, ground := Ground.phase }], guard := none }) rfl (fun K hK => ?_) AllReadyH.nil
                    · go_simp
                      refine hK.out _ _ (HKG.out) (fun hHeld => ?_)
                      clear hK K
                      try simp only [Act.put, List.setIfInBounds_toArray, List.set_cons_zero, List.set_cons_succ]
                      refine wpAnyH_ready (rs := [27]) (by kernel_rfl) (by simp) ?_
                      refine AllReadyH.cons (o := { dst := none, op := Op.store 25 (Operand.tmp 147) (Operand.tmp 146), type := 0, pos := "l05_combine.go:54", after := #[{ on := 26, ground := Ground.data }, { on := 25, ground := Ground.data }, { on := 25, ground := Ground.chain }, { on := 0, ground := Ground.phase }, { on := 1, ground := Ground.phase }, { on := 2, ground := Ground.phase }, { on := 3, ground := Ground.phase }, { on := 4, ground := Ground.phase }, { on := 5, ground := Ground.phase }, { on := 6, ground := Ground.phase }, { on := 7, ground := Ground.phase }, { on := 8, ground := Ground.phase }, { on := 9, ground := Ground.phase }, { on := 10, ground := Ground.phase }, { on := 11, ground := Ground.phase }, { on := 12, ground := Ground.phase }, { on := 13, ground := Ground.phase }, { on := 14, ground := Ground.phase }, { on := 15, ground := Ground.phase }, { on := 16, ground := Ground.phase }, { on := 17, ground := Ground.phase }, { on := 18, ground := Ground.phase }, { on := 19, ground := Ground.phase }, { on := 20, ground := Ground.phase }, { on := 21, ground := Ground.phase }, { on := 22, ground := Ground.phase }, { on := 23, ground := Ground.phase }, { on := 24, ground := Ground.phase }, { on := 25, ground := Ground.phase }], guard := none }) rfl (fun K hK => ?_) AllReadyH.nil
                      · go_simp
                        refine hK.out _ _ (HKS.out) (fun hHeld => ?_)
                        clear hK K
                        try simp only [Act.put, List.setIfInBounds_toArray, List.set_cons_zero, List.set_cons_succ]
                        refine wpAnyH_done (by kernel_rfl) ?_ _
                        have hm7 := HM5.out.term ho6 hg7 (fun kk hk => (hb6 kk hk).imp id (fun h => by simp at h; omega))
                        rw [HTQ.out, ← HOU.out] at hm7
                        have HM9 := Lib.hid hm7
                        have HB7 : Hid (Below p W0 (w6.setCell ⟨p, 2, none⟩ (.slice a6 (l2 + 1) c6))) := (HB5.out.grown hg7 (Nat.le_trans HPB.out HG6.out) (fun kk hk => Nat.le_trans HPB.out (HVO.out.lt kk hk).1)).setCell (Nat.le_refl _) _
                        have hi17 : i + 1 ≤ 16 := by have := H16.out; have := HL0.out; omega
                        clear ho6 hb6 hg6 hg7 hc7 r1 r3 c4 c5 c4d c5d hpl HM5 HB5 HVO HNO hm7 HKEEP HKO HKD HKA HKG HKS hHeld
                        go_wp2
                        go_roundw
                        case rel => exact ⟨i + 1, _, _, _, _, _, hil2, hi17, hln, by go_num, HM9, HB7⟩
                        case measure => simp [intOf]; omega
              · go_simp
                refine hK.out _ _ (HKA.out) (fun hHeld => ?_)
                clear hK K
                try simp only [Act.put, List.setIfInBounds_toArray, List.set_cons_zero, List.set_cons_succ]
                refine wpAnyH_ready (rs := [1]) (by kernel_rfl) (by simp) ?_
                refine AllReadyH.cons (o := { dst := some 122, op := Op.load 25 (Operand.tmp 121), type := 25, pos := "l05_combine.go:54", after := #[{ on := 0, ground := Ground.data }], guard := none }) rfl (fun K hK => ?_) AllReadyH.nil
                · go_simp
                  refine hK.out _ _ (HKA.out) (fun hHeld => ?_)
                  clear hK K
                  try simp only [Act.put, List.setIfInBounds_toArray, List.set_cons_zero, List.set_cons_succ]
                  refine wpAnyH_ready (rs := [25]) (by kernel_rfl) (by simp) ?_
                  refine AllReadyH.cons (o := { dst := some 146, op := Op.call { callee := Callee.builtin Builtin.append, args := #[Operand.tmp 122, Operand.tmp 145], argTypes := #[25, 25] }, type := 25, pos := "l05_combine.go:54", after := #[{ on := 1, ground := Ground.data }, { on := 24, ground := Ground.data }, { on := 23, ground := Ground.chain }], guard := none }) rfl (fun K hK => ?_) AllReadyH.nil
                  · (refine step_append_at_list (enc := Value.int .i64) (e := 3) rfl (.tmp 122) (.tmp 145) 25 rfl BB i0 (.int .i64 0) 8 Try.underlying25 hi0 hz0 hz1 hz2 rfl (.slice oa1 l2 oc1) (pairOuts st nx bn tm i) rfl (by repeat (first | with_reducible exact HVO.out | with_reducible apply has_drew | with_reducible apply has_alloc)) (Value.slice (some ⟨_, 0, none⟩) 1 1) [tq] rfl (by repeat (first | with_reducible apply lies_drew | (with_reducible refine lies_lit1 (enc := Value.int .i64) _ rfl) | with_reducible apply lies_alloc)) (fun _ _ => rfl) (by rw [HOLN.out]; simp; omega) (by rw [HOLN.out]; simp; omega) (by have := HG6.out; simp; omega) ?_; intro vt w6 ho6 hg6 hb6; obtain ⟨a6, c6, hvf, _⟩ := ho6.form; rw [show ((pairOuts st nx bn tm i) ++ [tq]).length = l2 + 1 from by rw [List.length_append, HOLN.out]; rfl] at hvf; subst hvf; refine with_fact (T := W5.grownBy w6 (Value.slice oa1 l2 oc1).ownBlock) ?_ ?_; (focus (exact grown_alloc (grown_drew hg6))); intro hg7; have hc7 := HM5.out.cells.grown hg7 HNO.out; have r1 := hc7.c2; have r3 := hc7.f)
                    have HKG : Hid (KS w6) := HKEEP.out _ fun k hk h1 _ => hg7.block k hk (Ne.symm h1)
                    have HKS : Hid (KS (w6.setCell ⟨p, 2, none⟩ (.slice a6 (l2 + 1) c6))) := HKEEP.out _ fun k hk h1 h2 => by rw [← hg7.block k hk (Ne.symm h1)]; simp [World.setCell, Array.getElem?_modify, Ne.symm h2]
                    refine hK.out _ _ (HKG.out) (fun hHeld => ?_)
                    clear hK K
                    try simp only [Act.put, List.setIfInBounds_toArray, List.set_cons_zero, List.set_cons_succ]
                    refine wpAnyH_ready (rs := [26]) (by kernel_rfl) (by simp) ?_
                    refine AllReadyH.cons (o := { dst := some 147, op := Op.fieldAddr 27 (Operand.tmp 8) 2, type := 0, pos := "l05_combine.go:54", after := #[{ on := 0, ground := Ground.phase }, { on := 1, ground := Ground.phase }, { on := 2, ground := Ground.phase }, { on := 3, ground := Ground.phase }, { on := 4, ground := Ground.phase }, { on := 5, ground := Ground.phase }, { on := 6, ground := Ground.phase }, { on := 7, ground := Ground.phase }, { on := 8, ground := Ground.phase }, { on := 9, ground := Ground.phase }, { on := 10, ground := Ground.phase }, { on := 11, ground := Ground.phase }, { on := 12, ground := Ground.phase }, { on := 13, ground := Ground.phase }, { on := 14, ground := Ground.phase }, { on := 15, ground := Ground.phase }, { on := 16, ground := Ground.phase }, { on := 17, ground := Ground.phase }, { on := 18, ground := Ground.phase }, { on := 19, ground := Ground.phase }, { on := 20, ground := Ground.phase }, { on := 21, ground := Ground.phase }, { on := 22, ground := Ground.phase }, { on := 23, ground := Ground.phase }, { on := 24, ground := Ground.phase }, { on := 25, ground := Ground.phase }], guard := none }) rfl (fun K hK => ?_) AllReadyH.nil
                    · go_simp
                      refine hK.out _ _ (HKG.out) (fun hHeld => ?_)
                      clear hK K
                      try simp only [Act.put, List.setIfInBounds_toArray, List.set_cons_zero, List.set_cons_succ]
                      refine wpAnyH_ready (rs := [27]) (by kernel_rfl) (by simp) ?_
                      refine AllReadyH.cons (o := { dst := none, op := Op.store 25 (Operand.tmp 147) (Operand.tmp 146), type := 0, pos := "l05_combine.go:54", after := #[{ on := 26, ground := Ground.data }, { on := 25, ground := Ground.data }, { on := 25, ground := Ground.chain }, { on := 0, ground := Ground.phase }, { on := 1, ground := Ground.phase }, { on := 2, ground := Ground.phase }, { on := 3, ground := Ground.phase }, { on := 4, ground := Ground.phase }, { on := 5, ground := Ground.phase }, { on := 6, ground := Ground.phase }, { on := 7, ground := Ground.phase }, { on := 8, ground := Ground.phase }, { on := 9, ground := Ground.phase }, { on := 10, ground := Ground.phase }, { on := 11, ground := Ground.phase }, { on := 12, ground := Ground.phase }, { on := 13, ground := Ground.phase }, { on := 14, ground := Ground.phase }, { on := 15, ground := Ground.phase }, { on := 16, ground := Ground.phase }, { on := 17, ground := Ground.phase }, { on := 18, ground := Ground.phase }, { on := 19, ground := Ground.phase }, { on := 20, ground := Ground.phase }, { on := 21, ground := Ground.phase }, { on := 22, ground := Ground.phase }, { on := 23, ground := Ground.phase }, { on := 24, ground := Ground.phase }, { on := 25, ground := Ground.phase }], guard := none }) rfl (fun K hK => ?_) AllReadyH.nil
                      · go_simp
                        refine hK.out _ _ (HKS.out) (fun hHeld => ?_)
                        clear hK K
                        try simp only [Act.put, List.setIfInBounds_toArray, List.set_cons_zero, List.set_cons_succ]
                        refine wpAnyH_done (by kernel_rfl) ?_ _
                        have hm7 := HM5.out.term ho6 hg7 (fun kk hk => (hb6 kk hk).imp id (fun h => by simp at h; omega))
                        rw [HTQ.out, ← HOU.out] at hm7
                        have HM9 := Lib.hid hm7
                        have HB7 : Hid (Below p W0 (w6.setCell ⟨p, 2, none⟩ (.slice a6 (l2 + 1) c6))) := (HB5.out.grown hg7 (Nat.le_trans HPB.out HG6.out) (fun kk hk => Nat.le_trans HPB.out (HVO.out.lt kk hk).1)).setCell (Nat.le_refl _) _
                        have hi17 : i + 1 ≤ 16 := by have := H16.out; have := HL0.out; omega
                        clear ho6 hb6 hg6 hg7 hc7 r1 r3 c4 c5 c4d c5d hpl HM5 HB5 HVO HNO hm7 HKEEP HKO HKD HKA HKG HKS hHeld
                        go_wp2
                        go_roundw
                        case rel => exact ⟨i + 1, _, _, _, _, _, hil2, hi17, hln, by go_num, HM9, HB7⟩
                        case measure => simp [intOf]; omega
set_option maxRecDepth 100000 in
set_option maxHeartbeats 4000000 in
theorem spec_comb_no (u v : Value) (b b' : Int) (ra rb : List (List Int)) (oa ob : List Int) (how : Int) (w : World) (h1 : LiesS w u b ra oa) (h2 : LiesS w v b' rb ob) (hno : combOK b b' ra rb oa ob how = false) :
    Calls Try.prog 7 #[u, v, .int .i64 how] w (GivesK 0 [] [] false w) := by
  have HSA := Lib.hid h1
  have HSB := Lib.hid h2
  obtain ⟨ana, cna, aoa, coa, rfl⟩ := h1.form
  obtain ⟨anb, cnb, aob, cob, rfl⟩ := h2.form
  clear h1 h2
  have hA := ((Cells3.new w 27 (.int .i64 b) (.slice ana ra.length cna) (.slice aoa oa.length coa)).alloc (Obj.cells #[Value.int .i64 b', .slice anb rb.length cnb, .slice aob ob.length cob] 27)).alloc (Obj.cells #[Value.int .i64 0, Value.slice none 0 0, Value.slice none 0 0] 27)
  have hO := (Cells3.new (w.alloc (Obj.cells #[Value.int .i64 b, .slice ana ra.length cna, .slice aoa oa.length coa] 27)) 27 (.int .i64 b') (.slice anb rb.length cnb) (.slice aob ob.length cob)).alloc (Obj.cells #[Value.int .i64 0, Value.slice none 0 0, Value.slice none 0 0] 27)
  have hZ := Cells3.new ((w.alloc (Obj.cells #[Value.int .i64 b, .slice ana ra.length cna, .slice aoa oa.length coa] 27)).alloc (Obj.cells #[Value.int .i64 b', .slice anb rb.length cnb, .slice aob ob.length cob] 27)) 27 (.int .i64 0) (.slice none 0 0) (.slice none 0 0)
  rw [size_alloc'] at hO
  rw [size_alloc', size_alloc'] at hZ
  have HA1 := Lib.hid hA
  have HO1 := Lib.hid hO
  have HZ1 := Lib.hid hZ
  have HB1 : Hid (Below w.heap.size w (((w.alloc (Obj.cells #[Value.int .i64 b, .slice ana ra.length cna, .slice aoa oa.length coa] 27)).alloc (Obj.cells #[Value.int .i64 b', .slice anb rb.length cnb, .slice aob ob.length cob] 27)).alloc (Obj.cells #[Value.int .i64 0, Value.slice none 0 0, Value.slice none 0 0] 27))) := (((Below.refl _ _).alloc (Nat.le_refl _) _).alloc (by simp only [size_alloc'] <;> omega) _).alloc (by simp only [size_alloc'] <;> omega) _
  clear hA hO hZ
  have k0 := HA1.out.c0
  have k1 := HA1.out.c1
  have k2 := HA1.out.c2
  have HC1 := Lib.hid (fun (W : World) (hW : Below w.heap.size w W) => spec_is _ b ra oa W (HSA.out.below hW))
  have HC2 := Lib.hid (fun (W : World) (hW : Below w.heap.size w W) => spec_is _ b' rb ob W (HSB.out.below hW))
  rw [combOK] at hno
  obtain ⟨q1, hq1⟩ : ∃ q, q = seqB b ra oa := ⟨_, rfl⟩
  obtain ⟨q2, hq2⟩ : ∃ q, q = seqB b' rb ob := ⟨_, rfl⟩
  rw [← hq1] at HC1 hno
  rw [← hq2] at HC2 hno
  clear hq1 hq2
  cases q1 with
  | false =>
    clear hno
    go_enter Try.func7, Try.ntmps7
    go_wp2_with fail
    refine (HC1.out _ HB1.out).mono ?_
    rintro e W1 ⟨rfl, b1⟩
    have HA2 := Lib.hid (HA1.out.below b1)
    have HO2 := Lib.hid (HO1.out.below b1)
    have HZ2 := Lib.hid (HZ1.out.below b1)
    have HB2 := Lib.hid (HB1.out.trans (b1.mono HB1.out.size))
    clear b1 k0 k1 k2 HA1 HO1 HZ1 HB1
    have k0 := HO2.out.c0
    have k1 := HO2.out.c1
    have k2 := HO2.out.c2
    have HZR := HZ2
    have HBR := HB2
    obtain ⟨z0, z1, z2⟩ := (⟨HZR.out.c0, HZR.out.c1, HZR.out.c2⟩ : _ ∧ _ ∧ _)
    have z3 := HZR.out.f
    go_wp2
    have hZ3 := (((HZR.out.set0 (.int .i64 0)).set1 (.slice none 0 0)).set2 (.slice none 0 0))
    have n0 := hZ3.c0
    have n1 := hZ3.c1
    have n2 := hZ3.c2
    refine bodyPost_ret (v := .tuple #[.agg #[.int .i64 0, .slice none 0 0, .slice none 0 0], .bool false]) (by simp [results, Try.results7, go_sem, n0, n1, n2]) rfl ⟨_, rfl, OwnS.zero _, ?_⟩
    exact ((HBR.out.setCell (by show _ ≤ _ + 1 + 1; omega) _).setCell (by show _ ≤ _ + 1 + 1; omega) _).setCell (by show _ ≤ _ + 1 + 1; omega) _
  | true =>
    cases q2 with
    | false =>
      clear hno
      go_enter Try.func7, Try.ntmps7
      go_wp2_with fail
      refine (HC1.out _ HB1.out).mono ?_
      rintro e W1 ⟨rfl, b1⟩
      have HA2 := Lib.hid (HA1.out.below b1)
      have HO2 := Lib.hid (HO1.out.below b1)
      have HZ2 := Lib.hid (HZ1.out.below b1)
      have HB2 := Lib.hid (HB1.out.trans (b1.mono HB1.out.size))
      clear b1 k0 k1 k2 HA1 HO1 HZ1 HB1
      have k0 := HO2.out.c0
      have k1 := HO2.out.c1
      have k2 := HO2.out.c2
      go_wp2_with fail
      refine (HC2.out _ HB2.out).mono ?_
      rintro e W3 ⟨rfl, b1⟩
      have HA3 := Lib.hid (HA2.out.below b1)
      have HO3 := Lib.hid (HO2.out.below b1)
      have HZR := Lib.hid (HZ2.out.below b1)
      have HBR := Lib.hid (HB2.out.trans (b1.mono HB2.out.size))
      clear b1 k0 k1 k2 HA2 HO2 HZ2 HB2
      have k0 := HO3.out.c0
      have j0 := HA3.out.c0
      obtain ⟨z0, z1, z2⟩ := (⟨HZR.out.c0, HZR.out.c1, HZR.out.c2⟩ : _ ∧ _ ∧ _)
      have z3 := HZR.out.f
      go_wp2
      have hZ3 := (((HZR.out.set0 (.int .i64 0)).set1 (.slice none 0 0)).set2 (.slice none 0 0))
      have n0 := hZ3.c0
      have n1 := hZ3.c1
      have n2 := hZ3.c2
      refine bodyPost_ret (v := .tuple #[.agg #[.int .i64 0, .slice none 0 0, .slice none 0 0], .bool false]) (by simp [results, Try.results7, go_sem, n0, n1, n2]) rfl ⟨_, rfl, OwnS.zero _, ?_⟩
      exact ((HBR.out.setCell (by show _ ≤ _ + 1 + 1; omega) _).setCell (by show _ ≤ _ + 1 + 1; omega) _).setCell (by show _ ≤ _ + 1 + 1; omega) _
    | true =>
      by_cases hbb : b = b'
      case neg =>
        have hbe : (b != b') = true := by simpa using hbb
        clear hno hbb
        go_enter Try.func7, Try.ntmps7
        go_wp2_with fail
        refine (HC1.out _ HB1.out).mono ?_
        rintro e W1 ⟨rfl, b1⟩
        have HA2 := Lib.hid (HA1.out.below b1)
        have HO2 := Lib.hid (HO1.out.below b1)
        have HZ2 := Lib.hid (HZ1.out.below b1)
        have HB2 := Lib.hid (HB1.out.trans (b1.mono HB1.out.size))
        clear b1 k0 k1 k2 HA1 HO1 HZ1 HB1
        have k0 := HO2.out.c0
        have k1 := HO2.out.c1
        have k2 := HO2.out.c2
        go_wp2_with fail
        refine (HC2.out _ HB2.out).mono ?_
        rintro e W3 ⟨rfl, b1⟩
        have HA3 := Lib.hid (HA2.out.below b1)
        have HO3 := Lib.hid (HO2.out.below b1)
        have HZR := Lib.hid (HZ2.out.below b1)
        have HBR := Lib.hid (HB2.out.trans (b1.mono HB2.out.size))
        clear b1 k0 k1 k2 HA2 HO2 HZ2 HB2
        have k0 := HO3.out.c0
        have j0 := HA3.out.c0
        obtain ⟨z0, z1, z2⟩ := (⟨HZR.out.c0, HZR.out.c1, HZR.out.c2⟩ : _ ∧ _ ∧ _)
        have z3 := HZR.out.f
        go_wp2
        have hZ3 := (((HZR.out.set0 (.int .i64 0)).set1 (.slice none 0 0)).set2 (.slice none 0 0))
        have n0 := hZ3.c0
        have n1 := hZ3.c1
        have n2 := hZ3.c2
        refine bodyPost_ret (v := .tuple #[.agg #[.int .i64 0, .slice none 0 0, .slice none 0 0], .bool false]) (by simp [results, Try.results7, go_sem, n0, n1, n2]) rfl ⟨_, rfl, OwnS.zero _, ?_⟩
        exact ((HBR.out.setCell (by show _ ≤ _ + 1 + 1; omega) _).setCell (by show _ ≤ _ + 1 + 1; omega) _).setCell (by show _ ≤ _ + 1 + 1; omega) _
      case pos =>
        have hh : ¬ (1 ≤ how ∧ how ≤ 4) := fun h => by simp [hbb, h] at hno
        have HX := Lib.hid (show how < 1 ∨ 4 < how by omega)
        subst hbb
        have hbe : (b != b) = false := by simp
        clear hno hh
        go_enter Try.func7, Try.ntmps7
        go_wp2_with fail
        refine (HC1.out _ HB1.out).mono ?_
        rintro e W1 ⟨rfl, b1⟩
        have HA2 := Lib.hid (HA1.out.below b1)
        have HO2 := Lib.hid (HO1.out.below b1)
        have HZ2 := Lib.hid (HZ1.out.below b1)
        have HB2 := Lib.hid (HB1.out.trans (b1.mono HB1.out.size))
        clear b1 k0 k1 k2 HA1 HO1 HZ1 HB1
        have k0 := HO2.out.c0
        have k1 := HO2.out.c1
        have k2 := HO2.out.c2
        go_wp2_with fail
        refine (HC2.out _ HB2.out).mono ?_
        rintro e W3 ⟨rfl, b1⟩
        have HA3 := Lib.hid (HA2.out.below b1)
        have HO3 := Lib.hid (HO2.out.below b1)
        have HZR := Lib.hid (HZ2.out.below b1)
        have HBR := Lib.hid (HB2.out.trans (b1.mono HB2.out.size))
        clear b1 k0 k1 k2 HA2 HO2 HZ2 HB2
        have k0 := HO3.out.c0
        have j0 := HA3.out.c0
        go_wp2_with fail
        refine (l1In_no _ _ _ _ HX.out).mono ?_
        rintro e w' ⟨rfl, rfl⟩
        clear k0 j0 hbe
        obtain ⟨z0, z1, z2⟩ := (⟨HZR.out.c0, HZR.out.c1, HZR.out.c2⟩ : _ ∧ _ ∧ _)
        have z3 := HZR.out.f
        go_wp2
        have hZ3 := (((HZR.out.set0 (.int .i64 0)).set1 (.slice none 0 0)).set2 (.slice none 0 0))
        have n0 := hZ3.c0
        have n1 := hZ3.c1
        have n2 := hZ3.c2
        refine bodyPost_ret (v := .tuple #[.agg #[.int .i64 0, .slice none 0 0, .slice none 0 0], .bool false]) (by simp [results, Try.results7, go_sem, n0, n1, n2]) rfl ⟨_, rfl, OwnS.zero _, ?_⟩
        exact ((HBR.out.setCell (by show _ ≤ _ + 1 + 1; omega) _).setCell (by show _ ≤ _ + 1 + 1; omega) _).setCell (by show _ ≤ _ + 1 + 1; omega) _
theorem spec_comb (u v : Value) (b b' : Int) (ra rb : List (List Int)) (oa ob : List Int) (how : Int) (w : World) (h1 : LiesS w u b ra oa) (h2 : LiesS w v b' rb ob) :
    Calls Try.prog 7 #[u, v, .int .i64 how] w (GivesK (cmB b b' ra rb oa ob how) (cmR b b' ra rb oa ob how) (cmO b b' ra rb oa ob how) (cmK b b' ra rb oa ob how) w) := by
  cases hk : combOK b b' ra rb oa ob how with
  | false =>
    obtain ⟨e1, e2, e3, e4⟩ := cm_no hk
    rw [e1, e2, e3, e4]
    exact spec_comb_no u v b b' ra rb oa ob how w h1 h2 hk
  | true =>
    obtain ⟨e1, e2, e3, e4⟩ := cm_yes hk
    rw [e1, e2, e3, e4]
    have hbb : b = b' := by
      rw [combOK, Bool.and_eq_true, Bool.and_eq_true, Bool.and_eq_true, decide_eq_true_eq] at hk
      exact hk.2.1
    subst hbb
    exact spec_comb_yes u v b ra rb oa ob how w h1 h2 hk
end Comb
end Go.Proofs.Ytodnkkofammhbaa
/- Contract of ShiftedSequence of the model. No conditions beyond those that it states. -/
namespace Go.Proofs.Ytodnkkofammhbaa
open Go.ChangeShapes Go.WideShapes Go.ChangeAt Go.RowKit
open Go.PlainAid Plain
set_option linter.unusedVariables false
namespace Comb
open Seqs Mins
theorem ok_natN {rows : List (List Int)} {s : Pr} (h : OkN rows s) : ∃ x y : Nat, s = ((x : Int), (y : Int)) ∧ x < rows.length ∧ y < rows.length := by
  obtain ⟨⟨h1, h2⟩, h3, h4⟩ := h
  exact ⟨s.1.toNat, s.2.toNat, Prod.ext (by simp; omega) (by simp; omega), by omega, by omega⟩
theorem spec_shift_no (v : Value) (b : Int) (rows : List (List Int)) (out : List Int) (w : World) (h : LiesS w v b rows out) (hs : rows.length + tot rows + out.length ≤ 1048576) (hk : formK b rows out = false) :
    Calls Try.prog 15 #[v] w (GivesK 0 [] [] false w) := by
  have HCF := Lib.hid (fun (W : World) (hW : Below w.heap.size w W) => spec_form v b rows out W (h.below hW) hs)
  rw [hk] at HCF
  obtain ⟨B, hBB⟩ : ∃ B, B = formB b rows out := ⟨_, rfl⟩
  obtain ⟨RR, hRR⟩ : ∃ R, R = formR b rows out := ⟨_, rfl⟩
  obtain ⟨OO, hOO⟩ : ∃ O, O = formO b rows out := ⟨_, rfl⟩
  rw [← hBB, ← hRR, ← hOO] at HCF
  clear hBB hRR hOO
  have HS := Lib.hid h
  obtain ⟨an, cn, ao, co, rfl⟩ := h.form
  clear h
  have HB : Hid (Below w.heap.size w (w.alloc (Obj.cells #[Value.int .i64 b, Value.slice an rows.length cn, Value.slice ao out.length co] 27))) := (Below.refl _ _).alloc (Nat.le_refl _) _
  have HC := Lib.hid (Cells3.new w 27 (.int .i64 b) (.slice an rows.length cn) (.slice ao out.length co))
  have HB1 := Lib.hid (HB.out.alloc (by simp only [size_alloc'] <;> omega) (Obj.cells #[Value.int .i64 0, Value.slice none 0 0, Value.slice none 0 0] 27))
  have HC1 := Lib.hid (HC.out.alloc (Obj.cells #[Value.int .i64 0, Value.slice none 0 0, Value.slice none 0 0] 27))
  have hZ := Cells3.new (w.alloc (Obj.cells #[Value.int .i64 b, Value.slice an rows.length cn, Value.slice ao out.length co] 27)) 27 (.int .i64 0) (.slice none 0 0) (.slice none 0 0)
  rw [size_alloc'] at hZ
  have HZ1 := Lib.hid hZ
  have k0 := HC1.out.c0
  have k1 := HC1.out.c1
  have k2 := HC1.out.c2
  clear hZ HB HC hs hk
  go_enter Try.func15, Try.ntmps15
  go_wp2_with fail
  refine (HCF.out _ HB1.out).mono ?_
  rintro e W1 ⟨v1, rfl, hv1, b1⟩
  obtain ⟨a1, c1, a2, c2, rfl⟩ := hv1.form
  have hbx : Below W1.heap.size W1 (W1.alloc (.cells #[.int .i64 B, .slice a1 RR.length c1, .slice a2 OO.length c2] 27)) := (Below.refl _ _).alloc (Nat.le_refl _) _
  have HB2 := HB1.out.trans (b1.mono HB1.out.size)
  have HBR := Lib.hid (HB2.trans (hbx.mono HB2.size))
  have HZR := Lib.hid ((HZ1.out.below b1).below hbx)
  clear hv1 b1 k0 k1 k2 HB1 HC1 HZ1 HB2 hbx
  obtain ⟨z0, z1, z2⟩ := (⟨HZR.out.c0, HZR.out.c1, HZR.out.c2⟩ : _ ∧ _ ∧ _)
  have z3 := HZR.out.f
  go_wp2
  have hZ3 := (((HZR.out.set0 (.int .i64 0)).set1 (.slice none 0 0)).set2 (.slice none 0 0))
  have n0 := hZ3.c0
  have n1 := hZ3.c1
  have n2 := hZ3.c2
  refine bodyPost_ret (v := .tuple #[.agg #[.int .i64 0, .slice none 0 0, .slice none 0 0], .bool false]) (by simp [results, Try.results15, go_sem, n0, n1, n2]) rfl ⟨_, rfl, OwnS.zero _, ?_⟩
  exact ((HBR.out.setCell (Nat.le_succ _) _).setCell (Nat.le_succ _) _).setCell (Nat.le_succ _) _
set_option maxRecDepth 100000 in
set_option maxHeartbeats 8000000 in
theorem spec_shift_yes (v : Value) (b : Int) (rows : List (List Int)) (out : List Int) (w : World) (h : LiesS w v b rows out) (hs : rows.length + tot rows + out.length ≤ 1048576) (hk : formK b rows out = true) :
    Calls Try.prog 15 #[v] w (GivesK (pB (shStart (formR b rows out)) (nxN b.toNat (formR b rows out)) b.toNat) (pR (shStart (formR b rows out)) (nxN b.toNat (formR b rows out)) b.toNat) (pO (shStart (formR b rows out)) (nxN b.toNat (formR b rows out)) b.toNat (tmN (formO b rows out))) (pairK (shStart (formR b rows out)) (nxN b.toNat (formR b rows out)) b.toNat) w) := by
  obtain ⟨i0, hi0, hz0, hz1, hz2⟩ := info_parts Ints.infoI
  obtain ⟨i2, hi2, hz20, hz21, hz22⟩ := info_parts infoR
  have hval := form_valid hk
  have hbb : formB b rows out = b := by rw [formB, if_pos hk]
  have HCF := Lib.hid (fun (W : World) (hW : Below w.heap.size w W) => spec_form v b rows out W (h.below hW) hs)
  rw [hk, hbb] at HCF
  rw [hbb] at hval
  obtain ⟨RR, hRR⟩ : ∃ R, R = formR b rows out := ⟨_, rfl⟩
  obtain ⟨OO, hOO⟩ : ∃ O, O = formO b rows out := ⟨_, rfl⟩
  rw [← hRR, ← hOO] at HCF hval
  rw [← hRR, ← hOO]
  clear hRR hOO hbb hk hs
  obtain ⟨bn, rfl⟩ : ∃ bn : Nat, b = (bn : Int) := ⟨b.toNat, by have := hval.1; omega⟩
  rw [Int.toNat_natCast]
  have hw0 := walksN hval
  rw [Int.toNat_natCast] at hw0
  have HVA := Lib.hid hval
  have hb2 : 2 ≤ bn := by have := hval.1; omega
  have hb4 : bn ≤ 4 := by have := hval.2.1; omega
  have hn1 : 1 ≤ RR.length := hval.2.2.1
  obtain ⟨hy0a, hy0b⟩ := hval.next (s := 0) (d := 1) (Int.le_refl 0) (by omega) (by decide) (by omega) |>.elim fun _ h => h.2.2
  obtain ⟨y0, hy0⟩ : ∃ y : Nat, nextS RR 0 1 = (y : Int) := ⟨(nextS RR 0 1).toNat, by omega⟩
  obtain ⟨st, hst⟩ : ∃ s : Pr, s = shStart RR := ⟨_, rfl⟩
  obtain ⟨nx, hnx⟩ : ∃ f, f = nxN bn RR := ⟨_, rfl⟩
  obtain ⟨tm, htm⟩ : ∃ f, f = tmN OO := ⟨_, rfl⟩
  rw [← hst, ← hnx, ← htm]
  rw [show ((0 : Int), nextS RR 0 1) = st from hst.symm, ← hnx] at hw0
  have HWK := Lib.hid hw0
  have HST : Hid (st = ((0 : Int), (y0 : Int))) := by show _ = _; rw [hst, shStart, hy0]
  have HY0 := Lib.hid hy0
  have HNX : Hid (∀ x y d : Nat, nx ((x : Int), (y : Int)) d = (nextS RR x d, if d + 1 < bn then nextS RR x ((d + 1 : Nat) : Int) else nextS RR y 0)) := fun x y d => by rw [hnx]; rfl
  have HTM : Hid (∀ x y : Nat, OO.getD y 0 = tm ((x : Int), (y : Int))) := fun x y => by rw [htm, tmN, Int.toNat_natCast]
  obtain ⟨YB, hYB⟩ : ∃ y, y = pB st nx bn := ⟨_, rfl⟩
  obtain ⟨YR, hYR⟩ : ∃ y, y = pR st nx bn := ⟨_, rfl⟩
  obtain ⟨YO, hYO⟩ : ∃ y, y = pO st nx bn tm := ⟨_, rfl⟩
  obtain ⟨YK, hYK⟩ : ∃ y, y = pairK st nx bn := ⟨_, rfl⟩
  rw [← hYB, ← hYR, ← hYO, ← hYK]
  have HY := Lib.hid (show YB = pB st nx bn ∧ YR = pR st nx bn ∧ YO = pO st nx bn tm ∧ YK = pairK st nx bn from ⟨hYB, hYR, hYO, hYK⟩)
  obtain ⟨an, cn, ao, co, rfl⟩ := h.form
  clear h hval hw0 hst hnx htm hYB hYR hYO hYK hy0 hy0a hy0b
  obtain ⟨bv, hbv⟩ : ∃ z : Int, z = (bn : Int) := ⟨_, rfl⟩
  have HB : Hid (Below w.heap.size w (w.alloc (Obj.cells #[Value.int .i64 (bn : Int), Value.slice an rows.length cn, Value.slice ao out.length co] 27))) := (Below.refl _ _).alloc (Nat.le_refl _) _
  have HB1 := Lib.hid (HB.out.alloc (by simp only [size_alloc'] <;> omega) (Obj.cells #[Value.int .i64 0, Value.slice none 0 0, Value.slice none 0 0] 27))
  have HC1 := Lib.hid ((Cells3.new w 27 (.int .i64 (bn : Int)) (.slice an rows.length cn) (.slice ao out.length co)).alloc (Obj.cells #[Value.int .i64 0, Value.slice none 0 0, Value.slice none 0 0] 27))
  have hZ := Cells3.new (w.alloc (Obj.cells #[Value.int .i64 (bn : Int), Value.slice an rows.length cn, Value.slice ao out.length co] 27)) 27 (.int .i64 0) (.slice none 0 0) (.slice none 0 0)
  rw [size_alloc'] at hZ
  have HZ1 := Lib.hid hZ
  have k0 := HC1.out.c0
  have k1 := HC1.out.c1
  have k2 := HC1.out.c2
  clear hZ HB hbv
  go_enter Try.func15, Try.ntmps15
  go_wp2_with fail
  refine (HCF.out _ HB1.out).mono ?_
  rintro e W1 ⟨v1, rfl, hv1, b1⟩
  obtain ⟨a1, c1, a2, c2, rfl⟩ := hv1.form
  have hbx : Below W1.heap.size W1 (W1.alloc (.cells #[.int .i64 (bn : Int), .slice a1 RR.length c1, .slice a2 OO.length c2] 27)) := (Below.refl _ _).alloc (Nat.le_refl _) _
  have HB2 := HB1.out.trans (b1.mono HB1.out.size)
  have HB3 := Lib.hid (HB2.trans (hbx.mono HB2.size))
  have HZ3 := Lib.hid ((HZ1.out.below b1).below hbx)
  have HA3 := Lib.hid (Cells3.new W1 27 (.int .i64 (bn : Int)) (.slice a1 RR.length c1) (.slice a2 OO.length c2))
  have HSA := Lib.hid (hv1.lies.below hbx)
  have HX1 := Lib.hid (show w.heap.size + 2 ≤ W1.heap.size by have := (HZ1.out.below b1).lt; omega)
  clear hv1 b1 k0 k1 k2 HB1 HC1 HZ1 HB2 hbx
  obtain ⟨W3, hW3⟩ : ∃ W, W = W1.alloc (.cells #[.int .i64 (bn : Int), .slice a1 RR.length c1, .slice a2 OO.length c2] 27) := ⟨_, rfl⟩
  obtain ⟨xb, hxb⟩ : ∃ x, x = W1.heap.size := ⟨_, rfl⟩
  have hws : W1.heap.size + 1 = W3.heap.size := by rw [hW3, size_alloc']
  rw [← hW3] at HB3 HZ3 HA3 HSA
  rw [← hxb] at HA3 HX1
  obtain ⟨pa, po, qa, ta, ca, na', he1, g1, hna, g2⟩ := step_cells HSA.out HVA.out (x := 0) hn1 (d := 1) (by omega)
  have hpo : Below W3.heap.size W3 (W3.alloc (Obj.cells #[Value.int .i64 (bn : Int), Value.slice none 0 0, Value.slice none 0 0] 27)) := (Below.refl _ _).alloc (Nat.le_refl _) _
  have g1' := old_cellC hpo g1
  have g2' := old_cellC hpo g2
  rw [Nat.add_zero] at g1'
  rw [show nextS RR ((0 : Nat) : Int) ((1 : Nat) : Int) = (y0 : Int) from HY0.out] at g2'
  subst he1
  have j1 := (HA3.out.alloc (Obj.cells #[Value.int .i64 (bn : Int), Value.slice none 0 0, Value.slice none 0 0] 27)).c1
  have j0 := HA3.out.c0
  have hR0 : (0 : Int) < (RR.length : Int) := by omega
  have hn0 : (1 : Int) < (na' : Int) := by omega
  rw [hW3] at j0
  rw [hxb] at j0
  go_wp2_with fail
  rw [← hW3, ← hxb]
  have HXP := Lib.hid (show xb < W3.heap.size by omega)
  clear hW3 hxb hws
  go_wp2_with fail
  clear j0 j1 g1' g2' g1 g2 hna hn0 hR0 hpo
  -- the sequence in the making, the pairs
  obtain ⟨W4, hW4⟩ : ∃ W, W = W3.alloc (Obj.cells #[Value.int .i64 (bn : Int), Value.slice none 0 0, Value.slice none 0 0] 27) := ⟨_, rfl⟩
  obtain ⟨W5, hW5⟩ : ∃ W, W = W4.alloc (.cells #[.int .i64 0, .int .i64 (y0 : Int)] 3) := ⟨_, rfl⟩
  obtain ⟨W6, hW6⟩ : ∃ W, W = W5.alloc (.cells #[.slice (some ⟨W4.heap.size, 0, none⟩) 2 2] 25) := ⟨_, rfl⟩
  have hs4 : W4.heap.size = W3.heap.size + 1 := by rw [hW4, size_alloc']
  have hs5 : W5.heap.size = W3.heap.size + 1 + 1 := by rw [hW5, size_alloc', hs4]
  have hgo : (((W3.alloc (Obj.cells #[Value.int .i64 (bn : Int), Value.slice none 0 0, Value.slice none 0 0] 27)).alloc (.cells #[.int .i64 0, .int .i64 (y0 : Int)] 3)).alloc (.cells #[.slice (some ⟨W3.heap.size + 1, 0, none⟩) 2 2] 25)) = W6 := by rw [hW6, hW5, hW4, size_alloc']
  rw [hgo]
  have hb34 : Below W3.heap.size W3 W4 := by rw [hW4]; exact (Below.refl _ _).alloc (Nat.le_refl _) _
  have hb45 : Below W4.heap.size W4 W5 := by rw [hW5]; exact (Below.refl _ _).alloc (Nat.le_refl _) _
  have hb56 : Below W5.heap.size W5 W6 := by rw [hW6]; exact (Below.refl _ _).alloc (Nat.le_refl _) _
  have hc4 : Cells3 W4 W3.heap.size 27 (.int .i64 (bn : Int)) (.slice none 0 0) (.slice none 0 0) := by rw [hW4]; exact Cells3.new W3 27 _ _ _
  have hl5 : Has (Value.int .i64) 3 W5 W4.heap.size (.slice (some ⟨W4.heap.size, 0, none⟩) 2 2) (pl st) := by rw [hW5, HST.out]; exact has_lit2 0 y0 (Nat.le_refl _)
  have ht6 : Has id 25 W6 W4.heap.size (.slice (some ⟨W5.heap.size, 0, none⟩) 1 1) [.slice (some ⟨W4.heap.size, 0, none⟩) 2 2] := by rw [hW6]; exact has_lit1v _ rfl (by rw [hs5, hs4]; omega)
  obtain ⟨p, hp⟩ : ∃ x, x = W3.heap.size := ⟨_, rfl⟩
  obtain ⟨BB, hBB⟩ : ∃ x, x = W4.heap.size := ⟨_, rfl⟩
  obtain ⟨W0, hW0⟩ : ∃ W, W = W3 := ⟨_, rfl⟩
  have HPB := Lib.hid (show p ≤ BB by omega)
  have HNUM := Lib.hid (show w.heap.size + 2 ≤ xb ∧ xb < p ∧ p < BB from by have := HX1.out; have := HXP.out; omega)
  have hM6 : Hid (PM W6 BB W6.heap.size p (bn : Int) (.slice none 0 0) (.slice none 0 0) (.slice (some ⟨p + 1 + 1, 0, none⟩) 1 1) [] [.slice (some ⟨BB, 0, none⟩) 2 2] (pairRows st nx bn 0) (pairI st nx bn 0) (pairOuts st nx bn tm 0) []) := by
    rw [show p + 1 + 1 = W5.heap.size by rw [hp, hs5], hp, hBB]
    have hbb := hb45.trans (hb56.mono hb45.size)
    exact PM.start ((hc4.below hb45).below hb56) ht6 ((own_of_has (hl5.below hb56)).mono (Nat.le_refl _) (Nat.le_refl _) (Nat.le_refl _)) hbb.size
  have hB6 : Hid (Below p W0 W6) := by
    rw [hp, hW0]
    exact hb34.trans ((hb45.mono hb34.size).trans (hb56.mono (Nat.le_trans hb34.size hb45.size)))
  have HP0 := Lib.hid (show p = W0.heap.size by rw [hW0]; exact hp)
  rw [← hp]
  rw [← hW0] at HA3 HSA HZ3 HB3
  have hl0 : (pairI st nx bn 0).length ≤ 20 := by simp [pairI]
  clear hW4 hW5 hW6 hs4 hs5 hgo hb34 hb45 hb56 hc4 hl5 ht6 hp hBB hW0
  go_loopw [7, 8] (fun o' i' wr => ∃ (i : Nat) (vn vo : Value) (us es : List Value) (hi : Nat), i ≤ (pairI st nx bn i).length ∧ i ≤ 16 ∧ (pairI st nx bn i).length ≤ 20 ∧ i' = .int .i64 i ∧ Hid (PM wr BB hi p (bn : Int) vn vo o' us es (pairRows st nx bn i) (pairI st nx bn i) (pairOuts st nx bn tm i) []) ∧ Hid (Below p W0 wr)) (fun _ i' _ => 21 - (intOf i').toNat)
  case atStart => exact ⟨0, _, _, _, _, _, Nat.zero_le _, by omega, hl0, rfl, hM6, hB6⟩
  case round =>
    clear hM6 hB6 hl0
    obtain ⟨i, vn, vo, us, es, hi, hil, hi16, hl20, rfl, hM, hB⟩ := hrel
    obtain ⟨W7, rfl⟩ : ∃ W : World, W = wr := ⟨_, rfl⟩
    obtain ⟨na, nc, oa1, oc1, ea, ec, hvn, hvo, hve⟩ := hM.out.form
    obtain ⟨l1, hl1⟩ : ∃ l, l = (pairRows st nx bn i).length := ⟨_, rfl⟩
    obtain ⟨l2, hl2⟩ : ∃ l, l = (pairOuts st nx bn tm i).length := ⟨_, rfl⟩
    obtain ⟨l0, hl0⟩ : ∃ l, l = (pairI st nx bn i).length := ⟨_, rfl⟩
    have hl1' : l1 ≤ 16 := by rw [hl1]; simp [pairRows]; omega
    have hl2' : l2 ≤ 16 := by rw [hl2]; simp [pairOuts]; omega
    have HL1 := Lib.hid hl1
    have HL2 := Lib.hid hl2
    have HL0 := Lib.hid hl0
    rw [← hl1] at hvn
    rw [← hl2] at hvo
    rw [← hl0] at hve hil hl20
    subst hvn; subst hvo; subst hve
    clear hl1 hl2 hl0
    have hA := c3_of_below hB.out HA3.out (by have := HNUM.out; omega)
    have hZ := c3_of_below hB.out HZ3.out (by have := HNUM.out; omega)
    have hBw : Below w.heap.size w W7 := HB3.out.trans (hB.out.mono (by have := HNUM.out; omega))
    by_cases hlt : i < l0
    case neg =>
      have hfe := found_end (st := st) (nx := nx) (b := bn) hi16 (by have := HL0.out; omega)
      have hk : pairK st nx bn = true := decide_eq_true (by rw [hfe]; have := HL0.out; omega)
      have hie : i = (found st nx bn).length := by rw [hfe]; have := HL0.out; omega
      have hyp := p_yes (tm := tm) hk
      rw [← hie] at hyp
      have hy := HY.out
      rw [hyp.1, hyp.2.1, hyp.2.2, hk] at hy
      obtain ⟨rfl, hy2, hy3, rfl⟩ := hy
      have HW : Hid (OwnS W7 BB W7.heap.size (.agg #[.int .i64 (bn : Int), .slice na l1 nc, .slice oa1 l2 oc1]) (bn : Int) YR YO) := by rw [hy2, hy3]; exact hM.out.seq
      have hP := hM.out.cells
      have m0 := hP.c0
      have m1 := hP.c1
      have m2 := hP.c2
      have HZ6 := Lib.hid hZ
      have HB6 := Lib.hid hBw
      have z0 := hZ.c0
      have z1 := hZ.c1
      have z2 := hZ.c2
      have z3 := hZ.f
      clear hP hfe hk hie hyp hy2 hy3 hA hZ hBw
      go_wp2
      have hZ3 := (((HZ6.out.set0 (.int .i64 (bn : Int))).set1 (.slice na l1 nc)).set2 (.slice oa1 l2 oc1))
      have n0 := hZ3.c0
      have n1 := hZ3.c1
      have n2 := hZ3.c2
      refine bodyPost_ret (v := .tuple #[.agg #[.int .i64 (bn : Int), .slice na l1 nc, .slice oa1 l2 oc1], .bool true]) (by simp [results, Try.results15, go_sem, n0, n1, n2]) rfl ⟨_, rfl, ?_, ?_⟩
      · have hT : ∀ (i : Nat) (u : Value) (W : World), Plain.Touch (w.heap.size + 1) (w.heap.size + 2) W (W.setCell ⟨w.heap.size + 1, i, none⟩ u) := fun i u W => Plain.Touch.of_set (a := ⟨w.heap.size + 1, i, none⟩) u (Nat.le_refl _) (Nat.lt_succ_self _)
        have T0 : Plain.Touch (w.heap.size + 1) (w.heap.size + 2) W7 (((W7.setCell ⟨w.heap.size + 1, 0, none⟩ (.int .i64 (bn : Int))).setCell ⟨w.heap.size + 1, 1, none⟩ (.slice na l1 nc)).setCell ⟨w.heap.size + 1, 2, none⟩ (.slice oa1 l2 oc1)) := ((hT 0 _ _).trans (hT 1 _ _)).trans (hT 2 _ _)
        have := (HW.out.touch T0 (.inr (by have := HNUM.out; omega))).lower (show w.heap.size ≤ BB by have := HNUM.out; omega)
        simpa only [size_setCell'] using this
      · exact ((HB6.out.setCell (Nat.le_succ _) _).setCell (Nat.le_succ _) _).setCell (Nat.le_succ _) _
    case pos =>
      by_cases h16 : 16 < l0
      case pos =>
        have hk := found_many (st := st) (nx := nx) (b := bn) (i := i) (by omega) (by have := HL0.out; omega)
        have hyp := p_no (tm := tm) hk
        have hy := HY.out
        rw [hyp.1, hyp.2.1, hyp.2.2, hk] at hy
        obtain ⟨rfl, rfl, rfl, rfl⟩ := hy
        have HZR := Lib.hid hZ
        have HBR := Lib.hid hBw
        have z0 := hZ.c0
        have z1 := hZ.c1
        have z2 := hZ.c2
        have z3 := hZ.f
        have hd16 := decide_eq_true h16
        clear hk hyp hA hZ hBw hM
        go_wp2
        have hZ3 := (((HZR.out.set0 (.int .i64 0)).set1 (.slice none 0 0)).set2 (.slice none 0 0))
        have n0 := hZ3.c0
        have n1 := hZ3.c1
        have n2 := hZ3.c2
        refine bodyPost_ret (v := .tuple #[.agg #[.int .i64 0, .slice none 0 0, .slice none 0 0], .bool false]) (by simp [results, Try.results15, go_sem, n0, n1, n2]) rfl ⟨_, rfl, OwnS.zero _, ?_⟩
        exact ((HBR.out.setCell (Nat.le_succ _) _).setCell (Nat.le_succ _) _).setCell (Nat.le_succ _) _
      case neg =>
        have hd16 := decide_eq_false h16
        obtain ⟨s, hs⟩ : ∃ s, (pairI st nx bn i)[i]? = some s := ⟨_, List.getElem?_eq_getElem (by have := HL0.out; omega)⟩
        have HSI := Lib.hid hs
        obtain ⟨x, y, hxy, hxa, hyb⟩ := ok_natN (pairI_ok HWK.out i s (List.mem_of_getElem? hs))
        have HXY := Lib.hid hxy
        have H16 := Lib.hid (show (pairI st nx bn i).length ≤ 16 by have := HL0.out; omega)
        have hb7 : Below W7.heap.size W7 (W7.alloc (.cells #[] 3)) := (Below.refl _ _).alloc (Nat.le_refl _) _
        have hM0 : Hid (PM (W7.alloc (.cells #[] 3)) BB (W7.alloc (.cells #[] 3)).heap.size p (bn : Int) (.slice na l1 nc) (.slice oa1 l2 oc1) (.slice ea l0 ec) us es (pairRows st nx bn i) (midP st nx bn i s 0) (pairOuts st nx bn tm i) [(.slice (some ⟨W7.heap.size, 0, none⟩) 0 0, pairPart st nx bn s 0)]) :=
          hM.out.begin hb7 (has_lit0 (enc := Value.int .i64) rfl (Nat.le_refl _))
        have hB7 : Hid (Below p W0 (W7.alloc (.cells #[] 3))) := hB.out.alloc (by have := hM.out.cells.lt; omega) _
        have hml0 : (midP st nx bn i s 0).length ≤ 20 := by rw [mid_zero]; have := H16.out; omega
        obtain ⟨zr, hzr⟩ : ∃ z, z = W7.heap.size := ⟨_, rfl⟩
        rw [← hzr] at hM0
        clear hs hxy hM hB hb7 hA hZ hBw
        go_wp2_with fail
        rw [← hzr]
        clear hzr
        go_loopw [7, 9, 10] (fun o' r' k' wr => ∃ (k : Nat) (es : List Value) (hi : Nat), k ≤ bn ∧ (midP st nx bn i s k).length ≤ 20 ∧ k' = .int .i64 k ∧ Hid (PM wr BB hi p (bn : Int) (.slice na l1 nc) (.slice oa1 l2 oc1) o' us es (pairRows st nx bn i) (midP st nx bn i s k) (pairOuts st nx bn tm i) [(r', (pairPart st nx bn s k))]) ∧ Hid (Below p W0 wr)) (fun _ _ k' _ => bn - (intOf k').toNat)
        case atStart => exact ⟨0, es, _, Nat.zero_le _, hml0, rfl, hM0, hB7⟩
        case round =>
          clear hM0 hB7 hml0
          obtain ⟨k, es', hi', hkl, hm20, rfl, hM, hB⟩ := hrel
          obtain ⟨W8, rfl⟩ : ∃ W : World, W = wr := ⟨_, rfl⟩
          obtain ⟨MD, hMD⟩ : ∃ l, l = midP st nx bn i s k := ⟨_, rfl⟩
          obtain ⟨ml, hml⟩ : ∃ l, l = MD.length := ⟨_, rfl⟩
          have HMD := Lib.hid hMD
          have HML := Lib.hid hml.symm
          have hml19 : ml ≤ 16 + k := by rw [hml, hMD]; exact mid_len H16.out
          rw [← hMD] at hM
          have hsi : MD[i]? = some s := by
            obtain ⟨r, hr⟩ := mid_prefix (st := st) (nx := nx) (b := bn) i s (Nat.zero_le k)
            rw [hMD, ← hr, mid_zero, List.getElem?_append_left (List.getElem?_eq_some_iff.1 HSI.out).1]
            exact HSI.out
          have HSM := Lib.hid hsi
          have himl : i < ml := by rw [hml]; exact (List.getElem?_eq_some_iff.1 hsi).1
          obtain ⟨eq, eo, ec', g, gc, hve, hc0, hc1, hc2, _⟩ := hM.out.at_ hsi
          rw [HXY.out] at hc1 hc2
          simp only at hc1 hc2
          rw [← hml] at hve
          subst hve
          obtain ⟨rra, rrc, hrr⟩ := (hM.out.extra (x := _) (r := (pairPart st nx bn s k)) (List.mem_cons_self ..)).form
          rw [part_len] at hrr
          subst hrr
          have hA := c3_of_below hB.out HA3.out (by have := HNUM.out; omega)
          have hBw := HB3.out.trans (hB.out.mono (by have := HNUM.out; omega))
          have hkL : (i : Int) < (ml : Int) := by omega
          have hi00 : (0 : Int) ≤ (i : Int) := Int.natCast_nonneg _
          have hx00 : (0 : Int) ≤ (x : Int) := Int.natCast_nonneg _
          have hy00 : (0 : Int) ≤ (y : Int) := Int.natCast_nonneg _
          have hxL : (x : Int) < (RR.length : Int) := by omega
          have hyL : (y : Int) < (RR.length : Int) := by omega
          clear hMD hml hsi
          by_cases hlk : k < bn
          case pos =>
            have hkb : decide (k < bn) = true := decide_eq_true hlk
            have hkb2 := hlk
            have hk00 : (0 : Int) ≤ (k : Int) := Int.natCast_nonneg _
            obtain ⟨pa2, po2, qa, ta, ca, na', he1, a1, hna, a2⟩ := step_cells HSA.out HVA.out hxa (show (k : Int) < (bn : Int) by omega)
            injection he1 with he1
            injection he1 with g1 g2 _
            subst g1; subst g2
            have hBW0 : Below W0.heap.size W0 W8 := by rw [← HP0.out]; exact hB.out
            have HB0W := Lib.hid hBW0
            have a1' := old_cellC hBW0 a1
            have a2' := old_cellC hBW0 a2
            have HCE1 := Lib.hid a1
            obtain ⟨u1, hu1⟩ : ∃ u, u = nextS RR x k := ⟨_, rfl⟩
            have HU1 := Lib.hid hu1
            rw [← hu1] at a2'
            have hkna : (k : Int) < (na' : Int) := by omega
            have e1 := hA.c1
            have e0 := hA.c0
            have HM8 := hM
            have HB8 := hB
            have HC0 := Lib.hid hc0
            have HC1 := Lib.hid hc1
            have HC2 := Lib.hid hc2
            have HA8 := Lib.hid hA
            clear hu1 a1 a2 hBW0 hA hBw hM hB
            go_wp2
            go_still_tail 13, (by kernel_rfl)
            change wpList _ _ _ _ _ W8.drew
            have hbd := below_drew' W8
            have hPd := HM8.out.below hbd
            have HBd := Lib.hid (HB8.out.trans (hbd.mono (show p ≤ W8.heap.size by have := HM8.out.cells.lt; omega)))
            have HPd := Lib.hid hPd
            have HAd := Lib.hid (HA8.out.below hbd)
            have HBB := Lib.hid hbd
            generalize W8.drew = W9 at HPd HBd HAd HBB ⊢
            clear hPd hbd HM8 HB8 a1' a2' hc0 hc1 hc2 e0 e1
            have hb9' : Below W9.heap.size W9 (W9.alloc (.cells #[.int .i64 u1, .int .i64 0] 3)) := (Below.refl _ _).alloc (Nat.le_refl _) _
            have f0 := (HAd.out.below hb9').c0
            clear hb9'
            by_cases hl : k + 1 < bn
            case pos =>
              have hd1 : decide ((k : Int) + 1 < (bn : Int)) = true := decide_eq_true (by omega)
              have hd2 : decide (k + 1 < bn) = true := decide_eq_true hl
              obtain ⟨p2, o2, q2, t2, c2', n2, e2, a3, hn2, a4⟩ := step_cells HSA.out HVA.out hxa (d := k + 1) (by omega)
              injection e2 with e2
              injection e2 with e3 e4 _
              subst e3; subst e4
              have he := HCE1.out.symm.trans a3
              injection he with he
              injection he with he1 he2 he3
              injection he1 with he1
              injection he1 with he4 he5 _
              subst he4; subst he5; subst he2
              obtain ⟨u2, hu2⟩ : ∃ u, u = nextS RR x ((k + 1 : Nat) : Int) := ⟨_, rfl⟩
              have HTN : Hid ((u1, u2) = nx s k) := by show _ = _; rw [HXY.out, HNX.out x y k, if_pos hl, HU1.out, hu2]
              rw [← hu2] at a4
              have b1' := old_cellC HBB.out (old_cellC HB0W.out a3)
              have b2' := old_cellC HBB.out (old_cellC HB0W.out a4)
              have hd1n : (k : Int) + 1 < (na' : Int) := by omega
              have hd10 : (0 : Int) ≤ (k : Int) + 1 := by omega
              clear a3 a4 hu2 hn2 he3
              go_wp2_with fail
              obtain ⟨Wa, hWa⟩ : ∃ W, W = W9.alloc (.cells #[.int .i64 u1, .int .i64 0] 3) := ⟨_, rfl⟩
              rw [← hWa] at f0 ⊢
              have hb9 : Below W9.heap.size W9 Wa := by rw [hWa]; exact (Below.refl _ _).alloc (Nat.le_refl _) _
              have hPW9 : p ≤ W9.heap.size := by have := HPd.out.cells.lt; omega
              have hpm := HPd.out.begin hb9 (x := .slice (some ⟨W9.heap.size, 0, none⟩) 2 2) (r := pl (u1, 0)) (by rw [hWa]; exact has_lit2 u1 0 (Nat.le_refl _))
              have HBa : Hid (Below p W0 Wa) := HBd.out.trans (hb9.mono hPW9)
              have hc0 := old_cellC hb9 (old_cellC HBB.out HC0.out)
              have hc1 := old_cellC hb9 (old_cellC HBB.out HC1.out)
              have hc2 := old_cellC hb9 (old_cellC HBB.out HC2.out)
              have b3 := old_cellC hb9 b1'
              have b4 := old_cellC hb9 b2'
              have f1 := (HAd.out.below hb9).c1
              have HZL := Lib.hid (show p ≤ W9.heap.size ∧ W9.heap.size < Wa.heap.size from ⟨hPW9, by rw [hWa, size_alloc']; omega⟩)
              obtain ⟨tz, htz⟩ : ∃ z, z = W9.heap.size := ⟨_, rfl⟩
              rw [← htz] at hpm HZL ⊢
              have HPa := Lib.hid hpm
              have hcn := CellsN.new W9 3 [.int .i64 u1, .int .i64 0]
              have hto : Wa.cell? ⟨tz, 1, none⟩ = some (.int .i64 0) := by rw [hWa, htz]; exact hcn.at_ (i := 1) rfl
              have htf : Wa.frozen? ⟨tz, 1, none⟩ = false := by rw [hWa, htz]; exact hcn.f 1
              clear hcn
              have hwr : IntKind.i64.wrap ((k : Int) + 1) = (k : Int) + 1 := by rw [IntKind.wrap_i64]; omega
              clear hWa hb9 hPW9 hpm htz HPd HBd HBB b1' b2'
              go_wp2
              go_still_tail 16, (by kernel_rfl)
              change wpList _ _ _ _ _ Wa.drew
              have hbd := below_drew' Wa
              have hPd := HPa.out.below hbd
              have HBd2 := Lib.hid (HBa.out.trans (hbd.mono (show p ≤ Wa.heap.size by have := HZL.out; omega)))
              have hto2 := old_cellC hbd hto
              have htf2 : Wa.drew.frozen? ⟨tz, 1, none⟩ = false := htf
              have HPd2 := Lib.hid hPd
              have HZL2 := Lib.hid (show tz < Wa.drew.heap.size from HZL.out.2)
              generalize Wa.drew = Wb at HPd2 HBd2 hto2 htf2 HZL2 ⊢
              clear hPd hbd HPa HBa hc0 hc1 hc2 b3 b4 f0 f1 hto htf hwr
              go_wp2_with fail
              obtain ⟨W10, hW10⟩ : ∃ W, W = Wb.setCell ⟨tz, 1, none⟩ (.int .i64 u2) := ⟨_, rfl⟩
              rw [← hW10]
              have hpw := HPd2.out.write 1 u2
              rw [show (pl (u1, 0)).set 1 u2 = pl (u1, u2) from rfl, ← hW10] at hpw
              have HPM := Lib.hid hpw
              have HBp : Hid (Below p W0 W10) := by rw [hW10]; exact HBd2.out.setCell (show p ≤ tz from HZL.out.1) _
              have HPW : Hid (p ≤ W10.heap.size) := by show _ ≤ _; rw [hW10, size_setCell']; have := HZL.out; have := HZL2.out; omega
              clear hW10 hpw hto2 htf2 HPd2 HBd2 HZL2
              -- the search for the pair t among those found; W10: the world behind t's slice
              have hBx0 : Hid (Below W10.heap.size W10 W10) := Below.refl _ _
              go_loopw [12, 13] (fun f' n' wr => ∃ (n : Nat) (f : Int), n ≤ ml ∧ n' = .int .i64 n ∧ f' = .int .i64 f ∧ Hid (FoundL MD (u1, u2) n f) ∧ Hid (Below W10.heap.size W10 wr)) (fun _ n' _ => ml - (intOf n').toNat)
              case atStart => exact ⟨0, -1, Nat.zero_le _, rfl, rfl, .inl ⟨rfl, fun j hj => by omega⟩, hBx0⟩
              case round =>
                clear hBx0
                obtain ⟨n, f, hnl, rfl, rfl, hF, hBx⟩ := hrel
                obtain ⟨W11, rfl⟩ : ∃ W : World, W = wr := ⟨_, rfl⟩
                have hPM := HPM.out.below hBx.out
                have HPM11 := Lib.hid hPM
                clear hPM
                by_cases hgo : n < ml ∧ f < 0
                case pos =>
                  obtain ⟨hn2, hf⟩ := hgo
                  have hdf := decide_eq_true hf
                  obtain ⟨s2, hs2⟩ : ∃ x, MD[n]? = some x := ⟨_, List.getElem?_eq_getElem (by have := HML.out; omega)⟩
                  obtain ⟨eq2, eo2, ec2, g2, gc2, hve, hc0, _, _, hly⟩ := HPM11.out.at_ hs2
                  injection hve with e1 e2 e3
                  injection e1 with e1
                  injection e1 with e1 e1'
                  subst e1; subst e1'
                  have hlt := (HPM11.out.extra (x := .slice (some ⟨tz, 0, none⟩) 2 2) (r := pl (u1, u2)) (List.mem_cons_self ..)).has.lies
                  have hn0 : (0 : Int) ≤ (n : Int) := Int.natCast_nonneg _
                  have hnd : (n : Int) < (ml : Int) := by omega
                  have HS2 := Lib.hid hs2
                  have HLY := Lib.hid hly
                  have HLT := Lib.hid hlt
                  have HFN := Lib.hid hf
                  clear hs2 hly hlt hf e2 e3
                  by_cases he : s2 = (u1, u2)
                  · have HC := Lib.hid (same_c HLY.out HLT.out (show decide (pl s2 = pl (u1, u2)) = true by rw [he]; exact decide_eq_true rfl))
                    have HFY : Hid (FoundL MD (u1, u2) (n + 1) (n : Int)) := .inr ⟨n, rfl, by rw [HS2.out, he]⟩
                    clear he
                    go_wp2_with fail
                    refine HC.out.mono ?_
                    rintro e W12 ⟨rfl, bx⟩
                    have HB12 := Lib.hid (hBx.out.trans (bx.mono hBx.out.size))
                    clear bx
                    go_wp2
                    go_roundw
                    case rel => exact ⟨n + 1, (n : Int), by omega, by go_num, rfl, HFY, HB12⟩
                    case measure => simp [intOf]; omega
                  · have HC := Lib.hid (same_c HLY.out HLT.out (show decide (pl s2 = pl (u1, u2)) = false from decide_eq_false (fun h => he (pl_inj h))))
                    have HFY : Hid (FoundL MD (u1, u2) (n + 1) f) := foundL_no hF.out HFN.out HS2.out he
                    clear he
                    go_wp2_with fail
                    refine HC.out.mono ?_
                    rintro e W12 ⟨rfl, bx⟩
                    have HB12 := Lib.hid (hBx.out.trans (bx.mono hBx.out.size))
                    clear bx
                    go_wp2
                    go_roundw
                    case rel => exact ⟨n + 1, f, by omega, by go_num, rfl, HFY, HB12⟩
                    case measure => simp [intOf]; omega
                case neg =>
                  have HBe := Lib.hid (HBp.out.trans (hBx.out.mono HPW.out))
                  have hfe := foundL_end (by rw [HMD.out]; exact mid_nodup i s k) hF.out (by have := HML.out; omega)
                  clear hF
                  have HPS := Lib.hid (part_succ (st := st) (nx := nx) (b := bn) s k)
                  have HPL := Lib.hid (part_len (st := st) (nx := nx) (b := bn) s k)
                  have HLE := Lib.hid (show BB ≤ W11.heap.size from Nat.le_trans HPM11.out.lo HPM11.out.le)
                  have hle20 : ml ≤ 19 := by omega
                  rcases hfe with ⟨hf1, hno⟩ | ⟨hf1, hyes, hfx⟩
                  · have hnl2 : ¬ n < ml := fun h => hgo ⟨h, by omega⟩
                    have hdf : decide (f < 0) = true := decide_eq_true (by omega)
                    have hpn := place_new (st := st) (nx := nx) (b := bn) hi16 hkb2 HSI.out (by rw [← HTN.out, ← HMD.out]; exact hno)
                    rw [← HMD.out, ← HTN.out, HML.out] at hpn
                    have HON := Lib.hid hpn.1
                    have HPN : Hid (pairPart st nx bn s (k + 1) = (pairPart st nx bn s k) ++ [(ml : Int)]) := by
                      show _ = _
                      rw [HPS.out, ← HTN.out, hpn.2]
                    clear hgo hno hpn hf1
                    have hPMx := HPM11.out
                    have HX1 := Lib.hid hPMx.etop
                    have HEL := Lib.hid (show es'.length = ml by rw [hPMx.el, HML.out])
                    clear hPMx
                    go_wp2_with (first
                      | (at_builtin; refine wpList_append_list (enc := id) (e := 25) rfl (.tmp 120) (.tmp 122) 24 rfl BB i2 (.slice none 0 0) 24 Try.underlying24 hi2 hz20 hz21 hz22 rfl (.slice (some ⟨eq, eo, none⟩) ml ec') es' rfl (has_alloc HX1.out _) (.slice (some ⟨W11.heap.size, 0, none⟩) 1 1) [.slice (some ⟨tz, 0, none⟩) 2 2] rfl (lies_lit1v _ rfl) (fun y hy => by simp at hy; subst hy; rfl) (by rw [HEL.out]; simp; omega) (by rw [HEL.out]; simp; omega) (by have := HLE.out; simp; omega) ?_; intro v8 w8 hv8 hg8 hb8; obtain ⟨a8, c8, hvf, _⟩ := hv8.form; rw [show (es' ++ [Value.slice (some ⟨tz, 0, none⟩) 2 2]).length = ml + 1 from by rw [List.length_append, HEL.out]; rfl] at hvf; subst hvf; have hg8' := grown_alloc hg8; have hpm8 := HPM11.out.add hv8 hg8' (fun k hk => (hb8 k hk).imp id (fun h => by simp at h; omega)); have HP8 := Lib.hid hpm8; clear hpm8; have HLE8 := Lib.hid (Nat.le_trans HLE.out hg8'.size))
                      | (at_builtin; refine wpList_append_list (enc := Value.int .i64) (e := 3) rfl (.tmp 124) (.tmp 126) 25 rfl BB i0 (.int .i64 0) 8 Try.underlying25 hi0 hz0 hz1 hz2 rfl (.slice rra k rrc) (pairPart st nx bn s k) rfl (has_alloc (HP8.out.extra (x := .slice rra k rrc) (r := (pairPart st nx bn s k)) (List.mem_cons_self ..)).has _) (.slice (some ⟨w8.heap.size, 0, none⟩) 1 1) [(ml : Int)] rfl (lies_lit1 (enc := Value.int .i64) _ rfl) (fun _ _ => rfl) (by rw [HPL.out]; simp only [List.length_cons, List.length_nil]; omega) (by rw [HPL.out]; simp only [List.length_cons, List.length_nil]; omega) (by have := HLE8.out; simp; omega) ?_; intro v9 w9 hv9 hg9 hb9; have hg9' := grown_alloc hg9))
                    have HR9 := HP8.out.grow hv9 hg9' (fun k hk => (hb9 k hk).imp id (fun h => by simp at h; omega))
                    rw [← HPN.out, ← HON.out] at HR9
                    have HR9' := Lib.hid HR9
                    have hxe := HX1.out
                    have hB8 : Below p W0 w8 := HBe.out.grown hg8' (Nat.le_trans HPB.out HLE.out) (fun kk hk => Nat.le_trans HPB.out (hxe.lt kk hk).1)
                    have HB9 : Hid (Below p W0 w9) := hB8.grown hg9' (Nat.le_trans HPB.out HLE8.out) (fun kk hk => Nat.le_trans HPB.out ((HP8.out.extra (x := .slice rra _ rrc) (r := (pairPart st nx bn s k)) (List.mem_cons_self ..)).has.lt kk hk).1)
                    have hm20 : (midP st nx bn i s (k + 1)).length ≤ 20 := by rw [HON.out, List.length_append, HML.out]; simp; omega
                    clear hv8 hg8 hb8 hg8' hv9 hg9 hb9 hg9' HR9 HP8 hB8 hxe HX1 HPM11
                    go_wp2
                    go_roundw
                    case rel => exact ⟨k + 1, _, _, by omega, hm20, by go_num, HR9', HB9⟩
                    case measure => simp [intOf]; omega
                  · have hdf : decide (f < 0) = false := decide_eq_false (by omega)
                    have hpo := place_old (st := st) (nx := nx) (b := bn) hi16 hkb2 HSI.out (by rw [← HTN.out, ← HMD.out]; exact hyes)
                    rw [← HTN.out, ← HMD.out] at hpo
                    have HON := Lib.hid hpo.1
                    have HPN : Hid (pairPart st nx bn s (k + 1) = (pairPart st nx bn s k) ++ [f]) := by
                      show _ = _
                      rw [HPS.out, ← HTN.out, hpo.2, hfx]
                    clear hgo hyes hfx hpo hf1
                    have hpf := HPM11.out.forget
                    have HP8 := Lib.hid hpf
                    clear hpf HPM11
                    by_cases hnl2 : n < ml
                    all_goals
                      go_wp2_with (at_builtin; refine wpList_append_list (enc := Value.int .i64) (e := 3) rfl (.tmp 124) (.tmp 126) 25 rfl BB i0 (.int .i64 0) 8 Try.underlying25 hi0 hz0 hz1 hz2 rfl (.slice rra k rrc) (pairPart st nx bn s k) rfl (has_alloc (HP8.out.extra (x := .slice rra k rrc) (r := (pairPart st nx bn s k)) (List.mem_cons_self ..)).has _) (.slice (some ⟨W11.heap.size, 0, none⟩) 1 1) [f] rfl (lies_lit1 (enc := Value.int .i64) _ rfl) (fun _ _ => rfl) (by rw [HPL.out]; simp only [List.length_cons, List.length_nil]; omega) (by rw [HPL.out]; simp only [List.length_cons, List.length_nil]; omega) (by have := HLE.out; simp; omega) ?_; intro v9 w9 hv9 hg9 hb9; have hg9' := grown_alloc hg9)
                      have HR9 := HP8.out.grow hv9 hg9' (fun k hk => (hb9 k hk).imp id (fun h => by simp at h; omega))
                      rw [← HPN.out, ← HON.out] at HR9
                      have HR9' := Lib.hid HR9
                      have HB9 : Hid (Below p W0 w9) := HBe.out.grown hg9' (Nat.le_trans HPB.out HLE.out) (fun kk hk => Nat.le_trans HPB.out ((HP8.out.extra (x := .slice rra _ rrc) (r := (pairPart st nx bn s k)) (List.mem_cons_self ..)).has.lt kk hk).1)
                      have hm20 : (midP st nx bn i s (k + 1)).length ≤ 20 := by rw [HON.out, HML.out]; omega
                      clear hv9 hg9 hb9 hg9' HR9 HP8
                      go_wp2
                      go_roundw
                      case rel => exact ⟨k + 1, _, _, by omega, hm20, by go_num, HR9', HB9⟩
                      case measure => simp [intOf]; omega
            case neg =>
              have hd1 : decide ((k : Int) + 1 < (bn : Int)) = false := decide_eq_false (by omega)
              have hd2 : decide (k + 1 < bn) = false := decide_eq_false hl
              obtain ⟨p2, o2, q2, t2, c2', n2, e2, a3, hn2, a4⟩ := step_cells HSA.out HVA.out hyb (d := 0) (by omega)
              injection e2 with e2
              injection e2 with e3 e4 _
              subst e3; subst e4
              obtain ⟨u2, hu2⟩ : ∃ u, u = nextS RR y 0 := ⟨_, rfl⟩
              have HTN : Hid ((u1, u2) = nx s k) := by show _ = _; rw [HXY.out, HNX.out x y k, if_neg hl, HU1.out, hu2]
              rw [show nextS RR (y : Int) ((0 : Nat) : Int) = u2 from hu2.symm, Nat.add_zero] at a4
              have b1' := old_cellC HBB.out (old_cellC HB0W.out a3)
              have b2' := old_cellC HBB.out (old_cellC HB0W.out a4)
              have hn20 : (0 : Int) < (n2 : Int) := by omega
              have hn21 : 0 < n2 := by omega
              clear a3 a4 hu2 hn2
              go_wp2_with fail
              obtain ⟨Wa, hWa⟩ : ∃ W, W = W9.alloc (.cells #[.int .i64 u1, .int .i64 0] 3) := ⟨_, rfl⟩
              rw [← hWa] at f0 ⊢
              have hb9 : Below W9.heap.size W9 Wa := by rw [hWa]; exact (Below.refl _ _).alloc (Nat.le_refl _) _
              have hPW9 : p ≤ W9.heap.size := by have := HPd.out.cells.lt; omega
              have hpm := HPd.out.begin hb9 (x := .slice (some ⟨W9.heap.size, 0, none⟩) 2 2) (r := pl (u1, 0)) (by rw [hWa]; exact has_lit2 u1 0 (Nat.le_refl _))
              have HBa : Hid (Below p W0 Wa) := HBd.out.trans (hb9.mono hPW9)
              have hc0 := old_cellC hb9 (old_cellC HBB.out HC0.out)
              have hc1 := old_cellC hb9 (old_cellC HBB.out HC1.out)
              have hc2 := old_cellC hb9 (old_cellC HBB.out HC2.out)
              have b3 := old_cellC hb9 b1'
              have b4 := old_cellC hb9 b2'
              have f1 := (HAd.out.below hb9).c1
              have HZL := Lib.hid (show p ≤ W9.heap.size ∧ W9.heap.size < Wa.heap.size from ⟨hPW9, by rw [hWa, size_alloc']; omega⟩)
              obtain ⟨tz, htz⟩ : ∃ z, z = W9.heap.size := ⟨_, rfl⟩
              rw [← htz] at hpm HZL ⊢
              have HPa := Lib.hid hpm
              have hcn := CellsN.new W9 3 [.int .i64 u1, .int .i64 0]
              have hto : Wa.cell? ⟨tz, 1, none⟩ = some (.int .i64 0) := by rw [hWa, htz]; exact hcn.at_ (i := 1) rfl
              have htf : Wa.frozen? ⟨tz, 1, none⟩ = false := by rw [hWa, htz]; exact hcn.f 1
              clear hcn
              have hwr : IntKind.i64.wrap ((k : Int) + 1) = (k : Int) + 1 := by rw [IntKind.wrap_i64]; omega
              clear hWa hb9 hPW9 hpm htz HPd HBd HBB b1' b2'
              go_wp2
              go_still_tail 14, (by kernel_rfl)
              change wpList _ _ _ _ _ Wa.drew
              have hbd := below_drew' Wa
              have hPd := HPa.out.below hbd
              have HBd2 := Lib.hid (HBa.out.trans (hbd.mono (show p ≤ Wa.heap.size by have := HZL.out; omega)))
              have hto2 := old_cellC hbd hto
              have htf2 : Wa.drew.frozen? ⟨tz, 1, none⟩ = false := htf
              have HPd2 := Lib.hid hPd
              have HZL2 := Lib.hid (show tz < Wa.drew.heap.size from HZL.out.2)
              generalize Wa.drew = Wb at HPd2 HBd2 hto2 htf2 HZL2 ⊢
              clear hPd hbd HPa HBa hc0 hc1 hc2 b3 b4 f0 f1 hto htf hwr
              go_wp2_with fail
              obtain ⟨W10, hW10⟩ : ∃ W, W = Wb.setCell ⟨tz, 1, none⟩ (.int .i64 u2) := ⟨_, rfl⟩
              rw [← hW10]
              have hpw := HPd2.out.write 1 u2
              rw [show (pl (u1, 0)).set 1 u2 = pl (u1, u2) from rfl, ← hW10] at hpw
              have HPM := Lib.hid hpw
              have HBp : Hid (Below p W0 W10) := by rw [hW10]; exact HBd2.out.setCell (show p ≤ tz from HZL.out.1) _
              have HPW : Hid (p ≤ W10.heap.size) := by show _ ≤ _; rw [hW10, size_setCell']; have := HZL.out; have := HZL2.out; omega
              clear hW10 hpw hto2 htf2 HPd2 HBd2 HZL2
              -- the search for the pair t among those found; W10: the world behind t's slice
              have hBx0 : Hid (Below W10.heap.size W10 W10) := Below.refl _ _
              go_loopw [12, 13] (fun f' n' wr => ∃ (n : Nat) (f : Int), n ≤ ml ∧ n' = .int .i64 n ∧ f' = .int .i64 f ∧ Hid (FoundL MD (u1, u2) n f) ∧ Hid (Below W10.heap.size W10 wr)) (fun _ n' _ => ml - (intOf n').toNat)
              case atStart => exact ⟨0, -1, Nat.zero_le _, rfl, rfl, .inl ⟨rfl, fun j hj => by omega⟩, hBx0⟩
              case round =>
                clear hBx0
                obtain ⟨n, f, hnl, rfl, rfl, hF, hBx⟩ := hrel
                obtain ⟨W11, rfl⟩ : ∃ W : World, W = wr := ⟨_, rfl⟩
                have hPM := HPM.out.below hBx.out
                have HPM11 := Lib.hid hPM
                clear hPM
                by_cases hgo : n < ml ∧ f < 0
                case pos =>
                  obtain ⟨hn2, hf⟩ := hgo
                  have hdf := decide_eq_true hf
                  obtain ⟨s2, hs2⟩ : ∃ x, MD[n]? = some x := ⟨_, List.getElem?_eq_getElem (by have := HML.out; omega)⟩
                  obtain ⟨eq2, eo2, ec2, g2, gc2, hve, hc0, _, _, hly⟩ := HPM11.out.at_ hs2
                  injection hve with e1 e2 e3
                  injection e1 with e1
                  injection e1 with e1 e1'
                  subst e1; subst e1'
                  have hlt := (HPM11.out.extra (x := .slice (some ⟨tz, 0, none⟩) 2 2) (r := pl (u1, u2)) (List.mem_cons_self ..)).has.lies
                  have hn0 : (0 : Int) ≤ (n : Int) := Int.natCast_nonneg _
                  have hnd : (n : Int) < (ml : Int) := by omega
                  have HS2 := Lib.hid hs2
                  have HLY := Lib.hid hly
                  have HLT := Lib.hid hlt
                  have HFN := Lib.hid hf
                  clear hs2 hly hlt hf e2 e3
                  by_cases he : s2 = (u1, u2)
                  · have HC := Lib.hid (same_c HLY.out HLT.out (show decide (pl s2 = pl (u1, u2)) = true by rw [he]; exact decide_eq_true rfl))
                    have HFY : Hid (FoundL MD (u1, u2) (n + 1) (n : Int)) := .inr ⟨n, rfl, by rw [HS2.out, he]⟩
                    clear he
                    go_wp2_with fail
                    refine HC.out.mono ?_
                    rintro e W12 ⟨rfl, bx⟩
                    have HB12 := Lib.hid (hBx.out.trans (bx.mono hBx.out.size))
                    clear bx
                    go_wp2
                    go_roundw
                    case rel => exact ⟨n + 1, (n : Int), by omega, by go_num, rfl, HFY, HB12⟩
                    case measure => simp [intOf]; omega
                  · have HC := Lib.hid (same_c HLY.out HLT.out (show decide (pl s2 = pl (u1, u2)) = false from decide_eq_false (fun h => he (pl_inj h))))
                    have HFY : Hid (FoundL MD (u1, u2) (n + 1) f) := foundL_no hF.out HFN.out HS2.out he
                    clear he
                    go_wp2_with fail
                    refine HC.out.mono ?_
                    rintro e W12 ⟨rfl, bx⟩
                    have HB12 := Lib.hid (hBx.out.trans (bx.mono hBx.out.size))
                    clear bx
                    go_wp2
                    go_roundw
                    case rel => exact ⟨n + 1, f, by omega, by go_num, rfl, HFY, HB12⟩
                    case measure => simp [intOf]; omega
                case neg =>
                  have HBe := Lib.hid (HBp.out.trans (hBx.out.mono HPW.out))
                  have hfe := foundL_end (by rw [HMD.out]; exact mid_nodup i s k) hF.out (by have := HML.out; omega)
                  clear hF
                  have HPS := Lib.hid (part_succ (st := st) (nx := nx) (b := bn) s k)
                  have HPL := Lib.hid (part_len (st := st) (nx := nx) (b := bn) s k)
                  have HLE := Lib.hid (show BB ≤ W11.heap.size from Nat.le_trans HPM11.out.lo HPM11.out.le)
                  have hle20 : ml ≤ 19 := by omega
                  rcases hfe with ⟨hf1, hno⟩ | ⟨hf1, hyes, hfx⟩
                  · have hnl2 : ¬ n < ml := fun h => hgo ⟨h, by omega⟩
                    have hdf : decide (f < 0) = true := decide_eq_true (by omega)
                    have hpn := place_new (st := st) (nx := nx) (b := bn) hi16 hkb2 HSI.out (by rw [← HTN.out, ← HMD.out]; exact hno)
                    rw [← HMD.out, ← HTN.out, HML.out] at hpn
                    have HON := Lib.hid hpn.1
                    have HPN : Hid (pairPart st nx bn s (k + 1) = (pairPart st nx bn s k) ++ [(ml : Int)]) := by
                      show _ = _
                      rw [HPS.out, ← HTN.out, hpn.2]
                    clear hgo hno hpn hf1
                    have hPMx := HPM11.out
                    have HX1 := Lib.hid hPMx.etop
                    have HEL := Lib.hid (show es'.length = ml by rw [hPMx.el, HML.out])
                    clear hPMx
                    go_wp2_with (first
                      | (at_builtin; refine wpList_append_list (enc := id) (e := 25) rfl (.tmp 120) (.tmp 122) 24 rfl BB i2 (.slice none 0 0) 24 Try.underlying24 hi2 hz20 hz21 hz22 rfl (.slice (some ⟨eq, eo, none⟩) ml ec') es' rfl (has_alloc HX1.out _) (.slice (some ⟨W11.heap.size, 0, none⟩) 1 1) [.slice (some ⟨tz, 0, none⟩) 2 2] rfl (lies_lit1v _ rfl) (fun y hy => by simp at hy; subst hy; rfl) (by rw [HEL.out]; simp; omega) (by rw [HEL.out]; simp; omega) (by have := HLE.out; simp; omega) ?_; intro v8 w8 hv8 hg8 hb8; obtain ⟨a8, c8, hvf, _⟩ := hv8.form; rw [show (es' ++ [Value.slice (some ⟨tz, 0, none⟩) 2 2]).length = ml + 1 from by rw [List.length_append, HEL.out]; rfl] at hvf; subst hvf; have hg8' := grown_alloc hg8; have hpm8 := HPM11.out.add hv8 hg8' (fun k hk => (hb8 k hk).imp id (fun h => by simp at h; omega)); have HP8 := Lib.hid hpm8; clear hpm8; have HLE8 := Lib.hid (Nat.le_trans HLE.out hg8'.size))
                      | (at_builtin; refine wpList_append_list (enc := Value.int .i64) (e := 3) rfl (.tmp 124) (.tmp 126) 25 rfl BB i0 (.int .i64 0) 8 Try.underlying25 hi0 hz0 hz1 hz2 rfl (.slice rra k rrc) (pairPart st nx bn s k) rfl (has_alloc (HP8.out.extra (x := .slice rra k rrc) (r := (pairPart st nx bn s k)) (List.mem_cons_self ..)).has _) (.slice (some ⟨w8.heap.size, 0, none⟩) 1 1) [(ml : Int)] rfl (lies_lit1 (enc := Value.int .i64) _ rfl) (fun _ _ => rfl) (by rw [HPL.out]; simp only [List.length_cons, List.length_nil]; omega) (by rw [HPL.out]; simp only [List.length_cons, List.length_nil]; omega) (by have := HLE8.out; simp; omega) ?_; intro v9 w9 hv9 hg9 hb9; have hg9' := grown_alloc hg9))
                    have HR9 := HP8.out.grow hv9 hg9' (fun k hk => (hb9 k hk).imp id (fun h => by simp at h; omega))
                    rw [← HPN.out, ← HON.out] at HR9
                    have HR9' := Lib.hid HR9
                    have hxe := HX1.out
                    have hB8 : Below p W0 w8 := HBe.out.grown hg8' (Nat.le_trans HPB.out HLE.out) (fun kk hk => Nat.le_trans HPB.out (hxe.lt kk hk).1)
                    have HB9 : Hid (Below p W0 w9) := hB8.grown hg9' (Nat.le_trans HPB.out HLE8.out) (fun kk hk => Nat.le_trans HPB.out ((HP8.out.extra (x := .slice rra _ rrc) (r := (pairPart st nx bn s k)) (List.mem_cons_self ..)).has.lt kk hk).1)
                    have hm20 : (midP st nx bn i s (k + 1)).length ≤ 20 := by rw [HON.out, List.length_append, HML.out]; simp; omega
                    clear hv8 hg8 hb8 hg8' hv9 hg9 hb9 hg9' HR9 HP8 hB8 hxe HX1 HPM11
                    go_wp2
                    go_roundw
                    case rel => exact ⟨k + 1, _, _, by omega, hm20, by go_num, HR9', HB9⟩
                    case measure => simp [intOf]; omega
                  · have hdf : decide (f < 0) = false := decide_eq_false (by omega)
                    have hpo := place_old (st := st) (nx := nx) (b := bn) hi16 hkb2 HSI.out (by rw [← HTN.out, ← HMD.out]; exact hyes)
                    rw [← HTN.out, ← HMD.out] at hpo
                    have HON := Lib.hid hpo.1
                    have HPN : Hid (pairPart st nx bn s (k + 1) = (pairPart st nx bn s k) ++ [f]) := by
                      show _ = _
                      rw [HPS.out, ← HTN.out, hpo.2, hfx]
                    clear hgo hyes hfx hpo hf1
                    have hpf := HPM11.out.forget
                    have HP8 := Lib.hid hpf
                    clear hpf HPM11
                    by_cases hnl2 : n < ml
                    all_goals
                      go_wp2_with (at_builtin; refine wpList_append_list (enc := Value.int .i64) (e := 3) rfl (.tmp 124) (.tmp 126) 25 rfl BB i0 (.int .i64 0) 8 Try.underlying25 hi0 hz0 hz1 hz2 rfl (.slice rra k rrc) (pairPart st nx bn s k) rfl (has_alloc (HP8.out.extra (x := .slice rra k rrc) (r := (pairPart st nx bn s k)) (List.mem_cons_self ..)).has _) (.slice (some ⟨W11.heap.size, 0, none⟩) 1 1) [f] rfl (lies_lit1 (enc := Value.int .i64) _ rfl) (fun _ _ => rfl) (by rw [HPL.out]; simp only [List.length_cons, List.length_nil]; omega) (by rw [HPL.out]; simp only [List.length_cons, List.length_nil]; omega) (by have := HLE.out; simp; omega) ?_; intro v9 w9 hv9 hg9 hb9; have hg9' := grown_alloc hg9)
                      have HR9 := HP8.out.grow hv9 hg9' (fun k hk => (hb9 k hk).imp id (fun h => by simp at h; omega))
                      rw [← HPN.out, ← HON.out] at HR9
                      have HR9' := Lib.hid HR9
                      have HB9 : Hid (Below p W0 w9) := HBe.out.grown hg9' (Nat.le_trans HPB.out HLE.out) (fun kk hk => Nat.le_trans HPB.out ((HP8.out.extra (x := .slice rra _ rrc) (r := (pairPart st nx bn s k)) (List.mem_cons_self ..)).has.lt kk hk).1)
                      have hm20 : (midP st nx bn i s (k + 1)).length ≤ 20 := by rw [HON.out, HML.out]; omega
                      clear hv9 hg9 hb9 hg9' HR9 HP8
                      go_wp2
                      go_roundw
                      case rel => exact ⟨k + 1, _, _, by omega, hm20, by go_num, HR9', HB9⟩
                      case measure => simp [intOf]; omega
          case neg =>
            obtain ⟨tq, htq⟩ : ∃ t, t = tm s := ⟨_, rfl⟩
            have HTQ := Lib.hid htq
            clear htq
            -- the row is whole: it is appended
            have HKE := Lib.hid (show k = bn by omega)
            have hkd : decide (k < bn) = false := decide_eq_false hlk
            have HON : Hid (MD = pairI st nx bn (i + 1)) := by show _ = _; rw [HMD.out, HKE.out]; exact mid_end HSI.out
            have hPE : (pairPart st nx bn s k) = pairRow st nx bn s := by rw [HKE.out]; rfl
            have hfa := found_at (st := st) (nx := nx) (b := bn) (show i ≤ 17 by omega) HSI.out
            have HRS := Lib.hid (rows_succ hfa)
            have HOU := Lib.hid (outs_succ (tm := tm) hfa)
            have hM8 := hM.out
            rw [hPE] at hM8
            have HM8 := Lib.hid hM8
            have HUL : Hid (us.length = l1) := by show _ = _; rw [HL1.out]; exact hM8.ul
            have d1 := HM8.out.cells.c1
            have d2 := (HM8.out.cells.alloc (.cells #[Value.slice rra k rrc] 25)).c1
            have HNP := Lib.hid (has_ne_c3 HM8.out.top HM8.out.cells (by decide))
            have HLO8 := Lib.hid (show BB ≤ W8.heap.size from Nat.le_trans HM8.out.lo HM8.out.le)
            have HB8 := hB
            have e0 := hA.c0
            have HSI2 : Hid ((pairI st nx bn (i + 1))[i]? = some s) := by rw [← HON.out]; exact HSM.out
            have hln : (pairI st nx bn (i + 1)).length ≤ 20 := by rw [← HON.out, HML.out]; omega
            have hil2 : i + 1 ≤ (pairI st nx bn (i + 1)).length := by rw [← HON.out, HML.out]; omega
            have HLEN := Lib.hid (show ml = (pairI st nx bn (i + 1)).length by rw [← HON.out]; exact HML.out.symm)
            try clear hO
            clear hPE hfa hM8 hM hB hA hBw hc0 hc1 hc2
            go_wp2_with (at_builtin; refine wpList_append_list (enc := id) (e := 25) rfl (.tmp 129) (.tmp 131) 24 rfl BB i2 (.slice none 0 0) 24 Try.underlying24 hi2 hz20 hz21 hz22 rfl (.slice na l1 nc) us rfl (has_alloc HM8.out.top _) (.slice (some ⟨W8.heap.size, 0, none⟩) 1 1) [.slice rra k rrc] rfl (lies_lit1v _ rfl) (fun y hy => by simp at hy; subst hy; rfl) (by rw [HUL.out]; simp; omega) (by rw [HUL.out]; simp; omega) (by have := HLO8.out; simp; omega) ?_; intro v' w2 hv' hg2 hbk; obtain ⟨a3, c3, hvf, _⟩ := hv'.form; rw [show (us ++ [Value.slice rra k rrc]).length = l1 + 1 from by rw [List.length_append, HUL.out]; rfl] at hvf; subst hvf; have hg3 := grown_alloc hg2; have hc2 := HM8.out.cells.grown hg3 HNP.out; have d3 := hc2.c1; have df := hc2.f)
            obtain ⟨l3, hl3⟩ : ∃ l, l = l1 + 1 := ⟨_, rfl⟩
            rw [← hl3] at hv' hbk ⊢
            have hpm5 := HM8.out.done hv' hg3 (fun kk hk => (hbk kk hk).imp id (fun h => by simp at h; omega))
            rw [HON.out, ← HRS.out] at hpm5
            have HM5 := Lib.hid hpm5
            have HB5 : Hid (Below p W0 (w2.setCell ⟨p, 1, none⟩ (.slice a3 l3 c3))) := (HB8.out.grown hg3 (Nat.le_trans HPB.out HLO8.out) (fun kk hk => Nat.le_trans HPB.out (HM8.out.top.lt kk hk).1)).setCell (Nat.le_refl _) _
            have HG6 : Hid (BB ≤ (w2.setCell ⟨p, 1, none⟩ (.slice a3 l3 c3)).heap.size) := by show _ ≤ _; rw [size_setCell']; exact Nat.le_trans HLO8.out hg3.size
            obtain ⟨W5, hW5⟩ : ∃ W, W = w2.setCell ⟨p, 1, none⟩ (.slice a3 l3 c3) := ⟨_, rfl⟩
            rw [← hW5] at HM5 HB5 HG6 ⊢
            have HW5 := Lib.hid (show w2.heap.size = W5.heap.size by rw [hW5, size_setCell'])
            rw [HW5.out] at HM5
            clear hpm5 hv' hg2 hg3 hbk hc2 d1 d2 d3 df HM8 HB8 hW5 hl3 HNP HLO8 e0
            obtain ⟨eq3, eo3, ec3, g3, gc3, hve3, hd0, hd1, hd2, _⟩ := HM5.out.at_ HSI2.out
            rw [← HLEN.out] at hve3
            injection hve3 with f1 f2 f3
            injection f1 with f1
            injection f1 with f1 f1'
            subst f1; subst f1'; subst f3
            have hVO := HM5.out.terms
            have HVO := Lib.hid hVO.has
            have HOLN : Hid ((pairOuts st nx bn tm i).length = l2) := HL2.out.symm
            have c4 := HM5.out.cells.c2
            have c5 := (HM5.out.cells.alloc (.cells #[Value.int .i64 tq] 3)).c2
            have hpl := HM5.out.cells.lt
            have HNO := Lib.hid (has_ne_c3 HVO.out HM5.out.cells (by decide))
            clear hVO f2
            rw [HXY.out] at hd2
            simp only at hd2
            obtain ⟨qb, tb, he2, b1, hyo, _⟩ := term_cells HSA.out HVA.out hyb
            have hBW0 : Below W0.heap.size W0 W5 := by rw [← HP0.out]; exact HB5.out
            have b1' := old_cellC hBW0 b1
            subst he2
            have hA := c3_of_below HB5.out HA3.out (by have := HNUM.out; omega)
            have e1 := hA.c2
            rw [show OO.getD y 0 = tq by rw [HTM.out x y, ← HXY.out, HTQ.out]] at b1'
            have hyoL : (y : Int) < (OO.length : Int) := by omega
            clear b1 hBW0 hA hyo hd1
            go_region_law ((refine step_append_at_list (enc := Value.int .i64) (e := 3) rfl (.tmp 135) (.tmp 146) 25 rfl BB i0 (.int .i64 0) 8 Try.underlying25 hi0 hz0 hz1 hz2 rfl (.slice oa1 l2 oc1) (pairOuts st nx bn tm i) rfl (by repeat (first | with_reducible exact HVO.out | with_reducible apply has_drew | with_reducible apply has_alloc)) (Value.slice (some ⟨_, 0, none⟩) 1 1) [tq] rfl (by repeat (first | with_reducible apply lies_drew | (with_reducible refine lies_lit1 (enc := Value.int .i64) _ rfl) | with_reducible apply lies_alloc)) (fun _ _ => rfl) (by rw [HOLN.out]; simp; omega) (by rw [HOLN.out]; simp; omega) (by have := HG6.out; simp; omega) ?_; intro vt w6 ho6 hg6 hb6; obtain ⟨a6, c6, hvf, _⟩ := ho6.form; rw [show ((pairOuts st nx bn tm i) ++ [tq]).length = l2 + 1 from by rw [List.length_append, HOLN.out]; rfl] at hvf; subst hvf; refine with_fact (T := W5.grownBy w6 (Value.slice oa1 l2 oc1).ownBlock) ?_ ?_; (focus (exact grown_alloc (grown_drew hg6))); intro hg7; have hc7 := HM5.out.cells.grown hg7 HNO.out; have r1 := hc7.c2; have r3 := hc7.f))
            all_goals
              have hm7 := HM5.out.term ho6 hg7 (fun kk hk => (hb6 kk hk).imp id (fun h => by simp at h; omega))
              rw [HTQ.out, ← HOU.out] at hm7
              have HM9 := Lib.hid hm7
              have HB7 : Hid (Below p W0 (w6.setCell ⟨p, 2, none⟩ (.slice a6 (l2 + 1) c6))) := (HB5.out.grown hg7 (Nat.le_trans HPB.out HG6.out) (fun kk hk => Nat.le_trans HPB.out (HVO.out.lt kk hk).1)).setCell (Nat.le_refl _) _
              have hi17 : i + 1 ≤ 16 := by have := H16.out; have := HL0.out; omega
              clear ho6 hb6 hg6 hg7 hc7 r1 r3 c4 c5 b1' e1 hd0 hd2 hpl HM5 HB5 HVO HNO hm7
              go_wp2
              go_roundw
              case rel => exact ⟨i + 1, _, _, _, _, _, hil2, hi17, hln, by go_num, HM9, HB7⟩
              case measure => simp [intOf]; omega
theorem spec_shift (v : Value) (b : Int) (rows : List (List Int)) (out : List Int) (w : World) (h : LiesS w v b rows out) (hs : rows.length + tot rows + out.length ≤ 1048576) :
    Calls Try.prog 15 #[v] w (GivesK (shB b rows out) (shR b rows out) (shO b rows out) (shK b rows out) w) := by
  cases hk : formK b rows out with
  | false =>
    obtain ⟨h1, h2, h3, h4⟩ := sh_no hk
    rw [h1, h2, h3, h4]
    exact spec_shift_no v b rows out w h hs hk
  | true =>
    obtain ⟨h1, h2, h3, h4⟩ := sh_yes hk
    rw [h1, h2, h3, h4]
    exact spec_shift_yes v b rows out w h hs hk
end Comb
end Go.Proofs.Ytodnkkofammhbaa
