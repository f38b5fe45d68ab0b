/- Contracts of IsMinimal and AreSameTerms, program and model: by the minimal forms. Conditions: the arguments' sizes, as each states. -/
import Derived.Test.YtdnfgbdfnndlnaaMinS
namespace Go.Proofs.Ytdnfgbdfnndlnaa
open Go.ChangeShapes Go.WideShapes Go.ChangeAt Go.RowKit
open Go.PlainAid Plain
set_option linter.unusedVariables false
namespace Mins
open Seqs
def isMinB (b : Int) (rows : List (List Int)) (out : List Int) : Bool := formK b rows out && ((minRV b rows out).length : Int) == (rows.length : Int)
def sameT (b b' : Int) (rows rows' : List (List Int)) (out out' : List Int) : Bool :=
  (formK b rows out && formK b' rows' out') && sameB (formB b rows out) (formB b' rows' out') (minRV b rows out) (minRV b' rows' out') (minOV b rows out) (minOV b' rows' out')
set_option maxHeartbeats 1000000 in
theorem impl_ismin (v : Value) (b : Int) (rows : List (List Int)) (out : List Int) (w : World) (h : LiesS w v b rows out) (hs : rows.length + tot rows + out.length ≤ 1048576) : Calls Try.prog 28 #[v] w fun e w' => e = .returned (.bool (isMinB b rows out)) ∧ Below w.heap.size w w' := by
  have HSZ := Lib.hid hs
  clear hs
  have HS := Lib.hid h
  obtain ⟨an, cn, ao, co, rfl⟩ := h.form
  clear h
  have HB : Hid (Below w.heap.size w (w.alloc (Obj.cells #[Value.int .i64 b, Value.slice an rows.length cn, Value.slice ao out.length co] 28))) := (Below.refl _ _).alloc (Nat.le_refl _) _
  have HC := Lib.hid (Cells3.new w 28 (.int .i64 b) (.slice an rows.length cn) (.slice ao out.length co))
  have k0 := HC.out.c0
  have k1 := HC.out.c1
  have k2 := HC.out.c2
  have hk0 : isMinB b rows out = (formK b rows out && ((minRV b rows out).length : Int) == (rows.length : Int)) := rfl
  have HCF := Lib.hid (impl_min _ b rows out _ (HS.out.below HB.out) HSZ.out)
  obtain ⟨B, hB⟩ : ∃ B, B = formB b rows out := ⟨_, rfl⟩
  obtain ⟨RR, hRR⟩ : ∃ R, R = minRV b rows out := ⟨_, rfl⟩
  obtain ⟨OO, hOO⟩ : ∃ O, O = minOV b rows out := ⟨_, rfl⟩
  rw [← hB, ← hRR, ← hOO] at HCF
  rw [hk0, ← hRR]
  clear hk0 hB hRR hOO
  obtain ⟨KK, hKK⟩ : ∃ K, K = formK b rows out := ⟨_, rfl⟩
  rw [← hKK] at HCF ⊢
  clear hKK
  obtain ⟨q, hq⟩ : ∃ q, q = ((RR.length : Int) == (rows.length : Int)) := ⟨_, rfl⟩
  have hq' := hq.symm
  rw [← hq]
  clear hq
  go_enter Try.func28, Try.ntmps28
  go_wp2_with fail
  refine HCF.out.mono ?_
  rintro e W1 ⟨v1, rfl, hv1, b1⟩
  obtain ⟨a1, c1, a2, c2, rfl⟩ := hv1.form
  have HB2 := Lib.hid (HB.out.trans (b1.mono HB.out.size))
  have HC2 := Lib.hid (HC.out.below b1)
  have HX := Lib.hid (Cells3.new W1 28 (.int .i64 B) (.slice a1 RR.length c1) (.slice a2 OO.length c2))
  have HC3 := Lib.hid (HC2.out.alloc (.cells #[.int .i64 B, .slice a1 RR.length c1, .slice a2 OO.length c2] 28))
  have HB3 := Lib.hid (HB2.out.alloc HB2.out.size (.cells #[.int .i64 B, .slice a1 RR.length c1, .slice a2 OO.length c2] 28))
  have j1 := HX.out.c1
  have j2 := HC3.out.c1
  clear b1 hv1 HC HB HC2 HCF k0 k1 k2
  cases KK
  all_goals
    go_wp2
    go_ret
    exact ⟨rfl, HB3.out⟩
set_option maxHeartbeats 1000000 in
theorem spec_ismin (v : Value) (b : Int) (rows : List (List Int)) (out : List Int) (w : World) (h : LiesS w v b rows out) (hs : rows.length + tot rows + out.length ≤ 1048576) : Calls Try.prog 27 #[v] w fun e w' => e = .returned (.bool (isMinB b rows out)) ∧ Below w.heap.size w w' := by
  have HSZ := Lib.hid hs
  clear hs
  have HS := Lib.hid h
  obtain ⟨an, cn, ao, co, rfl⟩ := h.form
  clear h
  have HB : Hid (Below w.heap.size w (w.alloc (Obj.cells #[Value.int .i64 b, Value.slice an rows.length cn, Value.slice ao out.length co] 28))) := (Below.refl _ _).alloc (Nat.le_refl _) _
  have HC := Lib.hid (Cells3.new w 28 (.int .i64 b) (.slice an rows.length cn) (.slice ao out.length co))
  have k0 := HC.out.c0
  have k1 := HC.out.c1
  have k2 := HC.out.c2
  have hk0 : isMinB b rows out = (formK b rows out && ((minRV b rows out).length : Int) == (rows.length : Int)) := rfl
  have HCF := Lib.hid (spec_min _ b rows out _ (HS.out.below HB.out) HSZ.out)
  obtain ⟨B, hB⟩ : ∃ B, B = formB b rows out := ⟨_, rfl⟩
  obtain ⟨RR, hRR⟩ : ∃ R, R = minRV b rows out := ⟨_, rfl⟩
  obtain ⟨OO, hOO⟩ : ∃ O, O = minOV b rows out := ⟨_, rfl⟩
  rw [← hB, ← hRR, ← hOO] at HCF
  rw [hk0, ← hRR]
  clear hk0 hB hRR hOO
  obtain ⟨KK, hKK⟩ : ∃ K, K = formK b rows out := ⟨_, rfl⟩
  rw [← hKK] at HCF ⊢
  clear hKK
  obtain ⟨q, hq⟩ : ∃ q, q = ((RR.length : Int) == (rows.length : Int)) := ⟨_, rfl⟩
  have hq' := hq.symm
  rw [← hq]
  clear hq
  go_enter Try.func27, Try.ntmps27
  go_wp2_with fail
  refine HCF.out.mono ?_
  rintro e W1 ⟨v1, rfl, hv1, b1⟩
  obtain ⟨a1, c1, a2, c2, rfl⟩ := hv1.form
  have HB2 := Lib.hid (HB.out.trans (b1.mono HB.out.size))
  have HC2 := Lib.hid (HC.out.below b1)
  have HX := Lib.hid (Cells3.new W1 28 (.int .i64 B) (.slice a1 RR.length c1) (.slice a2 OO.length c2))
  have HC3 := Lib.hid (HC2.out.alloc (.cells #[.int .i64 B, .slice a1 RR.length c1, .slice a2 OO.length c2] 28))
  have HB3 := Lib.hid (HB2.out.alloc HB2.out.size (.cells #[.int .i64 B, .slice a1 RR.length c1, .slice a2 OO.length c2] 28))
  have j1 := HX.out.c1
  have j2 := HC3.out.c1
  clear b1 hv1 HC HB HC2 HCF k0 k1 k2
  cases KK
  all_goals
    go_wp2
    go_ret
    exact ⟨rfl, HB3.out⟩
set_option maxHeartbeats 1000000 in
theorem impl_sameterms (u v : Value) (b b' : Int) (rows rows' : List (List Int)) (out out' : List Int) (w : World) (h1 : LiesS w u b rows out) (h2 : LiesS w v b' rows' out') (hs : rows.length + tot rows + out.length ≤ 1048576) (hs' : rows'.length + tot rows' + out'.length ≤ 1048576) : Calls Try.prog 24 #[u, v] w fun e w' => e = .returned (.bool (sameT b b' rows rows' out out')) ∧ Below w.heap.size w w' := by
  have HSZ := Lib.hid hs
  have HSZ' := Lib.hid hs'
  clear hs hs'
  have HS := Lib.hid h1
  have HS' := Lib.hid h2
  obtain ⟨an, cn, ao, co, rfl⟩ := h1.form
  obtain ⟨an', cn', ao', co', rfl⟩ := h2.form
  clear h1 h2
  have HB : Hid (Below w.heap.size w ((w.alloc (Obj.cells #[Value.int .i64 b, Value.slice an rows.length cn, Value.slice ao out.length co] 28)).alloc (Obj.cells #[Value.int .i64 b', Value.slice an' rows'.length cn', Value.slice ao' out'.length co'] 28))) := ((Below.refl _ _).alloc (Nat.le_refl _) _).alloc (by simp) _
  have hC' := Cells3.new (w.alloc (Obj.cells #[Value.int .i64 b, Value.slice an rows.length cn, Value.slice ao out.length co] 28)) 28 (.int .i64 b') (.slice an' rows'.length cn') (.slice ao' out'.length co')
  rw [size_alloc'] at hC'
  have HC := Lib.hid ((Cells3.new w 28 (.int .i64 b) (.slice an rows.length cn) (.slice ao out.length co)).alloc (Obj.cells #[Value.int .i64 b', Value.slice an' rows'.length cn', Value.slice ao' out'.length co'] 28))
  have HC' := Lib.hid hC'
  clear hC'
  have hk0 : sameT b b' rows rows' out out' = ((formK b rows out && formK b' rows' out') && sameB (formB b rows out) (formB b' rows' out') (minRV b rows out) (minRV b' rows' out') (minOV b rows out) (minOV b' rows' out')) := rfl
  have HCF := Lib.hid (impl_min _ b rows out _ (HS.out.below HB.out) HSZ.out)
  have HCG := Lib.hid (fun (W : World) (hW : Below w.heap.size w W) => impl_min _ b' rows' out' W (HS'.out.below hW) HSZ'.out)
  obtain ⟨B1, hB1⟩ : ∃ B, B = formB b rows out := ⟨_, rfl⟩
  obtain ⟨R1, hR1⟩ : ∃ R, R = minRV b rows out := ⟨_, rfl⟩
  obtain ⟨O1, hO1⟩ : ∃ O, O = minOV b rows out := ⟨_, rfl⟩
  obtain ⟨K1, hK1⟩ : ∃ O, O = formK b rows out := ⟨_, rfl⟩
  obtain ⟨B2, hB2⟩ : ∃ B, B = formB b' rows' out' := ⟨_, rfl⟩
  obtain ⟨R2, hR2⟩ : ∃ R, R = minRV b' rows' out' := ⟨_, rfl⟩
  obtain ⟨O2, hO2⟩ : ∃ O, O = minOV b' rows' out' := ⟨_, rfl⟩
  obtain ⟨K2, hK2⟩ : ∃ O, O = formK b' rows' out' := ⟨_, rfl⟩
  rw [← hB1, ← hR1, ← hO1, ← hK1] at HCF
  rw [← hB2, ← hR2, ← hO2, ← hK2] at HCG
  rw [hk0, ← hB1, ← hR1, ← hO1, ← hK1, ← hB2, ← hR2, ← hO2, ← hK2]
  clear hk0 hB1 hR1 hO1 hK1 hB2 hR2 hO2 hK2
  have k0 := HC.out.c0
  have k1 := HC.out.c1
  have k2 := HC.out.c2
  go_enter Try.func24, Try.ntmps24
  go_wp2_with fail
  refine HCF.out.mono ?_
  rintro e W1 ⟨v1, rfl, hv1, b1⟩
  obtain ⟨a1, c1, a2, c2, rfl⟩ := hv1.form
  have HB2 := Lib.hid (HB.out.trans (b1.mono HB.out.size))
  have HC2' := Lib.hid ((HC'.out.below b1).alloc (.cells #[.int .i64 B1, .slice a1 R1.length c1, .slice a2 O1.length c2] 28))
  have HX := Lib.hid (Cells3.new W1 28 (.int .i64 B1) (.slice a1 R1.length c1) (.slice a2 O1.length c2))
  have HB3 := Lib.hid (HB2.out.alloc HB2.out.size (.cells #[.int .i64 B1, .slice a1 R1.length c1, .slice a2 O1.length c2] 28))
  have HL := Lib.hid (hv1.lies.below ((Below.refl W1.heap.size W1).alloc (Nat.le_refl _) (.cells #[.int .i64 B1, .slice a1 R1.length c1, .slice a2 O1.length c2] 28)))
  have k3 := HC2'.out.c0
  have k4 := HC2'.out.c1
  have k5 := HC2'.out.c2
  clear b1 hv1 HC HC' HB HB2 HCF k0 k1 k2
  obtain ⟨W2, hW2⟩ : ∃ W, W = W1.alloc (.cells #[.int .i64 B1, .slice a1 R1.length c1, .slice a2 O1.length c2] 28) := ⟨_, rfl⟩
  go_wp2_with fail
  rw [← hW2] at HC2' HX HB3 HL k3 k4 k5 ⊢
  clear hW2
  refine (HCG.out _ HB3.out).mono ?_
  rintro e W3 ⟨v2, rfl, hv2, b2⟩
  obtain ⟨a3, c3, a4, c4, rfl⟩ := hv2.form
  have HB4 := Lib.hid (HB3.out.trans (b2.mono HB3.out.size))
  have HX2 := Lib.hid ((HX.out.below b2).alloc (.cells #[.int .i64 B2, .slice a3 R2.length c3, .slice a4 O2.length c4] 28))
  have HY := Lib.hid (Cells3.new W3 28 (.int .i64 B2) (.slice a3 R2.length c3) (.slice a4 O2.length c4))
  have HB5 := Lib.hid (HB4.out.alloc HB4.out.size (.cells #[.int .i64 B2, .slice a3 R2.length c3, .slice a4 O2.length c4] 28))
  have HL2 := Lib.hid ((HL.out.below b2).below ((Below.refl W3.heap.size W3).alloc (Nat.le_refl _) (.cells #[.int .i64 B2, .slice a3 R2.length c3, .slice a4 O2.length c4] 28)))
  have HM2 := Lib.hid (hv2.lies.below ((Below.refl W3.heap.size W3).alloc (Nat.le_refl _) (.cells #[.int .i64 B2, .slice a3 R2.length c3, .slice a4 O2.length c4] 28)))
  have k0 := HX2.out.c0
  have k1 := HX2.out.c1
  have k2 := HX2.out.c2
  have k6 := HY.out.c0
  have k7 := HY.out.c1
  have k8 := HY.out.c2
  clear b2 hv2 HC2' HX HB4 HCG k3 k4 k5 HL
  cases K1
  · go_wp2
    go_ret
    exact ⟨rfl, HB5.out⟩
  cases K2
  · go_wp2
    go_ret
    exact ⟨rfl, HB5.out⟩
  · go_wp2_with fail
    refine (impl_equal _ _ B1 B2 R1 R2 O1 O2 _ HL2.out HM2.out).mono ?_
    rintro e W5 ⟨rfl, b3⟩
    have HB6 := Lib.hid (HB5.out.trans (b3.mono HB5.out.size))
    clear b3
    go_wp2
    go_ret
    exact ⟨rfl, HB6.out⟩
set_option maxHeartbeats 1000000 in
theorem spec_sameterms (u v : Value) (b b' : Int) (rows rows' : List (List Int)) (out out' : List Int) (w : World) (h1 : LiesS w u b rows out) (h2 : LiesS w v b' rows' out') (hs : rows.length + tot rows + out.length ≤ 1048576) (hs' : rows'.length + tot rows' + out'.length ≤ 1048576) : Calls Try.prog 23 #[u, v] w fun e w' => e = .returned (.bool (sameT b b' rows rows' out out')) ∧ Below w.heap.size w w' := by
  have HSZ := Lib.hid hs
  have HSZ' := Lib.hid hs'
  clear hs hs'
  have HS := Lib.hid h1
  have HS' := Lib.hid h2
  obtain ⟨an, cn, ao, co, rfl⟩ := h1.form
  obtain ⟨an', cn', ao', co', rfl⟩ := h2.form
  clear h1 h2
  have HB : Hid (Below w.heap.size w ((w.alloc (Obj.cells #[Value.int .i64 b, Value.slice an rows.length cn, Value.slice ao out.length co] 28)).alloc (Obj.cells #[Value.int .i64 b', Value.slice an' rows'.length cn', Value.slice ao' out'.length co'] 28))) := ((Below.refl _ _).alloc (Nat.le_refl _) _).alloc (by simp) _
  have hC' := Cells3.new (w.alloc (Obj.cells #[Value.int .i64 b, Value.slice an rows.length cn, Value.slice ao out.length co] 28)) 28 (.int .i64 b') (.slice an' rows'.length cn') (.slice ao' out'.length co')
  rw [size_alloc'] at hC'
  have HC := Lib.hid ((Cells3.new w 28 (.int .i64 b) (.slice an rows.length cn) (.slice ao out.length co)).alloc (Obj.cells #[Value.int .i64 b', Value.slice an' rows'.length cn', Value.slice ao' out'.length co'] 28))
  have HC' := Lib.hid hC'
  clear hC'
  have hk0 : sameT b b' rows rows' out out' = ((formK b rows out && formK b' rows' out') && sameB (formB b rows out) (formB b' rows' out') (minRV b rows out) (minRV b' rows' out') (minOV b rows out) (minOV b' rows' out')) := rfl
  have HCF := Lib.hid (spec_min _ b rows out _ (HS.out.below HB.out) HSZ.out)
  have HCG := Lib.hid (fun (W : World) (hW : Below w.heap.size w W) => spec_min _ b' rows' out' W (HS'.out.below hW) HSZ'.out)
  obtain ⟨B1, hB1⟩ : ∃ B, B = formB b rows out := ⟨_, rfl⟩
  obtain ⟨R1, hR1⟩ : ∃ R, R = minRV b rows out := ⟨_, rfl⟩
  obtain ⟨O1, hO1⟩ : ∃ O, O = minOV b rows out := ⟨_, rfl⟩
  obtain ⟨K1, hK1⟩ : ∃ O, O = formK b rows out := ⟨_, rfl⟩
  obtain ⟨B2, hB2⟩ : ∃ B, B = formB b' rows' out' := ⟨_, rfl⟩
  obtain ⟨R2, hR2⟩ : ∃ R, R = minRV b' rows' out' := ⟨_, rfl⟩
  obtain ⟨O2, hO2⟩ : ∃ O, O = minOV b' rows' out' := ⟨_, rfl⟩
  obtain ⟨K2, hK2⟩ : ∃ O, O = formK b' rows' out' := ⟨_, rfl⟩
  rw [← hB1, ← hR1, ← hO1, ← hK1] at HCF
  rw [← hB2, ← hR2, ← hO2, ← hK2] at HCG
  rw [hk0, ← hB1, ← hR1, ← hO1, ← hK1, ← hB2, ← hR2, ← hO2, ← hK2]
  clear hk0 hB1 hR1 hO1 hK1 hB2 hR2 hO2 hK2
  have k0 := HC.out.c0
  have k1 := HC.out.c1
  have k2 := HC.out.c2
  go_enter Try.func23, Try.ntmps23
  go_wp2_with fail
  refine HCF.out.mono ?_
  rintro e W1 ⟨v1, rfl, hv1, b1⟩
  obtain ⟨a1, c1, a2, c2, rfl⟩ := hv1.form
  have HB2 := Lib.hid (HB.out.trans (b1.mono HB.out.size))
  have HC2' := Lib.hid ((HC'.out.below b1).alloc (.cells #[.int .i64 B1, .slice a1 R1.length c1, .slice a2 O1.length c2] 28))
  have HX := Lib.hid (Cells3.new W1 28 (.int .i64 B1) (.slice a1 R1.length c1) (.slice a2 O1.length c2))
  have HB3 := Lib.hid (HB2.out.alloc HB2.out.size (.cells #[.int .i64 B1, .slice a1 R1.length c1, .slice a2 O1.length c2] 28))
  have HL := Lib.hid (hv1.lies.below ((Below.refl W1.heap.size W1).alloc (Nat.le_refl _) (.cells #[.int .i64 B1, .slice a1 R1.length c1, .slice a2 O1.length c2] 28)))
  have k3 := HC2'.out.c0
  have k4 := HC2'.out.c1
  have k5 := HC2'.out.c2
  clear b1 hv1 HC HC' HB HB2 HCF k0 k1 k2
  obtain ⟨W2, hW2⟩ : ∃ W, W = W1.alloc (.cells #[.int .i64 B1, .slice a1 R1.length c1, .slice a2 O1.length c2] 28) := ⟨_, rfl⟩
  go_wp2_with fail
  rw [← hW2] at HC2' HX HB3 HL k3 k4 k5 ⊢
  clear hW2
  refine (HCG.out _ HB3.out).mono ?_
  rintro e W3 ⟨v2, rfl, hv2, b2⟩
  obtain ⟨a3, c3, a4, c4, rfl⟩ := hv2.form
  have HB4 := Lib.hid (HB3.out.trans (b2.mono HB3.out.size))
  have HX2 := Lib.hid ((HX.out.below b2).alloc (.cells #[.int .i64 B2, .slice a3 R2.length c3, .slice a4 O2.length c4] 28))
  have HY := Lib.hid (Cells3.new W3 28 (.int .i64 B2) (.slice a3 R2.length c3) (.slice a4 O2.length c4))
  have HB5 := Lib.hid (HB4.out.alloc HB4.out.size (.cells #[.int .i64 B2, .slice a3 R2.length c3, .slice a4 O2.length c4] 28))
  have HL2 := Lib.hid ((HL.out.below b2).below ((Below.refl W3.heap.size W3).alloc (Nat.le_refl _) (.cells #[.int .i64 B2, .slice a3 R2.length c3, .slice a4 O2.length c4] 28)))
  have HM2 := Lib.hid (hv2.lies.below ((Below.refl W3.heap.size W3).alloc (Nat.le_refl _) (.cells #[.int .i64 B2, .slice a3 R2.length c3, .slice a4 O2.length c4] 28)))
  have k0 := HX2.out.c0
  have k1 := HX2.out.c1
  have k2 := HX2.out.c2
  have k6 := HY.out.c0
  have k7 := HY.out.c1
  have k8 := HY.out.c2
  clear b2 hv2 HC2' HX HB4 HCG k3 k4 k5 HL
  cases K1
  · go_wp2
    go_ret
    exact ⟨rfl, HB5.out⟩
  cases K2
  · go_wp2
    go_ret
    exact ⟨rfl, HB5.out⟩
  · go_wp2_with fail
    refine (spec_equal _ _ B1 B2 R1 R2 O1 O2 _ HL2.out HM2.out).mono ?_
    rintro e W5 ⟨rfl, b3⟩
    have HB6 := Lib.hid (HB5.out.trans (b3.mono HB5.out.size))
    clear b3
    go_wp2
    go_ret
    exact ⟨rfl, HB6.out⟩
end Mins
end Go.Proofs.Ytdnfgbdfnndlnaa
