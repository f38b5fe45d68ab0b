/- The law FnExactKernelOf answers true for every argument: the program's KernelOf returns what the model's returns, writes into no argument and hands back memory of its own. Conditions: none beyond the row's own. -/
import Derived.Test.YtgbgcaaekpgapacKM8
import Derived.Test.YtgbgcaaekpgapacRows
import Derived.WalkKit
import Derived.ProofKit
import Derived.OpenShut
import Derived.ShutString
import Derived.ChangeOld
import Derived.Below
import Derived.PlainAid
import Derived.Lib.Hide
import Derived.Deep.RegionHeld3
import Derived.Deep.DeepCutAuto
import Derived.Outline
import Derived.Test.YtgbgcaaekpgapacKM1
namespace Go.Proofs.Ytgbgcaaekpgapac.fnExactKernelOf
open Go.ChangeShapes Go.WideShapes Go.ChangeAt Go.RowKit
open Go.ChangeMaps (open_string shut_string)
open Go.PlainAid Plain
set_option linter.unusedVariables false

theorem own : ownKnob Try.prog.godebug = none := by kernel_rfl
theorem laidOut : laidOutB Try.prog = true := by kernel_rfl
open Seqs
set_option maxRecDepth 100000 in
set_option maxHeartbeats 4000000 in
theorem walk (w : World) (v0 : Value) (b0 : Int) (rows0 : List (List Int)) (out0 : List Int) (l0 : LiesS w v0 b0 rows0 out0) :
    Calls Try.prog 3 #[v0] w fun e w' => e = .returned (.bool true) ∧ Below w.heap.size w w' := by
  obtain ⟨an0, cn0, ao0, co0, rfl⟩ := l0.form
  have ARG0 := Lib.hid l0
  clear l0
  by_cases hs0 : (rows0.length + tot rows0 + out0.length) ≤ 1048576
  case neg =>
    have hq := szV_no (left := 1048576) (n := rows0.length + tot rows0 + out0.length) (by omega)
    have HQN := Lib.hid hq
    clear hq
    have HB_0 : Hid (Below w.heap.size w w) := Below.refl _ _
    go_enter Try.func3, Try.ntmps3
    go_wp2_with fail
    have bx1 : Below w.heap.size w (w.alloc (Obj.cells #[.int .i64 b0, .slice an0 rows0.length cn0, .slice ao0 out0.length co0] 25)) := (Below.refl _ _).alloc (Nat.le_refl _) _
    have cx1 := Cells3.new w 25 (.int .i64 b0) (.slice an0 rows0.length cn0) (.slice ao0 out0.length co0)
    have hz1 : (w.alloc (Obj.cells #[.int .i64 b0, .slice an0 rows0.length cn0, .slice ao0 out0.length co0] 25)).heap.size = w.heap.size + 1 := size_alloc' _ _
    obtain ⟨W1, hW1⟩ : ∃ W, W = (w.alloc (Obj.cells #[.int .i64 b0, .slice an0 rows0.length cn0, .slice ao0 out0.length co0] 25)) := ⟨_, rfl⟩
    rw [← hW1] at bx1 cx1 hz1 ⊢
    have HB_1 := Lib.hid (HB_0.out.trans (bx1.mono HB_0.out.size))
    have Z1 := Lib.hid (bx1.size)
    have CA0_1 := Lib.hid cx1
    have Z2 := Lib.hid hz1
    clear HB_0 bx1 hW1 cx1
    clear hz1
    refine (sz _ b0 rows0 out0 1048576 _ (ARG0.out.below HB_1.out) (by omega) (by omega)).mono ?_
    rintro e W2 ⟨rfl, fb2⟩
    have HB_2 := Lib.hid (HB_1.out.trans (fb2.mono HB_1.out.size))
    have CA0_2 := Lib.hid (CA0_1.out.below fb2)
    have Z3 := Lib.hid (fb2.size)
    clear CA0_1 HB_1 fb2
    rw [HQN.out]
    go_wp2
    go_ret
    exact ⟨rfl, HB_2.out⟩
  obtain ⟨q0, hq0⟩ : ∃ q : Nat, szV 1048576 (rows0.length + tot rows0 + out0.length) = (q : Int) := ⟨(1048576 - ((rows0.length + tot rows0 + out0.length : Nat) : Int)).toNat, by rw [szV_yes (by omega)]; omega⟩
  have hql0 : (q0 : Int) = 1048576 - ((rows0.length + tot rows0 + out0.length : Nat) : Int) := by rw [szV_yes (by omega)] at hq0; omega
  have HQ0 := Lib.hid hq0
  have HQL0 : (q0 : Int) ≤ 1048576 := by omega
  have hqd0 := decide_eq_false (show ¬ (q0 : Int) < 0 by omega)
  clear hq0
  have hz0 : rows0.length + tot rows0 + out0.length ≤ 1048576 := by omega
  obtain ⟨T0, hT0⟩ : ∃ T, T = tot rows0 + out0.length := ⟨_, rfl⟩
  have HT0 := Lib.hid hT0
  have hTl0 : T0 ≤ 1048576 := by omega
  have hTd0 := decide_eq_false (show ¬ (1 : Int) + (T0 : Int) < 0 by omega)
  clear hT0
  clear hql0
  have CS := Lib.hid (fun (W : World) (u0 : Value) (l0 : LiesS W u0 b0 rows0 out0) => Kern.spec_kq u0 b0 rows0 out0 W l0 hz0)
  have CI := Lib.hid (fun (W : World) (u0 : Value) (l0 : LiesS W u0 b0 rows0 out0) => Kern.impl_kq u0 b0 rows0 out0 W l0 hz0)
  obtain ⟨yr, hyr⟩ : ∃ y, y = Kern.kerV b0 rows0 out0 := ⟨_, rfl⟩
  have hyl : Kern.totQ yr ≤ 4000 := by rw [hyr]; exact Kern.kerV_size _ _ _
  rw [← hyr] at CS CI
  clear hyr
  obtain ⟨yk, hyk⟩ : ∃ y, y = Kern.kerK b0 rows0 out0 := ⟨_, rfl⟩
  rw [← hyk] at CS CI
  clear hyk
  have hkk : (yk != yk) = false := by simp
  obtain ⟨Ty, hTy⟩ : ∃ T, T = Kern.totQ yr := ⟨_, rfl⟩
  have HTy := Lib.hid hTy
  have hTyl : Ty ≤ 4000 := by omega
  have hTyd := decide_eq_false (show ¬ (1 : Int) + (Ty : Int) < 0 by omega)
  clear hTy hyl
  have HB_0 : Hid (Below w.heap.size w w) := Below.refl _ _
  go_enter Try.func3, Try.ntmps3
  go_wp2_with fail
  have bx1 : Below w.heap.size w (w.alloc (Obj.cells #[.int .i64 b0, .slice an0 rows0.length cn0, .slice ao0 out0.length co0] 25)) := (Below.refl _ _).alloc (Nat.le_refl _) _
  have cx1 := Cells3.new w 25 (.int .i64 b0) (.slice an0 rows0.length cn0) (.slice ao0 out0.length co0)
  have hz1 : (w.alloc (Obj.cells #[.int .i64 b0, .slice an0 rows0.length cn0, .slice ao0 out0.length co0] 25)).heap.size = w.heap.size + 1 := size_alloc' _ _
  obtain ⟨W1, hW1⟩ : ∃ W, W = (w.alloc (Obj.cells #[.int .i64 b0, .slice an0 rows0.length cn0, .slice ao0 out0.length co0] 25)) := ⟨_, rfl⟩
  rw [← hW1] at bx1 cx1 hz1 ⊢
  have HB_1 := Lib.hid (HB_0.out.trans (bx1.mono HB_0.out.size))
  have Z1 := Lib.hid (bx1.size)
  have CA0_1 := Lib.hid cx1
  have Z2 := Lib.hid hz1
  clear HB_0 bx1 hW1 cx1
  clear hz1
  refine (sz _ b0 rows0 out0 1048576 _ (ARG0.out.below HB_1.out) (by omega) (by omega)).mono ?_
  rintro e W2 ⟨rfl, fb2⟩
  have HB_2 := Lib.hid (HB_1.out.trans (fb2.mono HB_1.out.size))
  have CA0_2 := Lib.hid (CA0_1.out.below fb2)
  have Z3 := Lib.hid (fb2.size)
  clear CA0_1 HB_1 fb2
  rw [HQ0.out]
  have kA00 := CA0_2.out.c0
  have kA01 := CA0_2.out.c1
  have kA02 := CA0_2.out.c2
  go_wp2_with fail
  clear kA00 kA01 kA02
  refine (toS _ b0 rows0 out0 _ (ARG0.out.below HB_2.out) hz0).mono ?_
  rintro e W3 ⟨vp0, rfl, h3, fb3⟩
  have HB_3 := Lib.hid (HB_2.out.trans (fb3.mono HB_2.out.size))
  have CA0_3 := Lib.hid (CA0_2.out.below fb3)
  have Z4 := Lib.hid (fb3.size)
  have Rp0_3 := Lib.hid h3
  clear CA0_2 HB_2 fb3 h3
  have kA00 := CA0_3.out.c0
  have kA01 := CA0_3.out.c1
  have kA02 := CA0_3.out.c2
  go_wp2_with fail
  clear kA00 kA01 kA02
  refine (CS.out _ _ Rp0_3.out.lies).mono ?_
  rintro e W4 ⟨vp, rfl, h4, fb4⟩
  have HB_4 := Lib.hid (HB_3.out.trans (fb4.mono HB_3.out.size))
  have CA0_4 := Lib.hid (CA0_3.out.below fb4)
  have Rp0_4 := Lib.hid (Rp0_3.out.below fb4)
  have Z5 := Lib.hid (fb4.size)
  have Rp_4 := Lib.hid h4
  clear CA0_3 Rp0_3 HB_3 fb4 h4
  clear Rp0_4
  have kA00 := CA0_4.out.c0
  have kA01 := CA0_4.out.c1
  have kA02 := CA0_4.out.c2
  go_wp2_with fail
  clear kA00 kA01 kA02
  refine (toS _ b0 rows0 out0 _ (ARG0.out.below HB_4.out) hz0).mono ?_
  rintro e W5 ⟨vx0, rfl, h5, fb5⟩
  have HB_5 := Lib.hid (HB_4.out.trans (fb5.mono HB_4.out.size))
  have CA0_5 := Lib.hid (CA0_4.out.below fb5)
  have Rp_5 := Lib.hid (Rp_4.out.below fb5)
  have Z6 := Lib.hid (fb5.size)
  have Rx0_5 := Lib.hid h5
  clear CA0_4 Rp_4 HB_4 fb5 h5
  obtain ⟨anx0, cnx0, aox0, cox0, rfl⟩ := Rx0_5.out.form
  have kA00 := (CA0_5.out.alloc (Obj.cells #[.int .i64 b0, .slice anx0 rows0.length cnx0, .slice aox0 out0.length cox0] 30)).c0
  have kA01 := (CA0_5.out.alloc (Obj.cells #[.int .i64 b0, .slice anx0 rows0.length cnx0, .slice aox0 out0.length cox0] 30)).c1
  have kA02 := (CA0_5.out.alloc (Obj.cells #[.int .i64 b0, .slice anx0 rows0.length cnx0, .slice aox0 out0.length cox0] 30)).c2
  go_wp2_with fail
  clear kA00 kA01 kA02
  have bx6 : Below W5.heap.size W5 (W5.alloc (Obj.cells #[.int .i64 b0, .slice anx0 rows0.length cnx0, .slice aox0 out0.length cox0] 30)) := (Below.refl _ _).alloc (Nat.le_refl _) _
  have cx6 := Cells3.new W5 30 (.int .i64 b0) (.slice anx0 rows0.length cnx0) (.slice aox0 out0.length cox0)
  have hz6 : (W5.alloc (Obj.cells #[.int .i64 b0, .slice anx0 rows0.length cnx0, .slice aox0 out0.length cox0] 30)).heap.size = W5.heap.size + 1 := size_alloc' _ _
  obtain ⟨W6, hW6⟩ : ∃ W, W = (W5.alloc (Obj.cells #[.int .i64 b0, .slice anx0 rows0.length cnx0, .slice aox0 out0.length cox0] 30)) := ⟨_, rfl⟩
  rw [← hW6] at bx6 cx6 hz6 ⊢
  have HB_6 := Lib.hid (HB_5.out.trans (bx6.mono HB_5.out.size))
  have CA0_6 := Lib.hid (CA0_5.out.below bx6)
  have Rp_6 := Lib.hid (Rp_5.out.below bx6)
  have Rx0_6 := Lib.hid (Rx0_5.out.below bx6)
  have Z7 := Lib.hid (bx6.size)
  have CX0_6 := Lib.hid cx6
  have Z8 := Lib.hid hz6
  clear CA0_5 Rp_5 Rx0_5 HB_5 bx6 hW6 cx6
  clear hz6
  refine (CI.out _ _ Rx0_6.out.lies).mono ?_
  rintro e W7 ⟨vg, rfl, h7, fb7⟩
  have HB_7 := Lib.hid (HB_6.out.trans (fb7.mono HB_6.out.size))
  have CA0_7 := Lib.hid (CA0_6.out.below fb7)
  have CX0_7 := Lib.hid (CX0_6.out.below fb7)
  have Rp_7 := Lib.hid (Rp_6.out.below fb7)
  have Rx0_7 := Lib.hid (Rx0_6.out.below fb7)
  have Z9 := Lib.hid (fb7.size)
  have Rg_7 := Lib.hid h7
  clear CA0_6 CX0_6 Rp_6 Rx0_6 HB_6 fb7 h7
  have kA00 := CA0_7.out.c0
  have kA01 := CA0_7.out.c1
  have kA02 := CA0_7.out.c2
  have kX00 := CX0_7.out.c0
  have kX01 := CX0_7.out.c1
  have kX02 := CX0_7.out.c2
  go_wp2_with fail
  clear kA00 kA01 kA02 kX00 kX01 kX02
  refine (Kern.eqQS _ _ yr _ Rg_7.out.lies Rp_7.out.lies).mono ?_
  rintro e W8 ⟨rfl, fb8⟩
  have HB_8 := Lib.hid (HB_7.out.trans (fb8.mono HB_7.out.size))
  have CA0_8 := Lib.hid (CA0_7.out.below fb8)
  have CX0_8 := Lib.hid (CX0_7.out.below fb8)
  have Rp_8 := Lib.hid (Rp_7.out.below fb8)
  have Rx0_8 := Lib.hid (Rx0_7.out.below fb8)
  have Rg_8 := Lib.hid (Rg_7.out.below fb8)
  have Z10 := Lib.hid (fb8.size)
  clear CA0_7 CX0_7 Rp_7 Rx0_7 Rg_7 HB_7 fb8
  have kA00 := CA0_8.out.c0
  have kA01 := CA0_8.out.c1
  have kA02 := CA0_8.out.c2
  have kX00 := CX0_8.out.c0
  have kX01 := CX0_8.out.c1
  have kX02 := CX0_8.out.c2
  go_wp2_with fail
  clear kA00 kA01 kA02 kX00 kX01 kX02
  have bd9 := below_drew' W8
  obtain ⟨W9, hW9⟩ : ∃ W, W = W8.drew := ⟨_, rfl⟩
  rw [← hW9] at bd9
  have HB_9 := Lib.hid (HB_8.out.trans (bd9.mono HB_8.out.size))
  have CA0_9 := Lib.hid (CA0_8.out.below bd9)
  have CX0_9 := Lib.hid (CX0_8.out.below bd9)
  have Rp_9 := Lib.hid (Rp_8.out.below bd9)
  have Rx0_9 := Lib.hid (Rx0_8.out.below bd9)
  have Rg_9 := Lib.hid (Rg_8.out.below bd9)
  have Z11 := Lib.hid (bd9.size)
  clear CA0_8 CX0_8 Rp_8 Rx0_8 Rg_8 HB_8 bd9
  go_region_held3 (fun w' => w'.cell? ⟨W5.heap.size, 0, none⟩ = some (.int .i64 b0) ∧ w'.cell? ⟨W5.heap.size, 1, none⟩ = some (.slice anx0 rows0.length cnx0) ∧ w'.cell? ⟨W5.heap.size, 2, none⟩ = some (.slice aox0 out0.length cox0) ∧ w'.cell? ⟨w.heap.size, 0, none⟩ = some (.int .i64 b0) ∧ w'.cell? ⟨w.heap.size, 1, none⟩ = some (.slice an0 rows0.length cn0) ∧ w'.cell? ⟨w.heap.size, 2, none⟩ = some (.slice ao0 out0.length co0))
    (first | (rw [← hW9]; exact ⟨CX0_9.out.c0, CX0_9.out.c1, CX0_9.out.c2, CA0_9.out.c0, CA0_9.out.c1, CA0_9.out.c2⟩) | exact ⟨(CX0_9.out.below bt).c0, (CX0_9.out.below bt).c1, (CX0_9.out.below bt).c2, (CA0_9.out.below bt).c0, (CA0_9.out.below bt).c1, (CA0_9.out.below bt).c2⟩ | exact ⟨((CX0_9.out.below bt).below bu).c0, ((CX0_9.out.below bt).below bu).c1, ((CX0_9.out.below bt).below bu).c2, ((CA0_9.out.below bt).below bu).c0, ((CA0_9.out.below bt).below bu).c1, ((CA0_9.out.below bt).below bu).c2⟩)
    (first | (go_at_call 7; rw [← hW9]; refine (toS _ b0 rows0 out0 _ (ARG0.out.below HB_9.out) hz0).mono ?_; rintro e W10 ⟨vt, rfl, ht, bt⟩) | (go_at_call 10; refine (eqS _ _ b0 rows0 out0 _ (Rx0_9.out.below bt).lies ht.lies).mono ?_; rintro e W11 ⟨rfl, bu⟩))
  have HB_10 := Lib.hid (HB_9.out.trans (bt.mono HB_9.out.size))
  have CA0_10 := Lib.hid (CA0_9.out.below bt)
  have CX0_10 := Lib.hid (CX0_9.out.below bt)
  have Rp_10 := Lib.hid (Rp_9.out.below bt)
  have Rx0_10 := Lib.hid (Rx0_9.out.below bt)
  have Rg_10 := Lib.hid (Rg_9.out.below bt)
  have Z12 := Lib.hid (bt.size)
  have HB_11 := Lib.hid (HB_10.out.trans (bu.mono HB_10.out.size))
  have CA0_11 := Lib.hid (CA0_10.out.below bu)
  have CX0_11 := Lib.hid (CX0_10.out.below bu)
  have Rp_11 := Lib.hid (Rp_10.out.below bu)
  have Rx0_11 := Lib.hid (Rx0_10.out.below bu)
  have Rg_11 := Lib.hid (Rg_10.out.below bu)
  have Z13 := Lib.hid (bu.size)
  clear CA0_9 CX0_9 Rp_9 Rx0_9 Rg_9 HB_9 CA0_10 CX0_10 Rp_10 Rx0_10 Rg_10 HB_10 bt bu ht hW9
  have kA00 := CA0_11.out.c0
  have kA01 := CA0_11.out.c1
  have kA02 := CA0_11.out.c2
  have kX00 := CX0_11.out.c0
  have kX01 := CX0_11.out.c1
  have kX02 := CX0_11.out.c2
  go_wp2_with fail
  clear kA00 kA01 kA02 kX00 kX01 kX02
  refine (markS' _ b0 rows0 out0 T0 _ _ _ HT0.out Rx0_11.out (by omega)).mono ?_
  rintro e W12 ⟨rfl, h12, t12⟩
  have HB_12 := Lib.hid (t12.below HB_11.out (by have := Z1.out; have := Z2.out; have := Z3.out; have := Z4.out; have := Z5.out; have := Z6.out; have := Z7.out; have := Z8.out; have := Z9.out; have := Z10.out; have := Z11.out; have := Z12.out; have := Z13.out; omega))
  have CA0_12 := Lib.hid (CA0_11.out.touch t12 (by have := Z1.out; have := Z2.out; have := Z3.out; have := Z4.out; have := Z5.out; have := Z6.out; have := Z7.out; have := Z8.out; have := Z9.out; have := Z10.out; have := Z11.out; have := Z12.out; have := Z13.out; omega))
  have CX0_12 := Lib.hid (CX0_11.out.touch t12 (by have := Z1.out; have := Z2.out; have := Z3.out; have := Z4.out; have := Z5.out; have := Z6.out; have := Z7.out; have := Z8.out; have := Z9.out; have := Z10.out; have := Z11.out; have := Z12.out; have := Z13.out; omega))
  have Rp_12 := Lib.hid (Rp_11.out.touch t12 (by have := Z1.out; have := Z2.out; have := Z3.out; have := Z4.out; have := Z5.out; have := Z6.out; have := Z7.out; have := Z8.out; have := Z9.out; have := Z10.out; have := Z11.out; have := Z12.out; have := Z13.out; omega))
  have Rg_12 := Lib.hid (Rg_11.out.touch t12 (by have := Z1.out; have := Z2.out; have := Z3.out; have := Z4.out; have := Z5.out; have := Z6.out; have := Z7.out; have := Z8.out; have := Z9.out; have := Z10.out; have := Z11.out; have := Z12.out; have := Z13.out; omega))
  have Z14 := Lib.hid (t12.size)
  have Rx0_12 := Lib.hid h12
  clear CA0_11 CX0_11 Rp_11 Rx0_11 Rg_11 HB_11 t12 h12
  clear Rx0_12 CX0_12
  have kA00 := CA0_12.out.c0
  have kA01 := CA0_12.out.c1
  have kA02 := CA0_12.out.c2
  go_wp2_with fail
  clear kA00 kA01 kA02
  refine (Kern.eqQS _ _ yr _ Rg_12.out.lies Rp_12.out.lies).mono ?_
  rintro e W13 ⟨rfl, fb13⟩
  have HB_13 := Lib.hid (HB_12.out.trans (fb13.mono HB_12.out.size))
  have CA0_13 := Lib.hid (CA0_12.out.below fb13)
  have Rp_13 := Lib.hid (Rp_12.out.below fb13)
  have Rg_13 := Lib.hid (Rg_12.out.below fb13)
  have Z15 := Lib.hid (fb13.size)
  clear CA0_12 Rp_12 Rg_12 HB_12 fb13
  have kA00 := CA0_13.out.c0
  have kA01 := CA0_13.out.c1
  have kA02 := CA0_13.out.c2
  go_wp2_with fail
  clear kA00 kA01 kA02
  refine (Kern.markQ _ yr Ty _ _ _ HTy.out Rg_13.out (by omega)).mono ?_
  rintro e W14 ⟨rfl, h14, t14⟩
  have HB_14 := Lib.hid (t14.below HB_13.out (by have := Z1.out; have := Z2.out; have := Z3.out; have := Z4.out; have := Z5.out; have := Z6.out; have := Z7.out; have := Z8.out; have := Z9.out; have := Z10.out; have := Z11.out; have := Z12.out; have := Z13.out; have := Z14.out; have := Z15.out; omega))
  have CA0_14 := Lib.hid (CA0_13.out.touch t14 (by have := Z1.out; have := Z2.out; have := Z3.out; have := Z4.out; have := Z5.out; have := Z6.out; have := Z7.out; have := Z8.out; have := Z9.out; have := Z10.out; have := Z11.out; have := Z12.out; have := Z13.out; have := Z14.out; have := Z15.out; omega))
  have Rp_14 := Lib.hid (Rp_13.out.touch t14 (by have := Z1.out; have := Z2.out; have := Z3.out; have := Z4.out; have := Z5.out; have := Z6.out; have := Z7.out; have := Z8.out; have := Z9.out; have := Z10.out; have := Z11.out; have := Z12.out; have := Z13.out; have := Z14.out; have := Z15.out; omega))
  have Z16 := Lib.hid (t14.size)
  have Rg_14 := Lib.hid h14
  clear CA0_13 Rp_13 Rg_13 HB_13 t14 h14
  have kA00 := CA0_14.out.c0
  have kA01 := CA0_14.out.c1
  have kA02 := CA0_14.out.c2
  go_wp2_with fail
  clear kA00 kA01 kA02
  refine (Kern.heldQ _ yr Ty _ HTy.out Rg_14.out.lies (by omega)).mono ?_
  rintro e W' ⟨rfl, rfl⟩
  have kA00 := CA0_14.out.c0
  have kA01 := CA0_14.out.c1
  have kA02 := CA0_14.out.c2
  go_wp2_with fail
  clear kA00 kA01 kA02
  refine (toS _ b0 rows0 out0 _ (ARG0.out.below HB_14.out) hz0).mono ?_
  rintro e W15 ⟨vh0, rfl, h15, fb15⟩
  have HB_15 := Lib.hid (HB_14.out.trans (fb15.mono HB_14.out.size))
  have CA0_15 := Lib.hid (CA0_14.out.below fb15)
  have Rp_15 := Lib.hid (Rp_14.out.below fb15)
  have Rg_15 := Lib.hid (Rg_14.out.below fb15)
  have Z17 := Lib.hid (fb15.size)
  have Rh0_15 := Lib.hid h15
  clear CA0_14 Rp_14 Rg_14 HB_14 fb15 h15
  clear CA0_15
  go_wp2_with fail
  refine (CI.out _ _ Rh0_15.out.lies).mono ?_
  rintro e W16 ⟨vh, rfl, h16, fb16⟩
  have HB_16 := Lib.hid (HB_15.out.trans (fb16.mono HB_15.out.size))
  have Rp_16 := Lib.hid (Rp_15.out.below fb16)
  have Rg_16 := Lib.hid (Rg_15.out.below fb16)
  have Rh0_16 := Lib.hid (Rh0_15.out.below fb16)
  have Z18 := Lib.hid (fb16.size)
  have Rh_16 := Lib.hid h16
  clear Rp_15 Rg_15 Rh0_15 HB_15 fb16 h16
  clear Rh0_16
  go_wp2_with fail
  refine (Kern.eqQS _ _ yr _ Rh_16.out.lies Rp_16.out.lies).mono ?_
  rintro e W17 ⟨rfl, fb17⟩
  have HB_17 := Lib.hid (HB_16.out.trans (fb17.mono HB_16.out.size))
  have Rp_17 := Lib.hid (Rp_16.out.below fb17)
  have Rg_17 := Lib.hid (Rg_16.out.below fb17)
  have Rh_17 := Lib.hid (Rh_16.out.below fb17)
  have Z19 := Lib.hid (fb17.size)
  clear Rp_16 Rg_16 Rh_16 HB_16 fb17
  clear Rp_17 Rh_17
  go_wp2_with fail
  refine (Kern.heldQ _ yr Ty _ HTy.out Rg_17.out.lies (by omega)).mono ?_
  rintro e W' ⟨rfl, rfl⟩
  clear Rg_17
  go_wp2
  go_ret
  exact ⟨rfl, HB_17.out⟩


set_option maxRecDepth 100000 in
theorem lifted (os : Os) (started : os.Started) (H : Type) (enc : TypeId × Value → H) :
    ReturnsInHanded {} Try.checked os 3 .any (Rows.fnExactKernelOfSpec.pre6 enc Try.prog Try.f3 Rows.fnExactKernelOfRow.domain false) (Rows.fnExactKernelOfSpec.post enc Try.prog Try.f3 false true false false) := by
  refine returnsInHanded_of_change (C := Try.checked) own started (by kernel_rfl) Try.func3
    (ChangeSpec.witness6 (enc := enc) (C := Try.checked) false ⟨#[], #[.agg #[.int .i64 0, .slice none 0 0, .slice none 0 0]], []⟩ 8 (by kernel_rfl) (by kernel_rfl) (by kernel_rfl) (by kernel_rfl)) ?_
  intro W base args ds gs before hval0 hW hcnd _
  have hval : ∀ (j : Nat) t v, Try.f3.params[j]? = some t → args[j]? = some v → Value.okWide Try.prog W .any base t v := hval0
  have hW' := hW
  obtain ⟨p, q, hA0, hV, rfl, hfz, hnd⟩ := hW
  have hA : DataW.TrodAll enc Try.prog W 0 (fun _ => true) true Try.f3.params.toList args.toList ds p := hA0
  rw [Try.params3] at hA hval
  obtain ⟨v0, vs0, d0, ds0, p0, q0, hargs, rfl, rfl, h0, r0⟩ := trodAll_cons hA
  obtain ⟨rfl, rfl, rfl⟩ := trodAll_nil r0
  obtain rfl : args = #[v0] := by cases args; simp_all
  obtain ⟨rfl, rfl⟩ := trodVars_none hV
  have k0 := h0
  have lt0 : ∀ x ∈ p0, x.block < W.heap.size := by obtain ⟨m, hm⟩ := k0; exact DataW.trod_lt m _ _ _ hm
  obtain ⟨b0, rows0, out0, l0⟩ := Seqs.open_seq (hval 0 25 v0 rfl rfl) h0
  clear hA0 hval0
  refine (walk W v0 b0 rows0 out0 l0).mono fun e W' ⟨he, hg⟩ => ?_
  subst he
  exact ⟨_, rfl, _, _, _, [], _, [], hW', trodAll_mk1 (shut_bool Try.underlying4 _), (trodAll_cons_mk (Below.trod laidOut (by kernel_rfl) (of_decide_eq_true (by kernel_rfl)) k0 hg lt0) trodAll_mk0), rfl, hg.frame _, fun h => by cases h⟩

theorem over : Rows.fnExactKernelOfRow.holds Try.pinned (OpenSpec.ofChange Rows.fnExactKernelOfSpec) :=
  OpenClaim.holds_of_wide 3 Try.f3 rfl rfl rfl rfl rfl rfl rfl ⟨rfl, rfl, rfl, rfl, rfl⟩ rfl rfl rfl rfl rfl (by kernel_rfl) Try.func3 (by kernel_rfl)
    (of_decide_eq_true (by kernel_rfl)) (by unfold Func.isWrapper; first | (rw [if_pos (by decide +kernel)]; kernel_rfl) | (rw [if_neg (by decide +kernel)]; exact ⟨rfl, rfl⟩))
    (fun os started H enc _ => lifted os started H enc)
/-- The statement. -/
theorem proved : Rows.FnExactKernelOfSaid := over
#print axioms proved
end Go.Proofs.Ytgbgcaaekpgapac.fnExactKernelOf
