/- The law FnExactFromLeast answers true for every argument: the program's FromLeast returns what the model's returns, writes into no argument and hands back memory of its own. Conditions: none beyond the row's own. -/
import Derived.Test.YtgbgcaaekpgapacFM8
import Derived.Test.YtgbgcaaekpgapacRows
import Derived.WalkKit
import Derived.ProofKit
import Derived.OpenShut
import Derived.ShutString
import Derived.ChangeOld
import Derived.Below
import Derived.PlainAid
import Derived.Lib.Hide
import Derived.Deep.RegionHeld3
import Derived.Deep.DeepCutAuto
import Derived.Outline
import Derived.Test.YtgbgcaaekpgapacFM1
namespace Go.Proofs.Ytgbgcaaekpgapac.fnExactFromLeast
open Go.ChangeShapes Go.WideShapes Go.ChangeAt Go.RowKit
open Go.ChangeMaps (open_string shut_string)
open Go.PlainAid Plain
set_option linter.unusedVariables false

theorem own : ownKnob Try.prog.godebug = none := by kernel_rfl
theorem laidOut : laidOutB Try.prog = true := by kernel_rfl
open Seqs
set_option maxRecDepth 100000 in
set_option maxHeartbeats 4000000 in
theorem walk (w : World) (v0 : Value) (b0 : Int) (rows0 : List (List Int)) (out0 : List Int) (l0 : LiesS w v0 b0 rows0 out0) :
    Calls Try.prog 4 #[v0] w fun e w' => e = .returned (.bool true) ∧ Below w.heap.size w w' := by
  obtain ⟨an0, cn0, ao0, co0, rfl⟩ := l0.form
  have ARG0 := Lib.hid l0
  clear l0
  by_cases hs0 : (rows0.length + tot rows0 + out0.length) ≤ 1048576
  case neg =>
    have hq := szV_no (left := 1048576) (n := rows0.length + tot rows0 + out0.length) (by omega)
    have HQN := Lib.hid hq
    clear hq
    have HB_0 : Hid (Below w.heap.size w w) := Below.refl _ _
    go_enter Try.func4, Try.ntmps4
    go_wp2_with fail
    have bx1 : Below w.heap.size w (w.alloc (Obj.cells #[.int .i64 b0, .slice an0 rows0.length cn0, .slice ao0 out0.length co0] 25)) := (Below.refl _ _).alloc (Nat.le_refl _) _
    have cx1 := Cells3.new w 25 (.int .i64 b0) (.slice an0 rows0.length cn0) (.slice ao0 out0.length co0)
    have hz1 : (w.alloc (Obj.cells #[.int .i64 b0, .slice an0 rows0.length cn0, .slice ao0 out0.length co0] 25)).heap.size = w.heap.size + 1 := size_alloc' _ _
    obtain ⟨W1, hW1⟩ : ∃ W, W = (w.alloc (Obj.cells #[.int .i64 b0, .slice an0 rows0.length cn0, .slice ao0 out0.length co0] 25)) := ⟨_, rfl⟩
    rw [← hW1] at bx1 cx1 hz1 ⊢
    have HB_1 := Lib.hid (HB_0.out.trans (bx1.mono HB_0.out.size))
    have Z1 := Lib.hid (bx1.size)
    have CA0_1 := Lib.hid cx1
    have Z2 := Lib.hid hz1
    clear HB_0 bx1 hW1 cx1
    clear hz1
    refine (sz _ b0 rows0 out0 1048576 _ (ARG0.out.below HB_1.out) (by omega) (by omega)).mono ?_
    rintro e W2 ⟨rfl, fb2⟩
    have HB_2 := Lib.hid (HB_1.out.trans (fb2.mono HB_1.out.size))
    have CA0_2 := Lib.hid (CA0_1.out.below fb2)
    have Z3 := Lib.hid (fb2.size)
    clear CA0_1 HB_1 fb2
    rw [HQN.out]
    go_wp2
    go_ret
    exact ⟨rfl, HB_2.out⟩
  obtain ⟨q0, hq0⟩ : ∃ q : Nat, szV 1048576 (rows0.length + tot rows0 + out0.length) = (q : Int) := ⟨(1048576 - ((rows0.length + tot rows0 + out0.length : Nat) : Int)).toNat, by rw [szV_yes (by omega)]; omega⟩
  have hql0 : (q0 : Int) = 1048576 - ((rows0.length + tot rows0 + out0.length : Nat) : Int) := by rw [szV_yes (by omega)] at hq0; omega
  have HQ0 := Lib.hid hq0
  have HQL0 : (q0 : Int) ≤ 1048576 := by omega
  have hqd0 := decide_eq_false (show ¬ (q0 : Int) < 0 by omega)
  clear hq0
  have hz0 : rows0.length + tot rows0 + out0.length ≤ 1048576 := by omega
  obtain ⟨T0, hT0⟩ : ∃ T, T = tot rows0 + out0.length := ⟨_, rfl⟩
  have HT0 := Lib.hid hT0
  have hTl0 : T0 ≤ 1048576 := by omega
  have hTd0 := decide_eq_false (show ¬ (1 : Int) + (T0 : Int) < 0 by omega)
  clear hT0
  clear hql0
  have CS := Lib.hid (fun (W : World) (u0 : Value) (l0 : LiesS W u0 b0 rows0 out0) => Kern.spec_fl u0 b0 rows0 out0 W l0 hz0)
  have CI := Lib.hid (fun (W : World) (u0 : Value) (l0 : LiesS W u0 b0 rows0 out0) => Kern.impl_fl u0 b0 rows0 out0 W l0 hz0)
  obtain ⟨yb, hyb⟩ : ∃ y, y = Kern.flB b0 rows0 out0 := ⟨_, rfl⟩
  obtain ⟨yr, hyr⟩ : ∃ y, y = Kern.flR b0 rows0 out0 := ⟨_, rfl⟩
  obtain ⟨yo, hyo⟩ : ∃ y, y = Kern.flO b0 rows0 out0 := ⟨_, rfl⟩
  obtain ⟨yk, hyk⟩ : ∃ y, y = Kern.flK b0 rows0 out0 := ⟨_, rfl⟩
  have hyl : tot yr + yo.length ≤ 1000 := by rw [hyr, hyo]; exact Kern.fl_size _ _ _
  rw [← hyb, ← hyr, ← hyo, ← hyk] at CS CI
  clear hyb hyr hyo hyk
  obtain ⟨Ty, hTy⟩ : ∃ T, T = tot yr + yo.length := ⟨_, rfl⟩
  have HTy := Lib.hid hTy
  have hTyl : Ty ≤ 1000 := by omega
  have hTyd := decide_eq_false (show ¬ (1 : Int) + (Ty : Int) < 0 by omega)
  have hkk : (yk != yk) = false := by simp
  clear hTy hyl
  have HB_0 : Hid (Below w.heap.size w w) := Below.refl _ _
  go_enter Try.func4, Try.ntmps4
  go_wp2_with fail
  have bx1 : Below w.heap.size w (w.alloc (Obj.cells #[.int .i64 b0, .slice an0 rows0.length cn0, .slice ao0 out0.length co0] 25)) := (Below.refl _ _).alloc (Nat.le_refl _) _
  have cx1 := Cells3.new w 25 (.int .i64 b0) (.slice an0 rows0.length cn0) (.slice ao0 out0.length co0)
  have hz1 : (w.alloc (Obj.cells #[.int .i64 b0, .slice an0 rows0.length cn0, .slice ao0 out0.length co0] 25)).heap.size = w.heap.size + 1 := size_alloc' _ _
  obtain ⟨W1, hW1⟩ : ∃ W, W = (w.alloc (Obj.cells #[.int .i64 b0, .slice an0 rows0.length cn0, .slice ao0 out0.length co0] 25)) := ⟨_, rfl⟩
  rw [← hW1] at bx1 cx1 hz1 ⊢
  have HB_1 := Lib.hid (HB_0.out.trans (bx1.mono HB_0.out.size))
  have Z1 := Lib.hid (bx1.size)
  have CA0_1 := Lib.hid cx1
  have Z2 := Lib.hid hz1
  clear HB_0 bx1 hW1 cx1
  clear hz1
  refine (sz _ b0 rows0 out0 1048576 _ (ARG0.out.below HB_1.out) (by omega) (by omega)).mono ?_
  rintro e W2 ⟨rfl, fb2⟩
  have HB_2 := Lib.hid (HB_1.out.trans (fb2.mono HB_1.out.size))
  have CA0_2 := Lib.hid (CA0_1.out.below fb2)
  have Z3 := Lib.hid (fb2.size)
  clear CA0_1 HB_1 fb2
  rw [HQ0.out]
  have kA00 := CA0_2.out.c0
  have kA01 := CA0_2.out.c1
  have kA02 := CA0_2.out.c2
  go_wp2_with fail
  clear kA00 kA01 kA02
  refine (toS _ b0 rows0 out0 _ (ARG0.out.below HB_2.out) hz0).mono ?_
  rintro e W3 ⟨vp0, rfl, h3, fb3⟩
  have HB_3 := Lib.hid (HB_2.out.trans (fb3.mono HB_2.out.size))
  have CA0_3 := Lib.hid (CA0_2.out.below fb3)
  have Z4 := Lib.hid (fb3.size)
  have Rp0_3 := Lib.hid h3
  clear CA0_2 HB_2 fb3 h3
  have kA00 := CA0_3.out.c0
  have kA01 := CA0_3.out.c1
  have kA02 := CA0_3.out.c2
  go_wp2_with fail
  clear kA00 kA01 kA02
  refine (CS.out _ _ Rp0_3.out.lies).mono ?_
  rintro e W4 ⟨vp, rfl, h4, fb4⟩
  have HB_4 := Lib.hid (HB_3.out.trans (fb4.mono HB_3.out.size))
  have CA0_4 := Lib.hid (CA0_3.out.below fb4)
  have Rp0_4 := Lib.hid (Rp0_3.out.below fb4)
  have Z5 := Lib.hid (fb4.size)
  have Rp_4 := Lib.hid h4
  clear CA0_3 Rp0_3 HB_3 fb4 h4
  clear Rp0_4
  obtain ⟨anp, cnp, aop, cop, rfl⟩ := Rp_4.out.form
  have kA00 := (CA0_4.out.alloc (Obj.cells #[.int .i64 yb, .slice anp yr.length cnp, .slice aop yo.length cop] 30)).c0
  have kA01 := (CA0_4.out.alloc (Obj.cells #[.int .i64 yb, .slice anp yr.length cnp, .slice aop yo.length cop] 30)).c1
  have kA02 := (CA0_4.out.alloc (Obj.cells #[.int .i64 yb, .slice anp yr.length cnp, .slice aop yo.length cop] 30)).c2
  go_wp2_with fail
  clear kA00 kA01 kA02
  have bx5 : Below W4.heap.size W4 (W4.alloc (Obj.cells #[.int .i64 yb, .slice anp yr.length cnp, .slice aop yo.length cop] 30)) := (Below.refl _ _).alloc (Nat.le_refl _) _
  have cx5 := Cells3.new W4 30 (.int .i64 yb) (.slice anp yr.length cnp) (.slice aop yo.length cop)
  have hz5 : (W4.alloc (Obj.cells #[.int .i64 yb, .slice anp yr.length cnp, .slice aop yo.length cop] 30)).heap.size = W4.heap.size + 1 := size_alloc' _ _
  obtain ⟨W5, hW5⟩ : ∃ W, W = (W4.alloc (Obj.cells #[.int .i64 yb, .slice anp yr.length cnp, .slice aop yo.length cop] 30)) := ⟨_, rfl⟩
  rw [← hW5] at bx5 cx5 hz5 ⊢
  have HB_5 := Lib.hid (HB_4.out.trans (bx5.mono HB_4.out.size))
  have CA0_5 := Lib.hid (CA0_4.out.below bx5)
  have Rp_5 := Lib.hid (Rp_4.out.below bx5)
  have Z6 := Lib.hid (bx5.size)
  have CP_5 := Lib.hid cx5
  have Z7 := Lib.hid hz5
  clear CA0_4 Rp_4 HB_4 bx5 hW5 cx5
  clear hz5
  refine (toS _ b0 rows0 out0 _ (ARG0.out.below HB_5.out) hz0).mono ?_
  rintro e W6 ⟨vx0, rfl, h6, fb6⟩
  have HB_6 := Lib.hid (HB_5.out.trans (fb6.mono HB_5.out.size))
  have CA0_6 := Lib.hid (CA0_5.out.below fb6)
  have CP_6 := Lib.hid (CP_5.out.below fb6)
  have Rp_6 := Lib.hid (Rp_5.out.below fb6)
  have Z8 := Lib.hid (fb6.size)
  have Rx0_6 := Lib.hid h6
  clear CA0_5 CP_5 Rp_5 HB_5 fb6 h6
  obtain ⟨anx0, cnx0, aox0, cox0, rfl⟩ := Rx0_6.out.form
  have kA00 := (CA0_6.out.alloc (Obj.cells #[.int .i64 b0, .slice anx0 rows0.length cnx0, .slice aox0 out0.length cox0] 30)).c0
  have kA01 := (CA0_6.out.alloc (Obj.cells #[.int .i64 b0, .slice anx0 rows0.length cnx0, .slice aox0 out0.length cox0] 30)).c1
  have kA02 := (CA0_6.out.alloc (Obj.cells #[.int .i64 b0, .slice anx0 rows0.length cnx0, .slice aox0 out0.length cox0] 30)).c2
  have kP0 := (CP_6.out.alloc (Obj.cells #[.int .i64 b0, .slice anx0 rows0.length cnx0, .slice aox0 out0.length cox0] 30)).c0
  have kP1 := (CP_6.out.alloc (Obj.cells #[.int .i64 b0, .slice anx0 rows0.length cnx0, .slice aox0 out0.length cox0] 30)).c1
  have kP2 := (CP_6.out.alloc (Obj.cells #[.int .i64 b0, .slice anx0 rows0.length cnx0, .slice aox0 out0.length cox0] 30)).c2
  go_wp2_with fail
  clear kA00 kA01 kA02 kP0 kP1 kP2
  have bx7 : Below W6.heap.size W6 (W6.alloc (Obj.cells #[.int .i64 b0, .slice anx0 rows0.length cnx0, .slice aox0 out0.length cox0] 30)) := (Below.refl _ _).alloc (Nat.le_refl _) _
  have cx7 := Cells3.new W6 30 (.int .i64 b0) (.slice anx0 rows0.length cnx0) (.slice aox0 out0.length cox0)
  have hz7 : (W6.alloc (Obj.cells #[.int .i64 b0, .slice anx0 rows0.length cnx0, .slice aox0 out0.length cox0] 30)).heap.size = W6.heap.size + 1 := size_alloc' _ _
  obtain ⟨W7, hW7⟩ : ∃ W, W = (W6.alloc (Obj.cells #[.int .i64 b0, .slice anx0 rows0.length cnx0, .slice aox0 out0.length cox0] 30)) := ⟨_, rfl⟩
  rw [← hW7] at bx7 cx7 hz7 ⊢
  have HB_7 := Lib.hid (HB_6.out.trans (bx7.mono HB_6.out.size))
  have CA0_7 := Lib.hid (CA0_6.out.below bx7)
  have CP_7 := Lib.hid (CP_6.out.below bx7)
  have Rp_7 := Lib.hid (Rp_6.out.below bx7)
  have Rx0_7 := Lib.hid (Rx0_6.out.below bx7)
  have Z9 := Lib.hid (bx7.size)
  have CX0_7 := Lib.hid cx7
  have Z10 := Lib.hid hz7
  clear CA0_6 CP_6 Rp_6 Rx0_6 HB_6 bx7 hW7 cx7
  clear hz7
  refine (CI.out _ _ Rx0_7.out.lies).mono ?_
  rintro e W8 ⟨vg, rfl, h8, fb8⟩
  have HB_8 := Lib.hid (HB_7.out.trans (fb8.mono HB_7.out.size))
  have CA0_8 := Lib.hid (CA0_7.out.below fb8)
  have CP_8 := Lib.hid (CP_7.out.below fb8)
  have CX0_8 := Lib.hid (CX0_7.out.below fb8)
  have Rp_8 := Lib.hid (Rp_7.out.below fb8)
  have Rx0_8 := Lib.hid (Rx0_7.out.below fb8)
  have Z11 := Lib.hid (fb8.size)
  have Rg_8 := Lib.hid h8
  clear CA0_7 CP_7 CX0_7 Rp_7 Rx0_7 HB_7 fb8 h8
  obtain ⟨ang, cng, aog, cog, rfl⟩ := Rg_8.out.form
  have kA00 := (CA0_8.out.alloc (Obj.cells #[.int .i64 yb, .slice ang yr.length cng, .slice aog yo.length cog] 30)).c0
  have kA01 := (CA0_8.out.alloc (Obj.cells #[.int .i64 yb, .slice ang yr.length cng, .slice aog yo.length cog] 30)).c1
  have kA02 := (CA0_8.out.alloc (Obj.cells #[.int .i64 yb, .slice ang yr.length cng, .slice aog yo.length cog] 30)).c2
  have kP0 := (CP_8.out.alloc (Obj.cells #[.int .i64 yb, .slice ang yr.length cng, .slice aog yo.length cog] 30)).c0
  have kP1 := (CP_8.out.alloc (Obj.cells #[.int .i64 yb, .slice ang yr.length cng, .slice aog yo.length cog] 30)).c1
  have kP2 := (CP_8.out.alloc (Obj.cells #[.int .i64 yb, .slice ang yr.length cng, .slice aog yo.length cog] 30)).c2
  have kX00 := (CX0_8.out.alloc (Obj.cells #[.int .i64 yb, .slice ang yr.length cng, .slice aog yo.length cog] 30)).c0
  have kX01 := (CX0_8.out.alloc (Obj.cells #[.int .i64 yb, .slice ang yr.length cng, .slice aog yo.length cog] 30)).c1
  have kX02 := (CX0_8.out.alloc (Obj.cells #[.int .i64 yb, .slice ang yr.length cng, .slice aog yo.length cog] 30)).c2
  go_wp2_with fail
  clear kA00 kA01 kA02 kP0 kP1 kP2 kX00 kX01 kX02
  have bx9 : Below W8.heap.size W8 (W8.alloc (Obj.cells #[.int .i64 yb, .slice ang yr.length cng, .slice aog yo.length cog] 30)) := (Below.refl _ _).alloc (Nat.le_refl _) _
  have cx9 := Cells3.new W8 30 (.int .i64 yb) (.slice ang yr.length cng) (.slice aog yo.length cog)
  have hz9 : (W8.alloc (Obj.cells #[.int .i64 yb, .slice ang yr.length cng, .slice aog yo.length cog] 30)).heap.size = W8.heap.size + 1 := size_alloc' _ _
  obtain ⟨W9, hW9⟩ : ∃ W, W = (W8.alloc (Obj.cells #[.int .i64 yb, .slice ang yr.length cng, .slice aog yo.length cog] 30)) := ⟨_, rfl⟩
  rw [← hW9] at bx9 cx9 hz9 ⊢
  have HB_9 := Lib.hid (HB_8.out.trans (bx9.mono HB_8.out.size))
  have CA0_9 := Lib.hid (CA0_8.out.below bx9)
  have CP_9 := Lib.hid (CP_8.out.below bx9)
  have CX0_9 := Lib.hid (CX0_8.out.below bx9)
  have Rp_9 := Lib.hid (Rp_8.out.below bx9)
  have Rx0_9 := Lib.hid (Rx0_8.out.below bx9)
  have Rg_9 := Lib.hid (Rg_8.out.below bx9)
  have Z12 := Lib.hid (bx9.size)
  have CG_9 := Lib.hid cx9
  have Z13 := Lib.hid hz9
  clear CA0_8 CP_8 CX0_8 Rp_8 Rx0_8 Rg_8 HB_8 bx9 hW9 cx9
  clear hz9
  refine (eqS _ _ yb yr yo _ Rg_9.out.lies Rp_9.out.lies).mono ?_
  rintro e W10 ⟨rfl, fb10⟩
  have HB_10 := Lib.hid (HB_9.out.trans (fb10.mono HB_9.out.size))
  have CA0_10 := Lib.hid (CA0_9.out.below fb10)
  have CP_10 := Lib.hid (CP_9.out.below fb10)
  have CX0_10 := Lib.hid (CX0_9.out.below fb10)
  have CG_10 := Lib.hid (CG_9.out.below fb10)
  have Rp_10 := Lib.hid (Rp_9.out.below fb10)
  have Rx0_10 := Lib.hid (Rx0_9.out.below fb10)
  have Rg_10 := Lib.hid (Rg_9.out.below fb10)
  have Z14 := Lib.hid (fb10.size)
  clear CA0_9 CP_9 CX0_9 CG_9 Rp_9 Rx0_9 Rg_9 HB_9 fb10
  have kA00 := CA0_10.out.c0
  have kA01 := CA0_10.out.c1
  have kA02 := CA0_10.out.c2
  have kP0 := CP_10.out.c0
  have kP1 := CP_10.out.c1
  have kP2 := CP_10.out.c2
  have kX00 := CX0_10.out.c0
  have kX01 := CX0_10.out.c1
  have kX02 := CX0_10.out.c2
  have kG0 := CG_10.out.c0
  have kG1 := CG_10.out.c1
  have kG2 := CG_10.out.c2
  go_wp2_with fail
  clear kA00 kA01 kA02 kP0 kP1 kP2 kX00 kX01 kX02 kG0 kG1 kG2
  have bd11 := below_drew' W10
  obtain ⟨W11, hW11⟩ : ∃ W, W = W10.drew := ⟨_, rfl⟩
  rw [← hW11] at bd11
  have HB_11 := Lib.hid (HB_10.out.trans (bd11.mono HB_10.out.size))
  have CA0_11 := Lib.hid (CA0_10.out.below bd11)
  have CP_11 := Lib.hid (CP_10.out.below bd11)
  have CX0_11 := Lib.hid (CX0_10.out.below bd11)
  have CG_11 := Lib.hid (CG_10.out.below bd11)
  have Rp_11 := Lib.hid (Rp_10.out.below bd11)
  have Rx0_11 := Lib.hid (Rx0_10.out.below bd11)
  have Rg_11 := Lib.hid (Rg_10.out.below bd11)
  have Z15 := Lib.hid (bd11.size)
  clear CA0_10 CP_10 CX0_10 CG_10 Rp_10 Rx0_10 Rg_10 HB_10 bd11
  go_region_held3 (fun w' => w'.cell? ⟨W6.heap.size, 0, none⟩ = some (.int .i64 b0) ∧ w'.cell? ⟨W6.heap.size, 1, none⟩ = some (.slice anx0 rows0.length cnx0) ∧ w'.cell? ⟨W6.heap.size, 2, none⟩ = some (.slice aox0 out0.length cox0) ∧ w'.cell? ⟨w.heap.size, 0, none⟩ = some (.int .i64 b0) ∧ w'.cell? ⟨w.heap.size, 1, none⟩ = some (.slice an0 rows0.length cn0) ∧ w'.cell? ⟨w.heap.size, 2, none⟩ = some (.slice ao0 out0.length co0))
    (first | (rw [← hW11]; exact ⟨CX0_11.out.c0, CX0_11.out.c1, CX0_11.out.c2, CA0_11.out.c0, CA0_11.out.c1, CA0_11.out.c2⟩) | exact ⟨(CX0_11.out.below bt).c0, (CX0_11.out.below bt).c1, (CX0_11.out.below bt).c2, (CA0_11.out.below bt).c0, (CA0_11.out.below bt).c1, (CA0_11.out.below bt).c2⟩ | exact ⟨((CX0_11.out.below bt).below bu).c0, ((CX0_11.out.below bt).below bu).c1, ((CX0_11.out.below bt).below bu).c2, ((CA0_11.out.below bt).below bu).c0, ((CA0_11.out.below bt).below bu).c1, ((CA0_11.out.below bt).below bu).c2⟩)
    (first | (go_at_call 7; rw [← hW11]; refine (toS _ b0 rows0 out0 _ (ARG0.out.below HB_11.out) hz0).mono ?_; rintro e W12 ⟨vt, rfl, ht, bt⟩) | (go_at_call 10; refine (eqS _ _ b0 rows0 out0 _ (Rx0_11.out.below bt).lies ht.lies).mono ?_; rintro e W13 ⟨rfl, bu⟩))
  have HB_12 := Lib.hid (HB_11.out.trans (bt.mono HB_11.out.size))
  have CA0_12 := Lib.hid (CA0_11.out.below bt)
  have CP_12 := Lib.hid (CP_11.out.below bt)
  have CX0_12 := Lib.hid (CX0_11.out.below bt)
  have CG_12 := Lib.hid (CG_11.out.below bt)
  have Rp_12 := Lib.hid (Rp_11.out.below bt)
  have Rx0_12 := Lib.hid (Rx0_11.out.below bt)
  have Rg_12 := Lib.hid (Rg_11.out.below bt)
  have Z16 := Lib.hid (bt.size)
  have HB_13 := Lib.hid (HB_12.out.trans (bu.mono HB_12.out.size))
  have CA0_13 := Lib.hid (CA0_12.out.below bu)
  have CP_13 := Lib.hid (CP_12.out.below bu)
  have CX0_13 := Lib.hid (CX0_12.out.below bu)
  have CG_13 := Lib.hid (CG_12.out.below bu)
  have Rp_13 := Lib.hid (Rp_12.out.below bu)
  have Rx0_13 := Lib.hid (Rx0_12.out.below bu)
  have Rg_13 := Lib.hid (Rg_12.out.below bu)
  have Z17 := Lib.hid (bu.size)
  clear CA0_11 CP_11 CX0_11 CG_11 Rp_11 Rx0_11 Rg_11 HB_11 CA0_12 CP_12 CX0_12 CG_12 Rp_12 Rx0_12 Rg_12 HB_12 bt bu ht hW11
  have kA00 := CA0_13.out.c0
  have kA01 := CA0_13.out.c1
  have kA02 := CA0_13.out.c2
  have kP0 := CP_13.out.c0
  have kP1 := CP_13.out.c1
  have kP2 := CP_13.out.c2
  have kX00 := CX0_13.out.c0
  have kX01 := CX0_13.out.c1
  have kX02 := CX0_13.out.c2
  have kG0 := CG_13.out.c0
  have kG1 := CG_13.out.c1
  have kG2 := CG_13.out.c2
  go_wp2_with fail
  clear kA00 kA01 kA02 kP0 kP1 kP2 kX00 kX01 kX02 kG0 kG1 kG2
  refine (markS' _ b0 rows0 out0 T0 _ _ _ HT0.out Rx0_13.out (by omega)).mono ?_
  rintro e W14 ⟨rfl, h14, t14⟩
  have HB_14 := Lib.hid (t14.below HB_13.out (by have := Z1.out; have := Z2.out; have := Z3.out; have := Z4.out; have := Z5.out; have := Z6.out; have := Z7.out; have := Z8.out; have := Z9.out; have := Z10.out; have := Z11.out; have := Z12.out; have := Z13.out; have := Z14.out; have := Z15.out; have := Z16.out; have := Z17.out; omega))
  have CA0_14 := Lib.hid (CA0_13.out.touch t14 (by have := Z1.out; have := Z2.out; have := Z3.out; have := Z4.out; have := Z5.out; have := Z6.out; have := Z7.out; have := Z8.out; have := Z9.out; have := Z10.out; have := Z11.out; have := Z12.out; have := Z13.out; have := Z14.out; have := Z15.out; have := Z16.out; have := Z17.out; omega))
  have CP_14 := Lib.hid (CP_13.out.touch t14 (by have := Z1.out; have := Z2.out; have := Z3.out; have := Z4.out; have := Z5.out; have := Z6.out; have := Z7.out; have := Z8.out; have := Z9.out; have := Z10.out; have := Z11.out; have := Z12.out; have := Z13.out; have := Z14.out; have := Z15.out; have := Z16.out; have := Z17.out; omega))
  have CX0_14 := Lib.hid (CX0_13.out.touch t14 (by have := Z1.out; have := Z2.out; have := Z3.out; have := Z4.out; have := Z5.out; have := Z6.out; have := Z7.out; have := Z8.out; have := Z9.out; have := Z10.out; have := Z11.out; have := Z12.out; have := Z13.out; have := Z14.out; have := Z15.out; have := Z16.out; have := Z17.out; omega))
  have CG_14 := Lib.hid (CG_13.out.touch t14 (by have := Z1.out; have := Z2.out; have := Z3.out; have := Z4.out; have := Z5.out; have := Z6.out; have := Z7.out; have := Z8.out; have := Z9.out; have := Z10.out; have := Z11.out; have := Z12.out; have := Z13.out; have := Z14.out; have := Z15.out; have := Z16.out; have := Z17.out; omega))
  have Rp_14 := Lib.hid (Rp_13.out.touch t14 (by have := Z1.out; have := Z2.out; have := Z3.out; have := Z4.out; have := Z5.out; have := Z6.out; have := Z7.out; have := Z8.out; have := Z9.out; have := Z10.out; have := Z11.out; have := Z12.out; have := Z13.out; have := Z14.out; have := Z15.out; have := Z16.out; have := Z17.out; omega))
  have Rg_14 := Lib.hid (Rg_13.out.touch t14 (by have := Z1.out; have := Z2.out; have := Z3.out; have := Z4.out; have := Z5.out; have := Z6.out; have := Z7.out; have := Z8.out; have := Z9.out; have := Z10.out; have := Z11.out; have := Z12.out; have := Z13.out; have := Z14.out; have := Z15.out; have := Z16.out; have := Z17.out; omega))
  have Z18 := Lib.hid (t14.size)
  have Rx0_14 := Lib.hid h14
  clear CA0_13 CP_13 CX0_13 CG_13 Rp_13 Rx0_13 Rg_13 HB_13 t14 h14
  clear Rx0_14 CX0_14
  have kA00 := CA0_14.out.c0
  have kA01 := CA0_14.out.c1
  have kA02 := CA0_14.out.c2
  have kP0 := CP_14.out.c0
  have kP1 := CP_14.out.c1
  have kP2 := CP_14.out.c2
  have kG0 := CG_14.out.c0
  have kG1 := CG_14.out.c1
  have kG2 := CG_14.out.c2
  go_wp2_with fail
  clear kA00 kA01 kA02 kP0 kP1 kP2 kG0 kG1 kG2
  refine (eqS _ _ yb yr yo _ Rg_14.out.lies Rp_14.out.lies).mono ?_
  rintro e W15 ⟨rfl, fb15⟩
  have HB_15 := Lib.hid (HB_14.out.trans (fb15.mono HB_14.out.size))
  have CA0_15 := Lib.hid (CA0_14.out.below fb15)
  have CP_15 := Lib.hid (CP_14.out.below fb15)
  have CG_15 := Lib.hid (CG_14.out.below fb15)
  have Rp_15 := Lib.hid (Rp_14.out.below fb15)
  have Rg_15 := Lib.hid (Rg_14.out.below fb15)
  have Z19 := Lib.hid (fb15.size)
  clear CA0_14 CP_14 CG_14 Rp_14 Rg_14 HB_14 fb15
  have kA00 := CA0_15.out.c0
  have kA01 := CA0_15.out.c1
  have kA02 := CA0_15.out.c2
  have kP0 := CP_15.out.c0
  have kP1 := CP_15.out.c1
  have kP2 := CP_15.out.c2
  have kG0 := CG_15.out.c0
  have kG1 := CG_15.out.c1
  have kG2 := CG_15.out.c2
  go_wp2_with fail
  clear kA00 kA01 kA02 kP0 kP1 kP2 kG0 kG1 kG2
  refine (markS' _ yb yr yo Ty _ _ _ HTy.out Rg_15.out (by omega)).mono ?_
  rintro e W16 ⟨rfl, h16, t16⟩
  have HB_16 := Lib.hid (t16.below HB_15.out (by have := Z1.out; have := Z2.out; have := Z3.out; have := Z4.out; have := Z5.out; have := Z6.out; have := Z7.out; have := Z8.out; have := Z9.out; have := Z10.out; have := Z11.out; have := Z12.out; have := Z13.out; have := Z14.out; have := Z15.out; have := Z16.out; have := Z17.out; have := Z18.out; have := Z19.out; omega))
  have CA0_16 := Lib.hid (CA0_15.out.touch t16 (by have := Z1.out; have := Z2.out; have := Z3.out; have := Z4.out; have := Z5.out; have := Z6.out; have := Z7.out; have := Z8.out; have := Z9.out; have := Z10.out; have := Z11.out; have := Z12.out; have := Z13.out; have := Z14.out; have := Z15.out; have := Z16.out; have := Z17.out; have := Z18.out; have := Z19.out; omega))
  have CP_16 := Lib.hid (CP_15.out.touch t16 (by have := Z1.out; have := Z2.out; have := Z3.out; have := Z4.out; have := Z5.out; have := Z6.out; have := Z7.out; have := Z8.out; have := Z9.out; have := Z10.out; have := Z11.out; have := Z12.out; have := Z13.out; have := Z14.out; have := Z15.out; have := Z16.out; have := Z17.out; have := Z18.out; have := Z19.out; omega))
  have CG_16 := Lib.hid (CG_15.out.touch t16 (by have := Z1.out; have := Z2.out; have := Z3.out; have := Z4.out; have := Z5.out; have := Z6.out; have := Z7.out; have := Z8.out; have := Z9.out; have := Z10.out; have := Z11.out; have := Z12.out; have := Z13.out; have := Z14.out; have := Z15.out; have := Z16.out; have := Z17.out; have := Z18.out; have := Z19.out; omega))
  have Rp_16 := Lib.hid (Rp_15.out.touch t16 (by have := Z1.out; have := Z2.out; have := Z3.out; have := Z4.out; have := Z5.out; have := Z6.out; have := Z7.out; have := Z8.out; have := Z9.out; have := Z10.out; have := Z11.out; have := Z12.out; have := Z13.out; have := Z14.out; have := Z15.out; have := Z16.out; have := Z17.out; have := Z18.out; have := Z19.out; omega))
  have Z20 := Lib.hid (t16.size)
  have Rg_16 := Lib.hid h16
  clear CA0_15 CP_15 CG_15 Rp_15 Rg_15 HB_15 t16 h16
  have kA00 := CA0_16.out.c0
  have kA01 := CA0_16.out.c1
  have kA02 := CA0_16.out.c2
  have kP0 := CP_16.out.c0
  have kP1 := CP_16.out.c1
  have kP2 := CP_16.out.c2
  have kG0 := CG_16.out.c0
  have kG1 := CG_16.out.c1
  have kG2 := CG_16.out.c2
  go_wp2_with fail
  clear kA00 kA01 kA02 kP0 kP1 kP2 kG0 kG1 kG2
  refine (heldS' _ yb yr yo Ty _ HTy.out Rg_16.out.lies (by omega)).mono ?_
  rintro e W17 ⟨rfl, fb17⟩
  have HB_17 := Lib.hid (HB_16.out.trans (fb17.mono HB_16.out.size))
  have CA0_17 := Lib.hid (CA0_16.out.below fb17)
  have CP_17 := Lib.hid (CP_16.out.below fb17)
  have CG_17 := Lib.hid (CG_16.out.below fb17)
  have Rp_17 := Lib.hid (Rp_16.out.below fb17)
  have Rg_17 := Lib.hid (Rg_16.out.below fb17)
  have Z21 := Lib.hid (fb17.size)
  clear CA0_16 CP_16 CG_16 Rp_16 Rg_16 HB_16 fb17
  have kA00 := CA0_17.out.c0
  have kA01 := CA0_17.out.c1
  have kA02 := CA0_17.out.c2
  have kP0 := CP_17.out.c0
  have kP1 := CP_17.out.c1
  have kP2 := CP_17.out.c2
  have kG0 := CG_17.out.c0
  have kG1 := CG_17.out.c1
  have kG2 := CG_17.out.c2
  go_wp2_with fail
  clear kA00 kA01 kA02 kP0 kP1 kP2 kG0 kG1 kG2
  refine (toS _ b0 rows0 out0 _ (ARG0.out.below HB_17.out) hz0).mono ?_
  rintro e W18 ⟨vh0, rfl, h18, fb18⟩
  have HB_18 := Lib.hid (HB_17.out.trans (fb18.mono HB_17.out.size))
  have CA0_18 := Lib.hid (CA0_17.out.below fb18)
  have CP_18 := Lib.hid (CP_17.out.below fb18)
  have CG_18 := Lib.hid (CG_17.out.below fb18)
  have Rp_18 := Lib.hid (Rp_17.out.below fb18)
  have Rg_18 := Lib.hid (Rg_17.out.below fb18)
  have Z22 := Lib.hid (fb18.size)
  have Rh0_18 := Lib.hid h18
  clear CA0_17 CP_17 CG_17 Rp_17 Rg_17 HB_17 fb18 h18
  clear CA0_18
  have kP0 := CP_18.out.c0
  have kP1 := CP_18.out.c1
  have kP2 := CP_18.out.c2
  have kG0 := CG_18.out.c0
  have kG1 := CG_18.out.c1
  have kG2 := CG_18.out.c2
  go_wp2_with fail
  clear kP0 kP1 kP2 kG0 kG1 kG2
  refine (CI.out _ _ Rh0_18.out.lies).mono ?_
  rintro e W19 ⟨vh, rfl, h19, fb19⟩
  have HB_19 := Lib.hid (HB_18.out.trans (fb19.mono HB_18.out.size))
  have CP_19 := Lib.hid (CP_18.out.below fb19)
  have CG_19 := Lib.hid (CG_18.out.below fb19)
  have Rp_19 := Lib.hid (Rp_18.out.below fb19)
  have Rg_19 := Lib.hid (Rg_18.out.below fb19)
  have Rh0_19 := Lib.hid (Rh0_18.out.below fb19)
  have Z23 := Lib.hid (fb19.size)
  have Rh_19 := Lib.hid h19
  clear CP_18 CG_18 Rp_18 Rg_18 Rh0_18 HB_18 fb19 h19
  clear Rh0_19
  obtain ⟨anh, cnh, aoh, coh, rfl⟩ := Rh_19.out.form
  have kP0 := (CP_19.out.alloc (Obj.cells #[.int .i64 yb, .slice anh yr.length cnh, .slice aoh yo.length coh] 30)).c0
  have kP1 := (CP_19.out.alloc (Obj.cells #[.int .i64 yb, .slice anh yr.length cnh, .slice aoh yo.length coh] 30)).c1
  have kP2 := (CP_19.out.alloc (Obj.cells #[.int .i64 yb, .slice anh yr.length cnh, .slice aoh yo.length coh] 30)).c2
  have kG0 := (CG_19.out.alloc (Obj.cells #[.int .i64 yb, .slice anh yr.length cnh, .slice aoh yo.length coh] 30)).c0
  have kG1 := (CG_19.out.alloc (Obj.cells #[.int .i64 yb, .slice anh yr.length cnh, .slice aoh yo.length coh] 30)).c1
  have kG2 := (CG_19.out.alloc (Obj.cells #[.int .i64 yb, .slice anh yr.length cnh, .slice aoh yo.length coh] 30)).c2
  go_wp2_with fail
  clear kP0 kP1 kP2 kG0 kG1 kG2
  have bx20 : Below W19.heap.size W19 (W19.alloc (Obj.cells #[.int .i64 yb, .slice anh yr.length cnh, .slice aoh yo.length coh] 30)) := (Below.refl _ _).alloc (Nat.le_refl _) _
  have cx20 := Cells3.new W19 30 (.int .i64 yb) (.slice anh yr.length cnh) (.slice aoh yo.length coh)
  have hz20 : (W19.alloc (Obj.cells #[.int .i64 yb, .slice anh yr.length cnh, .slice aoh yo.length coh] 30)).heap.size = W19.heap.size + 1 := size_alloc' _ _
  obtain ⟨W20, hW20⟩ : ∃ W, W = (W19.alloc (Obj.cells #[.int .i64 yb, .slice anh yr.length cnh, .slice aoh yo.length coh] 30)) := ⟨_, rfl⟩
  rw [← hW20] at bx20 cx20 hz20 ⊢
  have HB_20 := Lib.hid (HB_19.out.trans (bx20.mono HB_19.out.size))
  have CP_20 := Lib.hid (CP_19.out.below bx20)
  have CG_20 := Lib.hid (CG_19.out.below bx20)
  have Rp_20 := Lib.hid (Rp_19.out.below bx20)
  have Rg_20 := Lib.hid (Rg_19.out.below bx20)
  have Rh_20 := Lib.hid (Rh_19.out.below bx20)
  have Z24 := Lib.hid (bx20.size)
  have CH_20 := Lib.hid cx20
  have Z25 := Lib.hid hz20
  clear CP_19 CG_19 Rp_19 Rg_19 Rh_19 HB_19 bx20 hW20 cx20
  clear hz20
  refine (eqS _ _ yb yr yo _ Rh_20.out.lies Rp_20.out.lies).mono ?_
  rintro e W21 ⟨rfl, fb21⟩
  have HB_21 := Lib.hid (HB_20.out.trans (fb21.mono HB_20.out.size))
  have CP_21 := Lib.hid (CP_20.out.below fb21)
  have CG_21 := Lib.hid (CG_20.out.below fb21)
  have CH_21 := Lib.hid (CH_20.out.below fb21)
  have Rp_21 := Lib.hid (Rp_20.out.below fb21)
  have Rg_21 := Lib.hid (Rg_20.out.below fb21)
  have Rh_21 := Lib.hid (Rh_20.out.below fb21)
  have Z26 := Lib.hid (fb21.size)
  clear CP_20 CG_20 CH_20 Rp_20 Rg_20 Rh_20 HB_20 fb21
  clear Rp_21 Rh_21 CP_21 CH_21
  have kG0 := CG_21.out.c0
  have kG1 := CG_21.out.c1
  have kG2 := CG_21.out.c2
  go_wp2_with fail
  clear kG0 kG1 kG2
  refine (heldS' _ yb yr yo Ty _ HTy.out Rg_21.out.lies (by omega)).mono ?_
  rintro e W22 ⟨rfl, fb22⟩
  have HB_22 := Lib.hid (HB_21.out.trans (fb22.mono HB_21.out.size))
  have CG_22 := Lib.hid (CG_21.out.below fb22)
  have Rg_22 := Lib.hid (Rg_21.out.below fb22)
  have Z27 := Lib.hid (fb22.size)
  clear CG_21 Rg_21 HB_21 fb22
  clear Rg_22 CG_22
  go_wp2
  go_ret
  exact ⟨rfl, HB_22.out⟩


set_option maxRecDepth 100000 in
theorem lifted (os : Os) (started : os.Started) (H : Type) (enc : TypeId × Value → H) :
    ReturnsInHanded {} Try.checked os 4 .any (Rows.fnExactFromLeastSpec.pre6 enc Try.prog Try.f4 Rows.fnExactFromLeastRow.domain false) (Rows.fnExactFromLeastSpec.post enc Try.prog Try.f4 false true false false) := by
  refine returnsInHanded_of_change (C := Try.checked) own started (by kernel_rfl) Try.func4
    (ChangeSpec.witness6 (enc := enc) (C := Try.checked) false ⟨#[], #[.agg #[.int .i64 0, .slice none 0 0, .slice none 0 0]], []⟩ 8 (by kernel_rfl) (by kernel_rfl) (by kernel_rfl) (by kernel_rfl)) ?_
  intro W base args ds gs before hval0 hW hcnd _
  have hval : ∀ (j : Nat) t v, Try.f4.params[j]? = some t → args[j]? = some v → Value.okWide Try.prog W .any base t v := hval0
  have hW' := hW
  obtain ⟨p, q, hA0, hV, rfl, hfz, hnd⟩ := hW
  have hA : DataW.TrodAll enc Try.prog W 0 (fun _ => true) true Try.f4.params.toList args.toList ds p := hA0
  rw [Try.params4] at hA hval
  obtain ⟨v0, vs0, d0, ds0, p0, q0, hargs, rfl, rfl, h0, r0⟩ := trodAll_cons hA
  obtain ⟨rfl, rfl, rfl⟩ := trodAll_nil r0
  obtain rfl : args = #[v0] := by cases args; simp_all
  obtain ⟨rfl, rfl⟩ := trodVars_none hV
  have k0 := h0
  have lt0 : ∀ x ∈ p0, x.block < W.heap.size := by obtain ⟨m, hm⟩ := k0; exact DataW.trod_lt m _ _ _ hm
  obtain ⟨b0, rows0, out0, l0⟩ := Seqs.open_seq (hval 0 25 v0 rfl rfl) h0
  clear hA0 hval0
  refine (walk W v0 b0 rows0 out0 l0).mono fun e W' ⟨he, hg⟩ => ?_
  subst he
  exact ⟨_, rfl, _, _, _, [], _, [], hW', trodAll_mk1 (shut_bool Try.underlying4 _), (trodAll_cons_mk (Below.trod laidOut (by kernel_rfl) (of_decide_eq_true (by kernel_rfl)) k0 hg lt0) trodAll_mk0), rfl, hg.frame _, fun h => by cases h⟩

theorem over : Rows.fnExactFromLeastRow.holds Try.pinned (OpenSpec.ofChange Rows.fnExactFromLeastSpec) :=
  OpenClaim.holds_of_wide 4 Try.f4 rfl rfl rfl rfl rfl rfl rfl ⟨rfl, rfl, rfl, rfl, rfl⟩ rfl rfl rfl rfl rfl (by kernel_rfl) Try.func4 (by kernel_rfl)
    (of_decide_eq_true (by kernel_rfl)) (by unfold Func.isWrapper; first | (rw [if_pos (by decide +kernel)]; kernel_rfl) | (rw [if_neg (by decide +kernel)]; exact ⟨rfl, rfl⟩))
    (fun os started H enc _ => lifted os started H enc)
/-- The statement. -/
theorem proved : Rows.FnExactFromLeastSaid := over
#print axioms proved
end Go.Proofs.Ytgbgcaaekpgapac.fnExactFromLeast
