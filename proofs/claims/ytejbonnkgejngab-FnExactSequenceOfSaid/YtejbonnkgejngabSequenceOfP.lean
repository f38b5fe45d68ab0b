/- The law FnExactSequenceOf answers true for every argument: the program's SequenceOf returns what the model's returns, writes into no argument and hands back memory of its own. Conditions: none beyond the row's own. -/
import Derived.Test.YtejbonnkgejngabRows
import Derived.WalkKit
import Derived.ProofKit
import Derived.OpenShut
import Derived.ShutString
import Derived.ChangeOld
import Derived.Below
import Derived.PlainAid
import Derived.Lib.Hide
import Derived.Deep.RegionHeld3
import Derived.Deep.DeepCutAuto
import Derived.Outline
import Derived.Test.YtejbonnkgejngabSqS
import Derived.Test.YtejbonnkgejngabSeqMark2
namespace Go.Proofs.Ytejbonnkgejngab.fnExactSequenceOf
open Go.ChangeShapes Go.WideShapes Go.ChangeAt Go.RowKit
open Go.ChangeMaps (open_string shut_string)
open Go.PlainAid Plain
set_option linter.unusedVariables false

theorem own : ownKnob Try.prog.godebug = none := by kernel_rfl
theorem laidOut : laidOutB Try.prog = true := by kernel_rfl
open Seqs
set_option maxRecDepth 100000 in
set_option maxHeartbeats 4000000 in
theorem walk (w : World) (v0 : Value) (m0 : List (List Int)) (l0 : LiesM w v0 m0) (v1 : Value) (xs1 : List Int) (l1 : Lies (Value.int .i64) w v1 xs1) :
    Calls Try.prog 4 #[v0, v1] w fun e w' => e = .returned (.bool true) ∧ Below w.heap.size w w' := by
  obtain ⟨an0, cn0, rfl⟩ := l0.form
  have ARG0 := Lib.hid l0
  clear l0
  have ARG1 := Lib.hid l1
  obtain ⟨il1, ia1, ic1, rfl, _, _⟩ := l1
  by_cases hs1 : xs1.length ≤ 1048576
  case neg =>
    have hd := decide_eq_true (show (xs1.length : Int) > 1048576 by omega)
    have HB_0 : Hid (Below w.heap.size w w) := Below.refl _ _
    go_enter Try.func4, Try.ntmps4
    go_wp2
    go_ret
    exact ⟨rfl, (Below.refl _ _).alloc (Nat.le_refl _) _⟩
  have hdi1 := decide_eq_false (show ¬ (xs1.length : Int) > 1048576 by omega)
  by_cases hs0 : (m0.length + tot m0) ≤ 1048576
  case neg =>
    have hq := szV_no (left := 1048576) (n := m0.length + tot m0) (by omega)
    have HQN := Lib.hid hq
    clear hq
    have HB_0 : Hid (Below w.heap.size w w) := Below.refl _ _
    go_enter Try.func4, Try.ntmps4
    go_wp2_with fail
    have bx1 : Below w.heap.size w (w.alloc (Obj.cells #[.slice an0 m0.length cn0] 38)) := (Below.refl _ _).alloc (Nat.le_refl _) _
    have cx1 := Cells1.new w 38 (.slice an0 m0.length cn0)
    have hz1 : (w.alloc (Obj.cells #[.slice an0 m0.length cn0] 38)).heap.size = w.heap.size + 1 := size_alloc' _ _
    obtain ⟨W1, hW1⟩ : ∃ W, W = (w.alloc (Obj.cells #[.slice an0 m0.length cn0] 38)) := ⟨_, rfl⟩
    rw [← hW1] at bx1 cx1 hz1 ⊢
    have HB_1 := Lib.hid (HB_0.out.trans (bx1.mono HB_0.out.size))
    have Z1 := Lib.hid (bx1.size)
    have CA0_1 := Lib.hid cx1
    have Z2 := Lib.hid hz1
    clear HB_0 bx1 hW1 cx1
    clear hz1
    refine (Mor.szM _ m0 1048576 _ (ARG0.out.below HB_1.out) (by omega) (by omega)).mono ?_
    rintro e W2 ⟨rfl, fb2⟩
    have HB_2 := Lib.hid (HB_1.out.trans (fb2.mono HB_1.out.size))
    have CA0_2 := Lib.hid (CA0_1.out.below fb2)
    have Z3 := Lib.hid (fb2.size)
    clear CA0_1 HB_1 fb2
    rw [HQN.out]
    go_wp2
    go_ret
    exact ⟨rfl, HB_2.out⟩
  obtain ⟨q0, hq0⟩ : ∃ q : Nat, szV 1048576 (m0.length + tot m0) = (q : Int) := ⟨(1048576 - ((m0.length + tot m0 : Nat) : Int)).toNat, by rw [szV_yes (by omega)]; omega⟩
  have hql0 : (q0 : Int) = 1048576 - ((m0.length + tot m0 : Nat) : Int) := by rw [szV_yes (by omega)] at hq0; omega
  have HQ0 := Lib.hid hq0
  have HQL0 : (q0 : Int) ≤ 1048576 := by omega
  have hqd0 := decide_eq_false (show ¬ (q0 : Int) < 0 by omega)
  clear hq0
  have hz0 : m0.length + tot m0 ≤ 1048576 := by omega
  obtain ⟨T0, hT0⟩ : ∃ T, T = tot m0 := ⟨_, rfl⟩
  have HT0 := Lib.hid hT0
  have hTl0 : T0 ≤ 1048576 := by omega
  have hTd0 := decide_eq_false (show ¬ (1 : Int) + (T0 : Int) < 0 by omega)
  clear hT0
  clear hql0
  have CS := Lib.hid (fun (W : World) (u0 : Value) (l0 : LiesM W u0 m0) (u1 : Value) (l1 : Lies (Value.int .i64) W u1 xs1) => Mor.spec_sq u0 u1 m0 xs1 W l0 l1 hs1 (by omega))
  have CI := Lib.hid (fun (W : World) (u0 : Value) (l0 : LiesM W u0 m0) (u1 : Value) (l1 : Lies (Value.int .i64) W u1 xs1) => Mor.impl_sq u0 u1 m0 xs1 W l0 l1)
  obtain ⟨yb, hyb⟩ : ∃ y, y = sqB m0 xs1 := ⟨_, rfl⟩
  obtain ⟨yr, hyr⟩ : ∃ y, y = sqR m0 xs1 := ⟨_, rfl⟩
  obtain ⟨yo, hyo⟩ : ∃ y, y = sqO m0 xs1 := ⟨_, rfl⟩
  obtain ⟨yk, hyk⟩ : ∃ y, y = sqK m0 xs1 := ⟨_, rfl⟩
  have hyl : tot yr + yo.length ≤ 1000 := by rw [hyr, hyo]; exact Mor.sq_size _ _
  rw [← hyb, ← hyr, ← hyo, ← hyk] at CS CI
  clear hyb hyr hyo hyk
  obtain ⟨Ty, hTy⟩ : ∃ T, T = tot yr + yo.length := ⟨_, rfl⟩
  have HTy := Lib.hid hTy
  have hTyl : Ty ≤ 1000 := by omega
  have hTyd := decide_eq_false (show ¬ (1 : Int) + (Ty : Int) < 0 by omega)
  have hkk : (yk != yk) = false := by simp
  clear hTy hyl
  have HB_0 : Hid (Below w.heap.size w w) := Below.refl _ _
  go_enter Try.func4, Try.ntmps4
  go_wp2_with fail
  have bx1 : Below w.heap.size w (w.alloc (Obj.cells #[.slice an0 m0.length cn0] 38)) := (Below.refl _ _).alloc (Nat.le_refl _) _
  have cx1 := Cells1.new w 38 (.slice an0 m0.length cn0)
  have hz1 : (w.alloc (Obj.cells #[.slice an0 m0.length cn0] 38)).heap.size = w.heap.size + 1 := size_alloc' _ _
  obtain ⟨W1, hW1⟩ : ∃ W, W = (w.alloc (Obj.cells #[.slice an0 m0.length cn0] 38)) := ⟨_, rfl⟩
  rw [← hW1] at bx1 cx1 hz1 ⊢
  have HB_1 := Lib.hid (HB_0.out.trans (bx1.mono HB_0.out.size))
  have Z1 := Lib.hid (bx1.size)
  have CA0_1 := Lib.hid cx1
  have Z2 := Lib.hid hz1
  clear HB_0 bx1 hW1 cx1
  clear hz1
  refine (Mor.szM _ m0 1048576 _ (ARG0.out.below HB_1.out) (by omega) (by omega)).mono ?_
  rintro e W2 ⟨rfl, fb2⟩
  have HB_2 := Lib.hid (HB_1.out.trans (fb2.mono HB_1.out.size))
  have CA0_2 := Lib.hid (CA0_1.out.below fb2)
  have Z3 := Lib.hid (fb2.size)
  clear CA0_1 HB_1 fb2
  rw [HQ0.out]
  have kA00 := CA0_2.out.c0
  go_wp2_with fail
  clear kA00
  refine (Mor.toM _ m0 _ (ARG0.out.below HB_2.out) hz0).mono ?_
  rintro e W3 ⟨vp0, rfl, h3, fb3⟩
  have HB_3 := Lib.hid (HB_2.out.trans (fb3.mono HB_2.out.size))
  have CA0_3 := Lib.hid (CA0_2.out.below fb3)
  have Z4 := Lib.hid (fb3.size)
  have Rp0_3 := Lib.hid h3
  clear CA0_2 HB_2 fb3 h3
  have kA00 := CA0_3.out.c0
  go_wp2_with fail
  clear kA00
  refine (Ints.copied _ xs1 _ (ARG1.out.below HB_3.out) hs1).mono ?_
  rintro e W4 ⟨vp1, rfl, h4, fb4⟩
  have HB_4 := Lib.hid (HB_3.out.trans (fb4.mono HB_3.out.size))
  have CA0_4 := Lib.hid (CA0_3.out.below fb4)
  have Rp0_4 := Lib.hid (Rp0_3.out.below fb4)
  have Z5 := Lib.hid (fb4.size)
  have Rp1_4 := Lib.hid (OwnI.of_gives h4)
  clear CA0_3 Rp0_3 HB_3 fb4 h4
  have kA00 := CA0_4.out.c0
  go_wp2_with fail
  clear kA00
  refine (CS.out _ _ Rp0_4.out.lies _ Rp1_4.out.lies).mono ?_
  rintro e W5 ⟨vp, rfl, h5, fb5⟩
  have HB_5 := Lib.hid (HB_4.out.trans (fb5.mono HB_4.out.size))
  have CA0_5 := Lib.hid (CA0_4.out.below fb5)
  have Rp0_5 := Lib.hid (Rp0_4.out.below fb5)
  have Rp1_5 := Lib.hid (Rp1_4.out.below fb5)
  have Z6 := Lib.hid (fb5.size)
  have Rp_5 := Lib.hid h5
  clear CA0_4 Rp0_4 Rp1_4 HB_4 fb5 h5
  clear Rp0_5 Rp1_5
  obtain ⟨anp, cnp, aop, cop, rfl⟩ := Rp_5.out.form
  have kA00 := (CA0_5.out.alloc (Obj.cells #[.int .i64 yb, .slice anp yr.length cnp, .slice aop yo.length cop] 31)).c0
  go_wp2_with fail
  clear kA00
  have bx6 : Below W5.heap.size W5 (W5.alloc (Obj.cells #[.int .i64 yb, .slice anp yr.length cnp, .slice aop yo.length cop] 31)) := (Below.refl _ _).alloc (Nat.le_refl _) _
  have cx6 := Cells3.new W5 31 (.int .i64 yb) (.slice anp yr.length cnp) (.slice aop yo.length cop)
  have hz6 : (W5.alloc (Obj.cells #[.int .i64 yb, .slice anp yr.length cnp, .slice aop yo.length cop] 31)).heap.size = W5.heap.size + 1 := size_alloc' _ _
  obtain ⟨W6, hW6⟩ : ∃ W, W = (W5.alloc (Obj.cells #[.int .i64 yb, .slice anp yr.length cnp, .slice aop yo.length cop] 31)) := ⟨_, rfl⟩
  rw [← hW6] at bx6 cx6 hz6 ⊢
  have HB_6 := Lib.hid (HB_5.out.trans (bx6.mono HB_5.out.size))
  have CA0_6 := Lib.hid (CA0_5.out.below bx6)
  have Rp_6 := Lib.hid (Rp_5.out.below bx6)
  have Z7 := Lib.hid (bx6.size)
  have CP_6 := Lib.hid cx6
  have Z8 := Lib.hid hz6
  clear CA0_5 Rp_5 HB_5 bx6 hW6 cx6
  clear hz6
  refine (Mor.toM _ m0 _ (ARG0.out.below HB_6.out) hz0).mono ?_
  rintro e W7 ⟨vx0, rfl, h7, fb7⟩
  have HB_7 := Lib.hid (HB_6.out.trans (fb7.mono HB_6.out.size))
  have CA0_7 := Lib.hid (CA0_6.out.below fb7)
  have CP_7 := Lib.hid (CP_6.out.below fb7)
  have Rp_7 := Lib.hid (Rp_6.out.below fb7)
  have Z9 := Lib.hid (fb7.size)
  have Rx0_7 := Lib.hid h7
  clear CA0_6 CP_6 Rp_6 HB_6 fb7 h7
  obtain ⟨anx0, cnx0, rfl⟩ := Rx0_7.out.form
  have kA00 := (CA0_7.out.alloc (Obj.cells #[.slice anx0 m0.length cnx0] 28)).c0
  have kP0 := (CP_7.out.alloc (Obj.cells #[.slice anx0 m0.length cnx0] 28)).c0
  have kP1 := (CP_7.out.alloc (Obj.cells #[.slice anx0 m0.length cnx0] 28)).c1
  have kP2 := (CP_7.out.alloc (Obj.cells #[.slice anx0 m0.length cnx0] 28)).c2
  go_wp2_with fail
  clear kA00 kP0 kP1 kP2
  have bx8 : Below W7.heap.size W7 (W7.alloc (Obj.cells #[.slice anx0 m0.length cnx0] 28)) := (Below.refl _ _).alloc (Nat.le_refl _) _
  have cx8 := Cells1.new W7 28 (.slice anx0 m0.length cnx0)
  have hz8 : (W7.alloc (Obj.cells #[.slice anx0 m0.length cnx0] 28)).heap.size = W7.heap.size + 1 := size_alloc' _ _
  obtain ⟨W8, hW8⟩ : ∃ W, W = (W7.alloc (Obj.cells #[.slice anx0 m0.length cnx0] 28)) := ⟨_, rfl⟩
  rw [← hW8] at bx8 cx8 hz8 ⊢
  have HB_8 := Lib.hid (HB_7.out.trans (bx8.mono HB_7.out.size))
  have CA0_8 := Lib.hid (CA0_7.out.below bx8)
  have CP_8 := Lib.hid (CP_7.out.below bx8)
  have Rp_8 := Lib.hid (Rp_7.out.below bx8)
  have Rx0_8 := Lib.hid (Rx0_7.out.below bx8)
  have Z10 := Lib.hid (bx8.size)
  have CX0_8 := Lib.hid cx8
  have Z11 := Lib.hid hz8
  clear CA0_7 CP_7 Rp_7 Rx0_7 HB_7 bx8 hW8 cx8
  clear hz8
  refine (Ints.copied _ xs1 _ (ARG1.out.below HB_8.out) hs1).mono ?_
  rintro e W9 ⟨vx1, rfl, h9, fb9⟩
  have HB_9 := Lib.hid (HB_8.out.trans (fb9.mono HB_8.out.size))
  have CA0_9 := Lib.hid (CA0_8.out.below fb9)
  have CP_9 := Lib.hid (CP_8.out.below fb9)
  have CX0_9 := Lib.hid (CX0_8.out.below fb9)
  have Rp_9 := Lib.hid (Rp_8.out.below fb9)
  have Rx0_9 := Lib.hid (Rx0_8.out.below fb9)
  have Z12 := Lib.hid (fb9.size)
  have Rx1_9 := Lib.hid (OwnI.of_gives h9)
  clear CA0_8 CP_8 CX0_8 Rp_8 Rx0_8 HB_8 fb9 h9
  have kA00 := CA0_9.out.c0
  have kP0 := CP_9.out.c0
  have kP1 := CP_9.out.c1
  have kP2 := CP_9.out.c2
  have kX00 := CX0_9.out.c0
  go_wp2_with fail
  clear kA00 kP0 kP1 kP2 kX00
  refine (CI.out _ _ Rx0_9.out.lies _ Rx1_9.out.lies).mono ?_
  rintro e W10 ⟨vg, rfl, h10, fb10⟩
  have HB_10 := Lib.hid (HB_9.out.trans (fb10.mono HB_9.out.size))
  have CA0_10 := Lib.hid (CA0_9.out.below fb10)
  have CP_10 := Lib.hid (CP_9.out.below fb10)
  have CX0_10 := Lib.hid (CX0_9.out.below fb10)
  have Rp_10 := Lib.hid (Rp_9.out.below fb10)
  have Rx0_10 := Lib.hid (Rx0_9.out.below fb10)
  have Rx1_10 := Lib.hid (Rx1_9.out.below fb10)
  have Z13 := Lib.hid (fb10.size)
  have Rg_10 := Lib.hid h10
  clear CA0_9 CP_9 CX0_9 Rp_9 Rx0_9 Rx1_9 HB_9 fb10 h10
  obtain ⟨ang, cng, aog, cog, rfl⟩ := Rg_10.out.form
  have kA00 := (CA0_10.out.alloc (Obj.cells #[.int .i64 yb, .slice ang yr.length cng, .slice aog yo.length cog] 31)).c0
  have kP0 := (CP_10.out.alloc (Obj.cells #[.int .i64 yb, .slice ang yr.length cng, .slice aog yo.length cog] 31)).c0
  have kP1 := (CP_10.out.alloc (Obj.cells #[.int .i64 yb, .slice ang yr.length cng, .slice aog yo.length cog] 31)).c1
  have kP2 := (CP_10.out.alloc (Obj.cells #[.int .i64 yb, .slice ang yr.length cng, .slice aog yo.length cog] 31)).c2
  have kX00 := (CX0_10.out.alloc (Obj.cells #[.int .i64 yb, .slice ang yr.length cng, .slice aog yo.length cog] 31)).c0
  go_wp2_with fail
  clear kA00 kP0 kP1 kP2 kX00
  have bx11 : Below W10.heap.size W10 (W10.alloc (Obj.cells #[.int .i64 yb, .slice ang yr.length cng, .slice aog yo.length cog] 31)) := (Below.refl _ _).alloc (Nat.le_refl _) _
  have cx11 := Cells3.new W10 31 (.int .i64 yb) (.slice ang yr.length cng) (.slice aog yo.length cog)
  have hz11 : (W10.alloc (Obj.cells #[.int .i64 yb, .slice ang yr.length cng, .slice aog yo.length cog] 31)).heap.size = W10.heap.size + 1 := size_alloc' _ _
  obtain ⟨W11, hW11⟩ : ∃ W, W = (W10.alloc (Obj.cells #[.int .i64 yb, .slice ang yr.length cng, .slice aog yo.length cog] 31)) := ⟨_, rfl⟩
  rw [← hW11] at bx11 cx11 hz11 ⊢
  have HB_11 := Lib.hid (HB_10.out.trans (bx11.mono HB_10.out.size))
  have CA0_11 := Lib.hid (CA0_10.out.below bx11)
  have CP_11 := Lib.hid (CP_10.out.below bx11)
  have CX0_11 := Lib.hid (CX0_10.out.below bx11)
  have Rp_11 := Lib.hid (Rp_10.out.below bx11)
  have Rx0_11 := Lib.hid (Rx0_10.out.below bx11)
  have Rx1_11 := Lib.hid (Rx1_10.out.below bx11)
  have Rg_11 := Lib.hid (Rg_10.out.below bx11)
  have Z14 := Lib.hid (bx11.size)
  have CG_11 := Lib.hid cx11
  have Z15 := Lib.hid hz11
  clear CA0_10 CP_10 CX0_10 Rp_10 Rx0_10 Rx1_10 Rg_10 HB_10 bx11 hW11 cx11
  clear hz11
  refine (eqS _ _ yb yr yo _ Rg_11.out.lies Rp_11.out.lies).mono ?_
  rintro e W12 ⟨rfl, fb12⟩
  have HB_12 := Lib.hid (HB_11.out.trans (fb12.mono HB_11.out.size))
  have CA0_12 := Lib.hid (CA0_11.out.below fb12)
  have CP_12 := Lib.hid (CP_11.out.below fb12)
  have CX0_12 := Lib.hid (CX0_11.out.below fb12)
  have CG_12 := Lib.hid (CG_11.out.below fb12)
  have Rp_12 := Lib.hid (Rp_11.out.below fb12)
  have Rx0_12 := Lib.hid (Rx0_11.out.below fb12)
  have Rx1_12 := Lib.hid (Rx1_11.out.below fb12)
  have Rg_12 := Lib.hid (Rg_11.out.below fb12)
  have Z16 := Lib.hid (fb12.size)
  clear CA0_11 CP_11 CX0_11 CG_11 Rp_11 Rx0_11 Rx1_11 Rg_11 HB_11 fb12
  have kA00 := CA0_12.out.c0
  have kP0 := CP_12.out.c0
  have kP1 := CP_12.out.c1
  have kP2 := CP_12.out.c2
  have kX00 := CX0_12.out.c0
  have kG0 := CG_12.out.c0
  have kG1 := CG_12.out.c1
  have kG2 := CG_12.out.c2
  go_wp2_with fail
  clear kA00 kP0 kP1 kP2 kX00 kG0 kG1 kG2
  have bd13 := below_drew' W12
  obtain ⟨W13, hW13⟩ : ∃ W, W = W12.drew := ⟨_, rfl⟩
  rw [← hW13] at bd13
  have HB_13 := Lib.hid (HB_12.out.trans (bd13.mono HB_12.out.size))
  have CA0_13 := Lib.hid (CA0_12.out.below bd13)
  have CP_13 := Lib.hid (CP_12.out.below bd13)
  have CX0_13 := Lib.hid (CX0_12.out.below bd13)
  have CG_13 := Lib.hid (CG_12.out.below bd13)
  have Rp_13 := Lib.hid (Rp_12.out.below bd13)
  have Rx0_13 := Lib.hid (Rx0_12.out.below bd13)
  have Rx1_13 := Lib.hid (Rx1_12.out.below bd13)
  have Rg_13 := Lib.hid (Rg_12.out.below bd13)
  have Z17 := Lib.hid (bd13.size)
  clear CA0_12 CP_12 CX0_12 CG_12 Rp_12 Rx0_12 Rx1_12 Rg_12 HB_12 bd13
  go_region_held3 (fun w' => w'.cell? ⟨W7.heap.size, 0, none⟩ = some (.slice anx0 m0.length cnx0) ∧ w'.cell? ⟨w.heap.size, 0, none⟩ = some (.slice an0 m0.length cn0))
    (first | (rw [← hW13]; exact ⟨CX0_13.out.c0, CA0_13.out.c0⟩) | exact ⟨(CX0_13.out.below bt).c0, (CA0_13.out.below bt).c0⟩ | exact ⟨((CX0_13.out.below bt).below bu).c0, ((CA0_13.out.below bt).below bu).c0⟩)
    (first | (go_at_call 18; rw [← hW13]; refine (Mor.toM _ m0 _ (ARG0.out.below HB_13.out) hz0).mono ?_; rintro e W14 ⟨vt, rfl, ht, bt⟩) | (go_at_call 11; refine (Mor.eqM _ _ m0 _ (Rx0_13.out.below bt).lies ht.lies).mono ?_; rintro e W15 ⟨rfl, bu⟩))
  have HB_14 := Lib.hid (HB_13.out.trans (bt.mono HB_13.out.size))
  have CA0_14 := Lib.hid (CA0_13.out.below bt)
  have CP_14 := Lib.hid (CP_13.out.below bt)
  have CX0_14 := Lib.hid (CX0_13.out.below bt)
  have CG_14 := Lib.hid (CG_13.out.below bt)
  have Rp_14 := Lib.hid (Rp_13.out.below bt)
  have Rx0_14 := Lib.hid (Rx0_13.out.below bt)
  have Rx1_14 := Lib.hid (Rx1_13.out.below bt)
  have Rg_14 := Lib.hid (Rg_13.out.below bt)
  have Z18 := Lib.hid (bt.size)
  have HB_15 := Lib.hid (HB_14.out.trans (bu.mono HB_14.out.size))
  have CA0_15 := Lib.hid (CA0_14.out.below bu)
  have CP_15 := Lib.hid (CP_14.out.below bu)
  have CX0_15 := Lib.hid (CX0_14.out.below bu)
  have CG_15 := Lib.hid (CG_14.out.below bu)
  have Rp_15 := Lib.hid (Rp_14.out.below bu)
  have Rx0_15 := Lib.hid (Rx0_14.out.below bu)
  have Rx1_15 := Lib.hid (Rx1_14.out.below bu)
  have Rg_15 := Lib.hid (Rg_14.out.below bu)
  have Z19 := Lib.hid (bu.size)
  clear CA0_13 CP_13 CX0_13 CG_13 Rp_13 Rx0_13 Rx1_13 Rg_13 HB_13 CA0_14 CP_14 CX0_14 CG_14 Rp_14 Rx0_14 Rx1_14 Rg_14 HB_14 bt bu ht hW13
  have kA00 := CA0_15.out.c0
  have kP0 := CP_15.out.c0
  have kP1 := CP_15.out.c1
  have kP2 := CP_15.out.c2
  have kX00 := CX0_15.out.c0
  have kG0 := CG_15.out.c0
  have kG1 := CG_15.out.c1
  have kG2 := CG_15.out.c2
  go_wp2_with fail
  clear kA00 kP0 kP1 kP2 kX00 kG0 kG1 kG2
  refine (Ints.copied _ xs1 _ (ARG1.out.below HB_15.out) hs1).mono ?_
  rintro e W16 ⟨vy1, rfl, h16, fb16⟩
  have HB_16 := Lib.hid (HB_15.out.trans (fb16.mono HB_15.out.size))
  have CA0_16 := Lib.hid (CA0_15.out.below fb16)
  have CP_16 := Lib.hid (CP_15.out.below fb16)
  have CX0_16 := Lib.hid (CX0_15.out.below fb16)
  have CG_16 := Lib.hid (CG_15.out.below fb16)
  have Rp_16 := Lib.hid (Rp_15.out.below fb16)
  have Rx0_16 := Lib.hid (Rx0_15.out.below fb16)
  have Rx1_16 := Lib.hid (Rx1_15.out.below fb16)
  have Rg_16 := Lib.hid (Rg_15.out.below fb16)
  have Z20 := Lib.hid (fb16.size)
  have Ry1_16 := Lib.hid (OwnI.of_gives h16)
  clear CA0_15 CP_15 CX0_15 CG_15 Rp_15 Rx0_15 Rx1_15 Rg_15 HB_15 fb16 h16
  have kA00 := CA0_16.out.c0
  have kP0 := CP_16.out.c0
  have kP1 := CP_16.out.c1
  have kP2 := CP_16.out.c2
  have kX00 := CX0_16.out.c0
  have kG0 := CG_16.out.c0
  have kG1 := CG_16.out.c1
  have kG2 := CG_16.out.c2
  go_wp2_with fail
  clear kA00 kP0 kP1 kP2 kX00 kG0 kG1 kG2
  refine (Ints.eq_yes _ _ xs1 _ Rx1_16.out.lies Ry1_16.out.lies).mono ?_
  rintro e W17 ⟨rfl, fb17⟩
  have HB_17 := Lib.hid (HB_16.out.trans (fb17.mono HB_16.out.size))
  have CA0_17 := Lib.hid (CA0_16.out.below fb17)
  have CP_17 := Lib.hid (CP_16.out.below fb17)
  have CX0_17 := Lib.hid (CX0_16.out.below fb17)
  have CG_17 := Lib.hid (CG_16.out.below fb17)
  have Rp_17 := Lib.hid (Rp_16.out.below fb17)
  have Rx0_17 := Lib.hid (Rx0_16.out.below fb17)
  have Rx1_17 := Lib.hid (Rx1_16.out.below fb17)
  have Rg_17 := Lib.hid (Rg_16.out.below fb17)
  have Ry1_17 := Lib.hid (Ry1_16.out.below fb17)
  have Z21 := Lib.hid (fb17.size)
  clear CA0_16 CP_16 CX0_16 CG_16 Rp_16 Rx0_16 Rx1_16 Rg_16 Ry1_16 HB_16 fb17
  clear Ry1_17
  have kA00 := CA0_17.out.c0
  have kP0 := CP_17.out.c0
  have kP1 := CP_17.out.c1
  have kP2 := CP_17.out.c2
  have kX00 := CX0_17.out.c0
  have kG0 := CG_17.out.c0
  have kG1 := CG_17.out.c1
  have kG2 := CG_17.out.c2
  go_wp2_with fail
  clear kA00 kP0 kP1 kP2 kX00 kG0 kG1 kG2
  refine (Mor.markMk _ m0 T0 _ _ _ ((1 : Int)) HT0.out Rx0_17.out (by omega) (by omega) (by omega)).mono ?_
  rintro e W18 ⟨rfl, h18, t18⟩
  have HB_18 := Lib.hid (t18.below HB_17.out (by have := Z1.out; have := Z2.out; have := Z3.out; have := Z4.out; have := Z5.out; have := Z6.out; have := Z7.out; have := Z8.out; have := Z9.out; have := Z10.out; have := Z11.out; have := Z12.out; have := Z13.out; have := Z14.out; have := Z15.out; have := Z16.out; have := Z17.out; have := Z18.out; have := Z19.out; have := Z20.out; have := Z21.out; omega))
  have CA0_18 := Lib.hid (CA0_17.out.touch t18 (by have := Z1.out; have := Z2.out; have := Z3.out; have := Z4.out; have := Z5.out; have := Z6.out; have := Z7.out; have := Z8.out; have := Z9.out; have := Z10.out; have := Z11.out; have := Z12.out; have := Z13.out; have := Z14.out; have := Z15.out; have := Z16.out; have := Z17.out; have := Z18.out; have := Z19.out; have := Z20.out; have := Z21.out; omega))
  have CP_18 := Lib.hid (CP_17.out.touch t18 (by have := Z1.out; have := Z2.out; have := Z3.out; have := Z4.out; have := Z5.out; have := Z6.out; have := Z7.out; have := Z8.out; have := Z9.out; have := Z10.out; have := Z11.out; have := Z12.out; have := Z13.out; have := Z14.out; have := Z15.out; have := Z16.out; have := Z17.out; have := Z18.out; have := Z19.out; have := Z20.out; have := Z21.out; omega))
  have CX0_18 := Lib.hid (CX0_17.out.touch t18 (by have := Z1.out; have := Z2.out; have := Z3.out; have := Z4.out; have := Z5.out; have := Z6.out; have := Z7.out; have := Z8.out; have := Z9.out; have := Z10.out; have := Z11.out; have := Z12.out; have := Z13.out; have := Z14.out; have := Z15.out; have := Z16.out; have := Z17.out; have := Z18.out; have := Z19.out; have := Z20.out; have := Z21.out; omega))
  have CG_18 := Lib.hid (CG_17.out.touch t18 (by have := Z1.out; have := Z2.out; have := Z3.out; have := Z4.out; have := Z5.out; have := Z6.out; have := Z7.out; have := Z8.out; have := Z9.out; have := Z10.out; have := Z11.out; have := Z12.out; have := Z13.out; have := Z14.out; have := Z15.out; have := Z16.out; have := Z17.out; have := Z18.out; have := Z19.out; have := Z20.out; have := Z21.out; omega))
  have Rp_18 := Lib.hid (Rp_17.out.touch t18 (by have := Z1.out; have := Z2.out; have := Z3.out; have := Z4.out; have := Z5.out; have := Z6.out; have := Z7.out; have := Z8.out; have := Z9.out; have := Z10.out; have := Z11.out; have := Z12.out; have := Z13.out; have := Z14.out; have := Z15.out; have := Z16.out; have := Z17.out; have := Z18.out; have := Z19.out; have := Z20.out; have := Z21.out; omega))
  have Rx1_18 := Lib.hid (Rx1_17.out.touch t18 (by have := Z1.out; have := Z2.out; have := Z3.out; have := Z4.out; have := Z5.out; have := Z6.out; have := Z7.out; have := Z8.out; have := Z9.out; have := Z10.out; have := Z11.out; have := Z12.out; have := Z13.out; have := Z14.out; have := Z15.out; have := Z16.out; have := Z17.out; have := Z18.out; have := Z19.out; have := Z20.out; have := Z21.out; omega))
  have Rg_18 := Lib.hid (Rg_17.out.touch t18 (by have := Z1.out; have := Z2.out; have := Z3.out; have := Z4.out; have := Z5.out; have := Z6.out; have := Z7.out; have := Z8.out; have := Z9.out; have := Z10.out; have := Z11.out; have := Z12.out; have := Z13.out; have := Z14.out; have := Z15.out; have := Z16.out; have := Z17.out; have := Z18.out; have := Z19.out; have := Z20.out; have := Z21.out; omega))
  have Z22 := Lib.hid (t18.size)
  have Rx0_18 := Lib.hid h18
  clear CA0_17 CP_17 CX0_17 CG_17 Rp_17 Rx0_17 Rx1_17 Rg_17 HB_17 t18 h18
  clear Rx0_18 CX0_18
  have kA00 := CA0_18.out.c0
  have kP0 := CP_18.out.c0
  have kP1 := CP_18.out.c1
  have kP2 := CP_18.out.c2
  have kG0 := CG_18.out.c0
  have kG1 := CG_18.out.c1
  have kG2 := CG_18.out.c2
  go_wp2_with fail
  clear kA00 kP0 kP1 kP2 kG0 kG1 kG2
  refine (markIk _ xs1 _ _ _ ((1 : Int) + (T0 : Int)) Rx1_18.out (by omega) (by omega) (by omega)).mono ?_
  rintro e W19 ⟨rfl, h19, t19⟩
  have HB_19 := Lib.hid (t19.below HB_18.out (by have := Z1.out; have := Z2.out; have := Z3.out; have := Z4.out; have := Z5.out; have := Z6.out; have := Z7.out; have := Z8.out; have := Z9.out; have := Z10.out; have := Z11.out; have := Z12.out; have := Z13.out; have := Z14.out; have := Z15.out; have := Z16.out; have := Z17.out; have := Z18.out; have := Z19.out; have := Z20.out; have := Z21.out; have := Z22.out; omega))
  have CA0_19 := Lib.hid (CA0_18.out.touch t19 (by have := Z1.out; have := Z2.out; have := Z3.out; have := Z4.out; have := Z5.out; have := Z6.out; have := Z7.out; have := Z8.out; have := Z9.out; have := Z10.out; have := Z11.out; have := Z12.out; have := Z13.out; have := Z14.out; have := Z15.out; have := Z16.out; have := Z17.out; have := Z18.out; have := Z19.out; have := Z20.out; have := Z21.out; have := Z22.out; omega))
  have CP_19 := Lib.hid (CP_18.out.touch t19 (by have := Z1.out; have := Z2.out; have := Z3.out; have := Z4.out; have := Z5.out; have := Z6.out; have := Z7.out; have := Z8.out; have := Z9.out; have := Z10.out; have := Z11.out; have := Z12.out; have := Z13.out; have := Z14.out; have := Z15.out; have := Z16.out; have := Z17.out; have := Z18.out; have := Z19.out; have := Z20.out; have := Z21.out; have := Z22.out; omega))
  have CG_19 := Lib.hid (CG_18.out.touch t19 (by have := Z1.out; have := Z2.out; have := Z3.out; have := Z4.out; have := Z5.out; have := Z6.out; have := Z7.out; have := Z8.out; have := Z9.out; have := Z10.out; have := Z11.out; have := Z12.out; have := Z13.out; have := Z14.out; have := Z15.out; have := Z16.out; have := Z17.out; have := Z18.out; have := Z19.out; have := Z20.out; have := Z21.out; have := Z22.out; omega))
  have Rp_19 := Lib.hid (Rp_18.out.touch t19 (by have := Z1.out; have := Z2.out; have := Z3.out; have := Z4.out; have := Z5.out; have := Z6.out; have := Z7.out; have := Z8.out; have := Z9.out; have := Z10.out; have := Z11.out; have := Z12.out; have := Z13.out; have := Z14.out; have := Z15.out; have := Z16.out; have := Z17.out; have := Z18.out; have := Z19.out; have := Z20.out; have := Z21.out; have := Z22.out; omega))
  have Rg_19 := Lib.hid (Rg_18.out.touch t19 (by have := Z1.out; have := Z2.out; have := Z3.out; have := Z4.out; have := Z5.out; have := Z6.out; have := Z7.out; have := Z8.out; have := Z9.out; have := Z10.out; have := Z11.out; have := Z12.out; have := Z13.out; have := Z14.out; have := Z15.out; have := Z16.out; have := Z17.out; have := Z18.out; have := Z19.out; have := Z20.out; have := Z21.out; have := Z22.out; omega))
  have Z23 := Lib.hid (t19.size)
  have Rx1_19 := Lib.hid h19
  clear CA0_18 CP_18 CG_18 Rp_18 Rx1_18 Rg_18 HB_18 t19 h19
  clear Rx1_19
  have hkd := decide_eq_false (show ¬ (1 : Int) + (T0 : Int) + (xs1.length : Int) < 0 by omega)
  have kA00 := CA0_19.out.c0
  have kP0 := CP_19.out.c0
  have kP1 := CP_19.out.c1
  have kP2 := CP_19.out.c2
  have kG0 := CG_19.out.c0
  have kG1 := CG_19.out.c1
  have kG2 := CG_19.out.c2
  go_wp2_with fail
  clear kA00 kP0 kP1 kP2 kG0 kG1 kG2
  refine (eqS _ _ yb yr yo _ Rg_19.out.lies Rp_19.out.lies).mono ?_
  rintro e W20 ⟨rfl, fb20⟩
  have HB_20 := Lib.hid (HB_19.out.trans (fb20.mono HB_19.out.size))
  have CA0_20 := Lib.hid (CA0_19.out.below fb20)
  have CP_20 := Lib.hid (CP_19.out.below fb20)
  have CG_20 := Lib.hid (CG_19.out.below fb20)
  have Rp_20 := Lib.hid (Rp_19.out.below fb20)
  have Rg_20 := Lib.hid (Rg_19.out.below fb20)
  have Z24 := Lib.hid (fb20.size)
  clear CA0_19 CP_19 CG_19 Rp_19 Rg_19 HB_19 fb20
  have kA00 := CA0_20.out.c0
  have kP0 := CP_20.out.c0
  have kP1 := CP_20.out.c1
  have kP2 := CP_20.out.c2
  have kG0 := CG_20.out.c0
  have kG1 := CG_20.out.c1
  have kG2 := CG_20.out.c2
  go_wp2_with fail
  clear kA00 kP0 kP1 kP2 kG0 kG1 kG2
  refine (markS' _ yb yr yo Ty _ _ _ HTy.out Rg_20.out (by omega)).mono ?_
  rintro e W21 ⟨rfl, h21, t21⟩
  have HB_21 := Lib.hid (t21.below HB_20.out (by have := Z1.out; have := Z2.out; have := Z3.out; have := Z4.out; have := Z5.out; have := Z6.out; have := Z7.out; have := Z8.out; have := Z9.out; have := Z10.out; have := Z11.out; have := Z12.out; have := Z13.out; have := Z14.out; have := Z15.out; have := Z16.out; have := Z17.out; have := Z18.out; have := Z19.out; have := Z20.out; have := Z21.out; have := Z22.out; have := Z23.out; have := Z24.out; omega))
  have CA0_21 := Lib.hid (CA0_20.out.touch t21 (by have := Z1.out; have := Z2.out; have := Z3.out; have := Z4.out; have := Z5.out; have := Z6.out; have := Z7.out; have := Z8.out; have := Z9.out; have := Z10.out; have := Z11.out; have := Z12.out; have := Z13.out; have := Z14.out; have := Z15.out; have := Z16.out; have := Z17.out; have := Z18.out; have := Z19.out; have := Z20.out; have := Z21.out; have := Z22.out; have := Z23.out; have := Z24.out; omega))
  have CP_21 := Lib.hid (CP_20.out.touch t21 (by have := Z1.out; have := Z2.out; have := Z3.out; have := Z4.out; have := Z5.out; have := Z6.out; have := Z7.out; have := Z8.out; have := Z9.out; have := Z10.out; have := Z11.out; have := Z12.out; have := Z13.out; have := Z14.out; have := Z15.out; have := Z16.out; have := Z17.out; have := Z18.out; have := Z19.out; have := Z20.out; have := Z21.out; have := Z22.out; have := Z23.out; have := Z24.out; omega))
  have CG_21 := Lib.hid (CG_20.out.touch t21 (by have := Z1.out; have := Z2.out; have := Z3.out; have := Z4.out; have := Z5.out; have := Z6.out; have := Z7.out; have := Z8.out; have := Z9.out; have := Z10.out; have := Z11.out; have := Z12.out; have := Z13.out; have := Z14.out; have := Z15.out; have := Z16.out; have := Z17.out; have := Z18.out; have := Z19.out; have := Z20.out; have := Z21.out; have := Z22.out; have := Z23.out; have := Z24.out; omega))
  have Rp_21 := Lib.hid (Rp_20.out.touch t21 (by have := Z1.out; have := Z2.out; have := Z3.out; have := Z4.out; have := Z5.out; have := Z6.out; have := Z7.out; have := Z8.out; have := Z9.out; have := Z10.out; have := Z11.out; have := Z12.out; have := Z13.out; have := Z14.out; have := Z15.out; have := Z16.out; have := Z17.out; have := Z18.out; have := Z19.out; have := Z20.out; have := Z21.out; have := Z22.out; have := Z23.out; have := Z24.out; omega))
  have Z25 := Lib.hid (t21.size)
  have Rg_21 := Lib.hid h21
  clear CA0_20 CP_20 CG_20 Rp_20 Rg_20 HB_20 t21 h21
  have kA00 := CA0_21.out.c0
  have kP0 := CP_21.out.c0
  have kP1 := CP_21.out.c1
  have kP2 := CP_21.out.c2
  have kG0 := CG_21.out.c0
  have kG1 := CG_21.out.c1
  have kG2 := CG_21.out.c2
  go_wp2_with fail
  clear kA00 kP0 kP1 kP2 kG0 kG1 kG2
  refine (heldS' _ yb yr yo Ty _ HTy.out Rg_21.out.lies (by omega)).mono ?_
  rintro e W22 ⟨rfl, fb22⟩
  have HB_22 := Lib.hid (HB_21.out.trans (fb22.mono HB_21.out.size))
  have CA0_22 := Lib.hid (CA0_21.out.below fb22)
  have CP_22 := Lib.hid (CP_21.out.below fb22)
  have CG_22 := Lib.hid (CG_21.out.below fb22)
  have Rp_22 := Lib.hid (Rp_21.out.below fb22)
  have Rg_22 := Lib.hid (Rg_21.out.below fb22)
  have Z26 := Lib.hid (fb22.size)
  clear CA0_21 CP_21 CG_21 Rp_21 Rg_21 HB_21 fb22
  have kA00 := CA0_22.out.c0
  have kP0 := CP_22.out.c0
  have kP1 := CP_22.out.c1
  have kP2 := CP_22.out.c2
  have kG0 := CG_22.out.c0
  have kG1 := CG_22.out.c1
  have kG2 := CG_22.out.c2
  go_wp2_with fail
  clear kA00 kP0 kP1 kP2 kG0 kG1 kG2
  refine (Mor.toM _ m0 _ (ARG0.out.below HB_22.out) hz0).mono ?_
  rintro e W23 ⟨vh0, rfl, h23, fb23⟩
  have HB_23 := Lib.hid (HB_22.out.trans (fb23.mono HB_22.out.size))
  have CA0_23 := Lib.hid (CA0_22.out.below fb23)
  have CP_23 := Lib.hid (CP_22.out.below fb23)
  have CG_23 := Lib.hid (CG_22.out.below fb23)
  have Rp_23 := Lib.hid (Rp_22.out.below fb23)
  have Rg_23 := Lib.hid (Rg_22.out.below fb23)
  have Z27 := Lib.hid (fb23.size)
  have Rh0_23 := Lib.hid h23
  clear CA0_22 CP_22 CG_22 Rp_22 Rg_22 HB_22 fb23 h23
  have kA00 := CA0_23.out.c0
  have kP0 := CP_23.out.c0
  have kP1 := CP_23.out.c1
  have kP2 := CP_23.out.c2
  have kG0 := CG_23.out.c0
  have kG1 := CG_23.out.c1
  have kG2 := CG_23.out.c2
  go_wp2_with fail
  clear kA00 kP0 kP1 kP2 kG0 kG1 kG2
  refine (Ints.copied _ xs1 _ (ARG1.out.below HB_23.out) hs1).mono ?_
  rintro e W24 ⟨vh1, rfl, h24, fb24⟩
  have HB_24 := Lib.hid (HB_23.out.trans (fb24.mono HB_23.out.size))
  have CA0_24 := Lib.hid (CA0_23.out.below fb24)
  have CP_24 := Lib.hid (CP_23.out.below fb24)
  have CG_24 := Lib.hid (CG_23.out.below fb24)
  have Rp_24 := Lib.hid (Rp_23.out.below fb24)
  have Rg_24 := Lib.hid (Rg_23.out.below fb24)
  have Rh0_24 := Lib.hid (Rh0_23.out.below fb24)
  have Z28 := Lib.hid (fb24.size)
  have Rh1_24 := Lib.hid (OwnI.of_gives h24)
  clear CA0_23 CP_23 CG_23 Rp_23 Rg_23 Rh0_23 HB_23 fb24 h24
  clear CA0_24
  have kP0 := CP_24.out.c0
  have kP1 := CP_24.out.c1
  have kP2 := CP_24.out.c2
  have kG0 := CG_24.out.c0
  have kG1 := CG_24.out.c1
  have kG2 := CG_24.out.c2
  go_wp2_with fail
  clear kP0 kP1 kP2 kG0 kG1 kG2
  refine (CI.out _ _ Rh0_24.out.lies _ Rh1_24.out.lies).mono ?_
  rintro e W25 ⟨vh, rfl, h25, fb25⟩
  have HB_25 := Lib.hid (HB_24.out.trans (fb25.mono HB_24.out.size))
  have CP_25 := Lib.hid (CP_24.out.below fb25)
  have CG_25 := Lib.hid (CG_24.out.below fb25)
  have Rp_25 := Lib.hid (Rp_24.out.below fb25)
  have Rg_25 := Lib.hid (Rg_24.out.below fb25)
  have Rh0_25 := Lib.hid (Rh0_24.out.below fb25)
  have Rh1_25 := Lib.hid (Rh1_24.out.below fb25)
  have Z29 := Lib.hid (fb25.size)
  have Rh_25 := Lib.hid h25
  clear CP_24 CG_24 Rp_24 Rg_24 Rh0_24 Rh1_24 HB_24 fb25 h25
  clear Rh0_25 Rh1_25
  obtain ⟨anh, cnh, aoh, coh, rfl⟩ := Rh_25.out.form
  have kP0 := (CP_25.out.alloc (Obj.cells #[.int .i64 yb, .slice anh yr.length cnh, .slice aoh yo.length coh] 31)).c0
  have kP1 := (CP_25.out.alloc (Obj.cells #[.int .i64 yb, .slice anh yr.length cnh, .slice aoh yo.length coh] 31)).c1
  have kP2 := (CP_25.out.alloc (Obj.cells #[.int .i64 yb, .slice anh yr.length cnh, .slice aoh yo.length coh] 31)).c2
  have kG0 := (CG_25.out.alloc (Obj.cells #[.int .i64 yb, .slice anh yr.length cnh, .slice aoh yo.length coh] 31)).c0
  have kG1 := (CG_25.out.alloc (Obj.cells #[.int .i64 yb, .slice anh yr.length cnh, .slice aoh yo.length coh] 31)).c1
  have kG2 := (CG_25.out.alloc (Obj.cells #[.int .i64 yb, .slice anh yr.length cnh, .slice aoh yo.length coh] 31)).c2
  go_wp2_with fail
  clear kP0 kP1 kP2 kG0 kG1 kG2
  have bx26 : Below W25.heap.size W25 (W25.alloc (Obj.cells #[.int .i64 yb, .slice anh yr.length cnh, .slice aoh yo.length coh] 31)) := (Below.refl _ _).alloc (Nat.le_refl _) _
  have cx26 := Cells3.new W25 31 (.int .i64 yb) (.slice anh yr.length cnh) (.slice aoh yo.length coh)
  have hz26 : (W25.alloc (Obj.cells #[.int .i64 yb, .slice anh yr.length cnh, .slice aoh yo.length coh] 31)).heap.size = W25.heap.size + 1 := size_alloc' _ _
  obtain ⟨W26, hW26⟩ : ∃ W, W = (W25.alloc (Obj.cells #[.int .i64 yb, .slice anh yr.length cnh, .slice aoh yo.length coh] 31)) := ⟨_, rfl⟩
  rw [← hW26] at bx26 cx26 hz26 ⊢
  have HB_26 := Lib.hid (HB_25.out.trans (bx26.mono HB_25.out.size))
  have CP_26 := Lib.hid (CP_25.out.below bx26)
  have CG_26 := Lib.hid (CG_25.out.below bx26)
  have Rp_26 := Lib.hid (Rp_25.out.below bx26)
  have Rg_26 := Lib.hid (Rg_25.out.below bx26)
  have Rh_26 := Lib.hid (Rh_25.out.below bx26)
  have Z30 := Lib.hid (bx26.size)
  have CH_26 := Lib.hid cx26
  have Z31 := Lib.hid hz26
  clear CP_25 CG_25 Rp_25 Rg_25 Rh_25 HB_25 bx26 hW26 cx26
  clear hz26
  refine (eqS _ _ yb yr yo _ Rh_26.out.lies Rp_26.out.lies).mono ?_
  rintro e W27 ⟨rfl, fb27⟩
  have HB_27 := Lib.hid (HB_26.out.trans (fb27.mono HB_26.out.size))
  have CP_27 := Lib.hid (CP_26.out.below fb27)
  have CG_27 := Lib.hid (CG_26.out.below fb27)
  have CH_27 := Lib.hid (CH_26.out.below fb27)
  have Rp_27 := Lib.hid (Rp_26.out.below fb27)
  have Rg_27 := Lib.hid (Rg_26.out.below fb27)
  have Rh_27 := Lib.hid (Rh_26.out.below fb27)
  have Z32 := Lib.hid (fb27.size)
  clear CP_26 CG_26 CH_26 Rp_26 Rg_26 Rh_26 HB_26 fb27
  clear Rp_27 Rh_27 CP_27 CH_27
  have kG0 := CG_27.out.c0
  have kG1 := CG_27.out.c1
  have kG2 := CG_27.out.c2
  go_wp2_with fail
  clear kG0 kG1 kG2
  refine (heldS' _ yb yr yo Ty _ HTy.out Rg_27.out.lies (by omega)).mono ?_
  rintro e W28 ⟨rfl, fb28⟩
  have HB_28 := Lib.hid (HB_27.out.trans (fb28.mono HB_27.out.size))
  have CG_28 := Lib.hid (CG_27.out.below fb28)
  have Rg_28 := Lib.hid (Rg_27.out.below fb28)
  have Z33 := Lib.hid (fb28.size)
  clear CG_27 Rg_27 HB_27 fb28
  clear Rg_28 CG_28
  go_wp2
  go_ret
  exact ⟨rfl, HB_28.out⟩


set_option maxRecDepth 100000 in
theorem lifted (os : Os) (started : os.Started) (H : Type) (enc : TypeId × Value → H) :
    ReturnsInHanded {} Try.checked os 4 .any (Rows.fnExactSequenceOfSpec.pre6 enc Try.prog Try.f4 Rows.fnExactSequenceOfRow.domain false) (Rows.fnExactSequenceOfSpec.post enc Try.prog Try.f4 false true false false) := by
  refine returnsInHanded_of_change (C := Try.checked) own started (by kernel_rfl) Try.func4
    (ChangeSpec.witness6 (enc := enc) (C := Try.checked) false ⟨#[], #[.agg #[.slice none 0 0], .slice none 0 0], []⟩ 8 (by kernel_rfl) (by kernel_rfl) (by kernel_rfl) (by kernel_rfl)) ?_
  intro W base args ds gs before hval0 hW hcnd _
  have hval : ∀ (j : Nat) t v, Try.f4.params[j]? = some t → args[j]? = some v → Value.okWide Try.prog W .any base t v := hval0
  have hW' := hW
  obtain ⟨p, q, hA0, hV, rfl, hfz, hnd⟩ := hW
  have hA : DataW.TrodAll enc Try.prog W 0 (fun _ => true) true Try.f4.params.toList args.toList ds p := hA0
  rw [Try.params4] at hA hval
  obtain ⟨v0, vs0, d0, ds0, p0, q0, hargs, rfl, rfl, h0, r0⟩ := trodAll_cons hA
  obtain ⟨v1, vs1, d1, ds1, p1, q1, rfl, rfl, rfl, h1, r1⟩ := trodAll_cons r0
  obtain ⟨rfl, rfl, rfl⟩ := trodAll_nil r1
  obtain rfl : args = #[v0, v1] := by cases args; simp_all
  obtain ⟨rfl, rfl⟩ := trodVars_none hV
  have k0 := h0
  have lt0 : ∀ x ∈ p0, x.block < W.heap.size := by obtain ⟨m, hm⟩ := k0; exact DataW.trod_lt m _ _ _ hm
  obtain ⟨m0, l0⟩ := Mor.open_mor (hval 0 38 v0 rfl rfl) h0
  have k1 := h1
  have lt1 : ∀ x ∈ p1, x.block < W.heap.size := by obtain ⟨m, hm⟩ := k1; exact DataW.trod_lt m _ _ _ hm
  obtain ⟨xs1, l1⟩ := Seqs.open_list h1 (okWide_slice Try.underlying23 (hval 1 23 v1 rfl rfl))
  clear hA0 hval0
  refine (walk W v0 m0 l0 v1 xs1 l1).mono fun e W' ⟨he, hg⟩ => ?_
  subst he
  exact ⟨_, rfl, _, _, _, [], _, [], hW', trodAll_mk1 (shut_bool Try.underlying4 _), (trodAll_cons_mk (Below.trod laidOut (by kernel_rfl) (of_decide_eq_true (by kernel_rfl)) k0 hg lt0) (trodAll_cons_mk (Below.trod laidOut (by kernel_rfl) (of_decide_eq_true (by kernel_rfl)) k1 hg lt1) trodAll_mk0)), rfl, hg.frame _, fun h => by cases h⟩

theorem over : Rows.fnExactSequenceOfRow.holds Try.pinned (OpenSpec.ofChange Rows.fnExactSequenceOfSpec) :=
  OpenClaim.holds_of_wide 4 Try.f4 rfl rfl rfl rfl rfl rfl rfl ⟨rfl, rfl, rfl, rfl, rfl⟩ rfl rfl rfl rfl rfl (by kernel_rfl) Try.func4 (by kernel_rfl)
    (of_decide_eq_true (by kernel_rfl)) (by unfold Func.isWrapper; first | (rw [if_pos (by decide +kernel)]; kernel_rfl) | (rw [if_neg (by decide +kernel)]; exact ⟨rfl, rfl⟩))
    (fun os started H enc _ => lifted os started H enc)
/-- The statement. -/
theorem proved : Rows.FnExactSequenceOfSaid := over
#print axioms proved
end Go.Proofs.Ytejbonnkgejngab.fnExactSequenceOf
