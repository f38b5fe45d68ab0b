/- The law FnExactFirstDifference answers true for every argument: the program's FirstDifference returns what the model's returns, writes into no argument and hands back memory of its own. Conditions: none beyond the row's own. -/
import Derived.Test.YtdnfgbdfnndlnaaRows
import Derived.WalkKit
import Derived.ProofKit
import Derived.OpenShut
import Derived.ShutString
import Derived.ChangeOld
import Derived.Below
import Derived.PlainAid
import Derived.Lib.Hide
import Derived.Deep.RegionHeld3
import Derived.Deep.DeepCutAuto
import Derived.Outline
import Derived.Test.YtdnfgbdfnndlnaaSeqMark
import Derived.Test.YtdnfgbdfnndlnaaSeqHeld
import Derived.Test.YtdnfgbdfnndlnaaSeqTo
import Derived.Test.YtdnfgbdfnndlnaaSeqOpen
import Derived.Test.YtdnfgbdfnndlnaaSeqEq
import Derived.Test.YtdnfgbdfnndlnaaSeqSz
import Derived.Test.YtdnfgbdfnndlnaaInts
import Derived.Test.YtdnfgbdfnndlnaaDiffer
namespace Go.Proofs.Ytdnfgbdfnndlnaa.fnExactFirstDifference
open Go.ChangeShapes Go.WideShapes Go.ChangeAt Go.RowKit
open Go.ChangeMaps (open_string shut_string)
open Go.PlainAid Plain
set_option linter.unusedVariables false

theorem own : ownKnob Try.prog.godebug = none := by kernel_rfl
theorem laidOut : laidOutB Try.prog = true := by kernel_rfl
open Seqs
set_option maxHeartbeats 4000000 in
theorem walk (w : World) (v0 : Value) (b0 : Int) (rows0 : List (List Int)) (out0 : List Int) (l0 : LiesS w v0 b0 rows0 out0) (v1 : Value) (b1 : Int) (rows1 : List (List Int)) (out1 : List Int) (l1 : LiesS w v1 b1 rows1 out1) :
    Calls Try.prog 7 #[v0, v1] w fun e w' => e = .returned (.bool true) ∧ Below w.heap.size w w' := by
  obtain ⟨an0, cn0, ao0, co0, rfl⟩ := l0.form
  have ARG0 := Lib.hid l0
  clear l0
  obtain ⟨an1, cn1, ao1, co1, rfl⟩ := l1.form
  have ARG1 := Lib.hid l1
  clear l1
  by_cases hs0 : (rows0.length + tot rows0 + out0.length) ≤ 1048576
  case neg =>
    have hq := szV_no (left := 1048576) (n := rows0.length + tot rows0 + out0.length) (by omega)
    have HQN := Lib.hid hq
    clear hq
    have HB_0 : Hid (Below w.heap.size w w) := Below.refl _ _
    go_enter Try.func7, Try.ntmps7
    go_wp2_with fail
    have bx1 : Below w.heap.size w (w.alloc (Obj.cells #[.int .i64 b0, .slice an0 rows0.length cn0, .slice ao0 out0.length co0] 25)) := (Below.refl _ _).alloc (Nat.le_refl _) _
    have cx1 := Cells3.new w 25 (.int .i64 b0) (.slice an0 rows0.length cn0) (.slice ao0 out0.length co0)
    have hz1 : (w.alloc (Obj.cells #[.int .i64 b0, .slice an0 rows0.length cn0, .slice ao0 out0.length co0] 25)).heap.size = w.heap.size + 1 := size_alloc' _ _
    obtain ⟨W1, hW1⟩ : ∃ W, W = (w.alloc (Obj.cells #[.int .i64 b0, .slice an0 rows0.length cn0, .slice ao0 out0.length co0] 25)) := ⟨_, rfl⟩
    rw [← hW1] at bx1 cx1 hz1 ⊢
    have HB_1 := Lib.hid (HB_0.out.trans (bx1.mono HB_0.out.size))
    have Z1 := Lib.hid (bx1.size)
    have CA0_1 := Lib.hid cx1
    have Z2 := Lib.hid hz1
    clear HB_0 bx1 hW1 cx1
    have bx2 : Below W1.heap.size W1 (W1.alloc (Obj.cells #[.int .i64 b1, .slice an1 rows1.length cn1, .slice ao1 out1.length co1] 25)) := (Below.refl _ _).alloc (Nat.le_refl _) _
    have cx2 := Cells3.new W1 25 (.int .i64 b1) (.slice an1 rows1.length cn1) (.slice ao1 out1.length co1)
    have hz2 : (W1.alloc (Obj.cells #[.int .i64 b1, .slice an1 rows1.length cn1, .slice ao1 out1.length co1] 25)).heap.size = W1.heap.size + 1 := size_alloc' _ _
    obtain ⟨W2, hW2⟩ : ∃ W, W = (W1.alloc (Obj.cells #[.int .i64 b1, .slice an1 rows1.length cn1, .slice ao1 out1.length co1] 25)) := ⟨_, rfl⟩
    rw [← hW2] at bx2 cx2 hz2 ⊢
    rw [hz1] at cx2
    have HB_2 := Lib.hid (HB_1.out.trans (bx2.mono HB_1.out.size))
    have CA0_2 := Lib.hid (CA0_1.out.below bx2)
    have Z3 := Lib.hid (bx2.size)
    have CA1_2 := Lib.hid cx2
    have Z4 := Lib.hid hz2
    clear CA0_1 HB_1 bx2 hW2 cx2
    clear hz2 hz1
    refine (sz _ b0 rows0 out0 1048576 _ (ARG0.out.below HB_2.out) (by omega) (by omega)).mono ?_
    rintro e W3 ⟨rfl, fb3⟩
    have HB_3 := Lib.hid (HB_2.out.trans (fb3.mono HB_2.out.size))
    have CA0_3 := Lib.hid (CA0_2.out.below fb3)
    have CA1_3 := Lib.hid (CA1_2.out.below fb3)
    have Z5 := Lib.hid (fb3.size)
    clear CA0_2 CA1_2 HB_2 fb3
    rw [HQN.out]
    go_wp2
    go_ret
    exact ⟨rfl, HB_3.out⟩
  obtain ⟨q0, hq0⟩ : ∃ q : Nat, szV 1048576 (rows0.length + tot rows0 + out0.length) = (q : Int) := ⟨(1048576 - ((rows0.length + tot rows0 + out0.length : Nat) : Int)).toNat, by rw [szV_yes (by omega)]; omega⟩
  have hql0 : (q0 : Int) = 1048576 - ((rows0.length + tot rows0 + out0.length : Nat) : Int) := by rw [szV_yes (by omega)] at hq0; omega
  have HQ0 := Lib.hid hq0
  have HQL0 : (q0 : Int) ≤ 1048576 := by omega
  have hqd0 := decide_eq_false (show ¬ (q0 : Int) < 0 by omega)
  clear hq0
  by_cases hs1 : (rows0.length + tot rows0 + out0.length) + (rows1.length + tot rows1 + out1.length) ≤ 1048576
  case neg =>
    have hq := szV_no (left := (q0 : Int)) (n := rows1.length + tot rows1 + out1.length) (by omega)
    have HQN := Lib.hid hq
    clear hq hql0
    have HB_0 : Hid (Below w.heap.size w w) := Below.refl _ _
    go_enter Try.func7, Try.ntmps7
    go_wp2_with fail
    have bx1 : Below w.heap.size w (w.alloc (Obj.cells #[.int .i64 b0, .slice an0 rows0.length cn0, .slice ao0 out0.length co0] 25)) := (Below.refl _ _).alloc (Nat.le_refl _) _
    have cx1 := Cells3.new w 25 (.int .i64 b0) (.slice an0 rows0.length cn0) (.slice ao0 out0.length co0)
    have hz1 : (w.alloc (Obj.cells #[.int .i64 b0, .slice an0 rows0.length cn0, .slice ao0 out0.length co0] 25)).heap.size = w.heap.size + 1 := size_alloc' _ _
    obtain ⟨W1, hW1⟩ : ∃ W, W = (w.alloc (Obj.cells #[.int .i64 b0, .slice an0 rows0.length cn0, .slice ao0 out0.length co0] 25)) := ⟨_, rfl⟩
    rw [← hW1] at bx1 cx1 hz1 ⊢
    have HB_1 := Lib.hid (HB_0.out.trans (bx1.mono HB_0.out.size))
    have Z1 := Lib.hid (bx1.size)
    have CA0_1 := Lib.hid cx1
    have Z2 := Lib.hid hz1
    clear HB_0 bx1 hW1 cx1
    have bx2 : Below W1.heap.size W1 (W1.alloc (Obj.cells #[.int .i64 b1, .slice an1 rows1.length cn1, .slice ao1 out1.length co1] 25)) := (Below.refl _ _).alloc (Nat.le_refl _) _
    have cx2 := Cells3.new W1 25 (.int .i64 b1) (.slice an1 rows1.length cn1) (.slice ao1 out1.length co1)
    have hz2 : (W1.alloc (Obj.cells #[.int .i64 b1, .slice an1 rows1.length cn1, .slice ao1 out1.length co1] 25)).heap.size = W1.heap.size + 1 := size_alloc' _ _
    obtain ⟨W2, hW2⟩ : ∃ W, W = (W1.alloc (Obj.cells #[.int .i64 b1, .slice an1 rows1.length cn1, .slice ao1 out1.length co1] 25)) := ⟨_, rfl⟩
    rw [← hW2] at bx2 cx2 hz2 ⊢
    rw [hz1] at cx2
    have HB_2 := Lib.hid (HB_1.out.trans (bx2.mono HB_1.out.size))
    have CA0_2 := Lib.hid (CA0_1.out.below bx2)
    have Z3 := Lib.hid (bx2.size)
    have CA1_2 := Lib.hid cx2
    have Z4 := Lib.hid hz2
    clear CA0_1 HB_1 bx2 hW2 cx2
    clear hz2 hz1
    refine (sz _ b0 rows0 out0 1048576 _ (ARG0.out.below HB_2.out) (by omega) (by omega)).mono ?_
    rintro e W3 ⟨rfl, fb3⟩
    have HB_3 := Lib.hid (HB_2.out.trans (fb3.mono HB_2.out.size))
    have CA0_3 := Lib.hid (CA0_2.out.below fb3)
    have CA1_3 := Lib.hid (CA1_2.out.below fb3)
    have Z5 := Lib.hid (fb3.size)
    clear CA0_2 CA1_2 HB_2 fb3
    rw [HQ0.out]
    have kA00 := CA0_3.out.c0
    have kA01 := CA0_3.out.c1
    have kA02 := CA0_3.out.c2
    have kA10 := CA1_3.out.c0
    have kA11 := CA1_3.out.c1
    have kA12 := CA1_3.out.c2
    go_wp2_with fail
    clear kA00 kA01 kA02 kA10 kA11 kA12
    refine (sz _ b1 rows1 out1 (q0 : Int) _ (ARG1.out.below HB_3.out) (by omega) (by omega)).mono ?_
    rintro e W4 ⟨rfl, fb4⟩
    have HB_4 := Lib.hid (HB_3.out.trans (fb4.mono HB_3.out.size))
    have CA0_4 := Lib.hid (CA0_3.out.below fb4)
    have CA1_4 := Lib.hid (CA1_3.out.below fb4)
    have Z6 := Lib.hid (fb4.size)
    clear CA0_3 CA1_3 HB_3 fb4
    rw [HQN.out]
    go_wp2
    go_ret
    exact ⟨rfl, HB_4.out⟩
  obtain ⟨q1, hq1⟩ : ∃ q : Nat, szV (q0 : Int) (rows1.length + tot rows1 + out1.length) = (q : Int) := ⟨((q0 : Int) - ((rows1.length + tot rows1 + out1.length : Nat) : Int)).toNat, by rw [szV_yes (by omega)]; omega⟩
  have hql1 : (q1 : Int) = (q0 : Int) - ((rows1.length + tot rows1 + out1.length : Nat) : Int) := by rw [szV_yes (by omega)] at hq1; omega
  have HQ1 := Lib.hid hq1
  have HQL1 : (q1 : Int) ≤ 1048576 := by omega
  have hqd1 := decide_eq_false (show ¬ (q1 : Int) < 0 by omega)
  clear hq1
  have hz0 : rows0.length + tot rows0 + out0.length ≤ 1048576 := by omega
  obtain ⟨T0, hT0⟩ : ∃ T, T = tot rows0 + out0.length := ⟨_, rfl⟩
  have HT0 := Lib.hid hT0
  have hTl0 : T0 ≤ 1048576 := by omega
  have hTd0 := decide_eq_false (show ¬ (1 : Int) + (T0 : Int) < 0 by omega)
  clear hT0
  have hz1 : rows1.length + tot rows1 + out1.length ≤ 1048576 := by omega
  obtain ⟨T1, hT1⟩ : ∃ T, T = tot rows1 + out1.length := ⟨_, rfl⟩
  have HT1 := Lib.hid hT1
  have hTl1 : T1 ≤ 1048576 := by omega
  have hTd1 := decide_eq_false (show ¬ (1 : Int) + (T1 : Int) < 0 by omega)
  clear hT1
  clear hql0
  clear hql1
  clear hs0 hs1
  have CS := Lib.hid (fun (W : World) (u0 : Value) (l0 : LiesS W u0 b0 rows0 out0) (u1 : Value) (l1 : LiesS W u1 b1 rows1 out1) => Mins.spec_diff u0 u1 b0 b1 rows0 rows1 out0 out1 W l0 l1)
  have CI := Lib.hid (fun (W : World) (u0 : Value) (l0 : LiesS W u0 b0 rows0 out0) (u1 : Value) (l1 : LiesS W u1 b1 rows1 out1) => Mins.impl_diff u0 u1 b0 b1 rows0 rows1 out0 out1 W l0 l1)
  obtain ⟨y, hy⟩ : ∃ y, y = Mins.diffV b0 b1 rows0 rows1 out0 out1 := ⟨_, rfl⟩
  obtain ⟨yk, hyk⟩ : ∃ y, y = Mins.diffK b0 b1 rows0 rows1 out0 out1 := ⟨_, rfl⟩
  rw [← hy, ← hyk] at CS CI
  clear hy hyk
  have hyy : (y != y) = false := by simp
  have hkk : (yk != yk) = false := by simp
  have HB_0 : Hid (Below w.heap.size w w) := Below.refl _ _
  go_enter Try.func7, Try.ntmps7
  go_wp2_with fail
  have bx1 : Below w.heap.size w (w.alloc (Obj.cells #[.int .i64 b0, .slice an0 rows0.length cn0, .slice ao0 out0.length co0] 25)) := (Below.refl _ _).alloc (Nat.le_refl _) _
  have cx1 := Cells3.new w 25 (.int .i64 b0) (.slice an0 rows0.length cn0) (.slice ao0 out0.length co0)
  have hz1 : (w.alloc (Obj.cells #[.int .i64 b0, .slice an0 rows0.length cn0, .slice ao0 out0.length co0] 25)).heap.size = w.heap.size + 1 := size_alloc' _ _
  obtain ⟨W1, hW1⟩ : ∃ W, W = (w.alloc (Obj.cells #[.int .i64 b0, .slice an0 rows0.length cn0, .slice ao0 out0.length co0] 25)) := ⟨_, rfl⟩
  rw [← hW1] at bx1 cx1 hz1 ⊢
  have HB_1 := Lib.hid (HB_0.out.trans (bx1.mono HB_0.out.size))
  have Z1 := Lib.hid (bx1.size)
  have CA0_1 := Lib.hid cx1
  have Z2 := Lib.hid hz1
  clear HB_0 bx1 hW1 cx1
  have bx2 : Below W1.heap.size W1 (W1.alloc (Obj.cells #[.int .i64 b1, .slice an1 rows1.length cn1, .slice ao1 out1.length co1] 25)) := (Below.refl _ _).alloc (Nat.le_refl _) _
  have cx2 := Cells3.new W1 25 (.int .i64 b1) (.slice an1 rows1.length cn1) (.slice ao1 out1.length co1)
  have hz2 : (W1.alloc (Obj.cells #[.int .i64 b1, .slice an1 rows1.length cn1, .slice ao1 out1.length co1] 25)).heap.size = W1.heap.size + 1 := size_alloc' _ _
  obtain ⟨W2, hW2⟩ : ∃ W, W = (W1.alloc (Obj.cells #[.int .i64 b1, .slice an1 rows1.length cn1, .slice ao1 out1.length co1] 25)) := ⟨_, rfl⟩
  rw [← hW2] at bx2 cx2 hz2 ⊢
  rw [hz1] at cx2
  have HB_2 := Lib.hid (HB_1.out.trans (bx2.mono HB_1.out.size))
  have CA0_2 := Lib.hid (CA0_1.out.below bx2)
  have Z3 := Lib.hid (bx2.size)
  have CA1_2 := Lib.hid cx2
  have Z4 := Lib.hid hz2
  clear CA0_1 HB_1 bx2 hW2 cx2
  clear hz2 hz1
  refine (sz _ b0 rows0 out0 1048576 _ (ARG0.out.below HB_2.out) (by omega) (by omega)).mono ?_
  rintro e W3 ⟨rfl, fb3⟩
  have HB_3 := Lib.hid (HB_2.out.trans (fb3.mono HB_2.out.size))
  have CA0_3 := Lib.hid (CA0_2.out.below fb3)
  have CA1_3 := Lib.hid (CA1_2.out.below fb3)
  have Z5 := Lib.hid (fb3.size)
  clear CA0_2 CA1_2 HB_2 fb3
  rw [HQ0.out]
  have kA00 := CA0_3.out.c0
  have kA01 := CA0_3.out.c1
  have kA02 := CA0_3.out.c2
  have kA10 := CA1_3.out.c0
  have kA11 := CA1_3.out.c1
  have kA12 := CA1_3.out.c2
  go_wp2_with fail
  clear kA00 kA01 kA02 kA10 kA11 kA12
  refine (sz _ b1 rows1 out1 (q0 : Int) _ (ARG1.out.below HB_3.out) (by omega) (by omega)).mono ?_
  rintro e W4 ⟨rfl, fb4⟩
  have HB_4 := Lib.hid (HB_3.out.trans (fb4.mono HB_3.out.size))
  have CA0_4 := Lib.hid (CA0_3.out.below fb4)
  have CA1_4 := Lib.hid (CA1_3.out.below fb4)
  have Z6 := Lib.hid (fb4.size)
  clear CA0_3 CA1_3 HB_3 fb4
  rw [HQ1.out]
  have kA00 := CA0_4.out.c0
  have kA01 := CA0_4.out.c1
  have kA02 := CA0_4.out.c2
  have kA10 := CA1_4.out.c0
  have kA11 := CA1_4.out.c1
  have kA12 := CA1_4.out.c2
  go_wp2_with fail
  clear kA00 kA01 kA02 kA10 kA11 kA12
  go_cut [6, 7] (fun s s' wx => s = .int .i64 y ∧ s' = .bool yk ∧ Hid (Cells3 wx (w.heap.size) 25 (.int .i64 b0) (.slice an0 rows0.length cn0) (.slice ao0 out0.length co0)) ∧ Hid (Cells3 wx (w.heap.size + 1) 25 (.int .i64 b1) (.slice an1 rows1.length cn1) (.slice ao1 out1.length co1)) ∧ Hid (Below W4.heap.size W4 wx))
  case first =>
    have bd := below_drew' W4
    obtain ⟨Wd, hWd⟩ : ∃ W, W = W4.drew := ⟨_, rfl⟩
    rw [← hWd] at bd
    have DA0 := Lib.hid (CA0_4.out.below bd)
    have DA1 := Lib.hid (CA1_4.out.below bd)
    have HD := Lib.hid (HB_4.out.trans (bd.mono HB_4.out.size))
    go_region_held3 (fun w' => w'.cell? ⟨w.heap.size, 0, none⟩ = some (.int .i64 b0) ∧ w'.cell? ⟨w.heap.size, 1, none⟩ = some (.slice an0 rows0.length cn0) ∧ w'.cell? ⟨w.heap.size, 2, none⟩ = some (.slice ao0 out0.length co0) ∧ w'.cell? ⟨w.heap.size + 1, 0, none⟩ = some (.int .i64 b1) ∧ w'.cell? ⟨w.heap.size + 1, 1, none⟩ = some (.slice an1 rows1.length cn1) ∧ w'.cell? ⟨w.heap.size + 1, 2, none⟩ = some (.slice ao1 out1.length co1))
      (first | (rw [← hWd]; exact ⟨DA0.out.c0, DA0.out.c1, DA0.out.c2, DA1.out.c0, DA1.out.c1, DA1.out.c2⟩) | exact ⟨(((DA0.out.below fx1).below fx2).below fx3).c0, (((DA0.out.below fx1).below fx2).below fx3).c1, (((DA0.out.below fx1).below fx2).below fx3).c2, (((DA1.out.below fx1).below fx2).below fx3).c0, (((DA1.out.below fx1).below fx2).below fx3).c1, (((DA1.out.below fx1).below fx2).below fx3).c2⟩ | exact ⟨((DA0.out.below fx1).below fx2).c0, ((DA0.out.below fx1).below fx2).c1, ((DA0.out.below fx1).below fx2).c2, ((DA1.out.below fx1).below fx2).c0, ((DA1.out.below fx1).below fx2).c1, ((DA1.out.below fx1).below fx2).c2⟩ | exact ⟨(DA0.out.below fx1).c0, (DA0.out.below fx1).c1, (DA0.out.below fx1).c2, (DA1.out.below fx1).c0, (DA1.out.below fx1).c1, (DA1.out.below fx1).c2⟩)
      (first | (go_at_call 11; rw [← hWd]; refine (toS _ b0 rows0 out0 _ (ARG0.out.below HD.out) hz0).mono ?_; rintro e Wt ⟨vt, rfl, ht, fx1⟩; have hx0 := ht) | (go_at_call 11; rw [← hWd]; refine (toS _ b1 rows1 out1 _ (ARG1.out.below HD.out) hz1).mono ?_; rintro e Wt ⟨vt, rfl, ht, fx1⟩; have hx1 := ht) | (go_at_call 11; have hprev := hx1; refine (toS _ b0 rows0 out0 _ (ARG0.out.below (HD.out.trans (fx1.mono HD.out.size))) hz0).mono ?_; rintro e Wu ⟨vu, rfl, hu, fx2⟩) | (go_at_call 11; have hprev := hx0; refine (toS _ b1 rows1 out1 _ (ARG1.out.below (HD.out.trans (fx1.mono HD.out.size))) hz1).mono ?_; rintro e Wu ⟨vu, rfl, hu, fx2⟩) | (go_at_call 25; have hprev := hx0; refine (CS.out _ _ (hx0.below fx2).lies _ hu.lies).mono ?_; rintro e Wv ⟨rfl, fx3⟩) | (go_at_call 25; have hprev := hx1; refine (CS.out _ _ hu.lies _ (hx1.below fx2).lies).mono ?_; rintro e Wv ⟨rfl, fx3⟩))
    all_goals
      go_wp2_with fail
      go_meet
      exact ⟨rfl, rfl, ((DA0.out.below fx1).below fx2).below fx3, ((DA1.out.below fx1).below fx2).below fx3, ((bd.trans (fx1.mono bd.size)).trans (fx2.mono (bd.trans (fx1.mono bd.size)).size)).trans (fx3.mono ((bd.trans (fx1.mono bd.size)).trans (fx2.mono (bd.trans (fx1.mono bd.size)).size)).size)⟩
  case rest =>
    obtain ⟨rfl, rfl, cA0, cA1, bw5⟩ := hcut
    obtain ⟨W5, rfl⟩ : ∃ W, W = wc := ⟨_, rfl⟩
    have bw := bw5.out
    have HB_5 := Lib.hid (HB_4.out.trans (bw.mono HB_4.out.size))
    have CA0_5 := Lib.hid (CA0_4.out.below bw)
    have CA1_5 := Lib.hid (CA1_4.out.below bw)
    have Z7 := Lib.hid (bw.size)
    clear CA0_4 CA1_4 HB_4 bw5 bw cA0 cA1
    have kA00 := CA0_5.out.c0
    have kA01 := CA0_5.out.c1
    have kA02 := CA0_5.out.c2
    have kA10 := CA1_5.out.c0
    have kA11 := CA1_5.out.c1
    have kA12 := CA1_5.out.c2
    go_wp2_with fail
    clear kA00 kA01 kA02 kA10 kA11 kA12
    refine (toS _ b0 rows0 out0 _ (ARG0.out.below HB_5.out) hz0).mono ?_
    rintro e W6 ⟨vx0, rfl, h6, fb6⟩
    have HB_6 := Lib.hid (HB_5.out.trans (fb6.mono HB_5.out.size))
    have CA0_6 := Lib.hid (CA0_5.out.below fb6)
    have CA1_6 := Lib.hid (CA1_5.out.below fb6)
    have Z8 := Lib.hid (fb6.size)
    have Rx0_6 := Lib.hid h6
    clear CA0_5 CA1_5 HB_5 fb6 h6
    obtain ⟨anx0, cnx0, aox0, cox0, rfl⟩ := Rx0_6.out.form
    have kA00 := (CA0_6.out.alloc (Obj.cells #[.int .i64 b0, .slice anx0 rows0.length cnx0, .slice aox0 out0.length cox0] 28)).c0
    have kA01 := (CA0_6.out.alloc (Obj.cells #[.int .i64 b0, .slice anx0 rows0.length cnx0, .slice aox0 out0.length cox0] 28)).c1
    have kA02 := (CA0_6.out.alloc (Obj.cells #[.int .i64 b0, .slice anx0 rows0.length cnx0, .slice aox0 out0.length cox0] 28)).c2
    have kA10 := (CA1_6.out.alloc (Obj.cells #[.int .i64 b0, .slice anx0 rows0.length cnx0, .slice aox0 out0.length cox0] 28)).c0
    have kA11 := (CA1_6.out.alloc (Obj.cells #[.int .i64 b0, .slice anx0 rows0.length cnx0, .slice aox0 out0.length cox0] 28)).c1
    have kA12 := (CA1_6.out.alloc (Obj.cells #[.int .i64 b0, .slice anx0 rows0.length cnx0, .slice aox0 out0.length cox0] 28)).c2
    go_wp2_with fail
    clear kA00 kA01 kA02 kA10 kA11 kA12
    have bx7 : Below W6.heap.size W6 (W6.alloc (Obj.cells #[.int .i64 b0, .slice anx0 rows0.length cnx0, .slice aox0 out0.length cox0] 28)) := (Below.refl _ _).alloc (Nat.le_refl _) _
    have cx7 := Cells3.new W6 28 (.int .i64 b0) (.slice anx0 rows0.length cnx0) (.slice aox0 out0.length cox0)
    have hz7 : (W6.alloc (Obj.cells #[.int .i64 b0, .slice anx0 rows0.length cnx0, .slice aox0 out0.length cox0] 28)).heap.size = W6.heap.size + 1 := size_alloc' _ _
    obtain ⟨W7, hW7⟩ : ∃ W, W = (W6.alloc (Obj.cells #[.int .i64 b0, .slice anx0 rows0.length cnx0, .slice aox0 out0.length cox0] 28)) := ⟨_, rfl⟩
    rw [← hW7] at bx7 cx7 hz7 ⊢
    have HB_7 := Lib.hid (HB_6.out.trans (bx7.mono HB_6.out.size))
    have CA0_7 := Lib.hid (CA0_6.out.below bx7)
    have CA1_7 := Lib.hid (CA1_6.out.below bx7)
    have Rx0_7 := Lib.hid (Rx0_6.out.below bx7)
    have Z9 := Lib.hid (bx7.size)
    have CX0_7 := Lib.hid cx7
    have Z10 := Lib.hid hz7
    clear CA0_6 CA1_6 Rx0_6 HB_6 bx7 hW7 cx7
    clear hz7
    refine (toS _ b1 rows1 out1 _ (ARG1.out.below HB_7.out) hz1).mono ?_
    rintro e W8 ⟨vx1, rfl, h8, fb8⟩
    have HB_8 := Lib.hid (HB_7.out.trans (fb8.mono HB_7.out.size))
    have CA0_8 := Lib.hid (CA0_7.out.below fb8)
    have CA1_8 := Lib.hid (CA1_7.out.below fb8)
    have CX0_8 := Lib.hid (CX0_7.out.below fb8)
    have Rx0_8 := Lib.hid (Rx0_7.out.below fb8)
    have Z11 := Lib.hid (fb8.size)
    have Rx1_8 := Lib.hid h8
    clear CA0_7 CA1_7 CX0_7 Rx0_7 HB_7 fb8 h8
    obtain ⟨anx1, cnx1, aox1, cox1, rfl⟩ := Rx1_8.out.form
    have kA00 := (CA0_8.out.alloc (Obj.cells #[.int .i64 b1, .slice anx1 rows1.length cnx1, .slice aox1 out1.length cox1] 28)).c0
    have kA01 := (CA0_8.out.alloc (Obj.cells #[.int .i64 b1, .slice anx1 rows1.length cnx1, .slice aox1 out1.length cox1] 28)).c1
    have kA02 := (CA0_8.out.alloc (Obj.cells #[.int .i64 b1, .slice anx1 rows1.length cnx1, .slice aox1 out1.length cox1] 28)).c2
    have kA10 := (CA1_8.out.alloc (Obj.cells #[.int .i64 b1, .slice anx1 rows1.length cnx1, .slice aox1 out1.length cox1] 28)).c0
    have kA11 := (CA1_8.out.alloc (Obj.cells #[.int .i64 b1, .slice anx1 rows1.length cnx1, .slice aox1 out1.length cox1] 28)).c1
    have kA12 := (CA1_8.out.alloc (Obj.cells #[.int .i64 b1, .slice anx1 rows1.length cnx1, .slice aox1 out1.length cox1] 28)).c2
    have kX00 := (CX0_8.out.alloc (Obj.cells #[.int .i64 b1, .slice anx1 rows1.length cnx1, .slice aox1 out1.length cox1] 28)).c0
    have kX01 := (CX0_8.out.alloc (Obj.cells #[.int .i64 b1, .slice anx1 rows1.length cnx1, .slice aox1 out1.length cox1] 28)).c1
    have kX02 := (CX0_8.out.alloc (Obj.cells #[.int .i64 b1, .slice anx1 rows1.length cnx1, .slice aox1 out1.length cox1] 28)).c2
    go_wp2_with fail
    clear kA00 kA01 kA02 kA10 kA11 kA12 kX00 kX01 kX02
    have bx9 : Below W8.heap.size W8 (W8.alloc (Obj.cells #[.int .i64 b1, .slice anx1 rows1.length cnx1, .slice aox1 out1.length cox1] 28)) := (Below.refl _ _).alloc (Nat.le_refl _) _
    have cx9 := Cells3.new W8 28 (.int .i64 b1) (.slice anx1 rows1.length cnx1) (.slice aox1 out1.length cox1)
    have hz9 : (W8.alloc (Obj.cells #[.int .i64 b1, .slice anx1 rows1.length cnx1, .slice aox1 out1.length cox1] 28)).heap.size = W8.heap.size + 1 := size_alloc' _ _
    obtain ⟨W9, hW9⟩ : ∃ W, W = (W8.alloc (Obj.cells #[.int .i64 b1, .slice anx1 rows1.length cnx1, .slice aox1 out1.length cox1] 28)) := ⟨_, rfl⟩
    rw [← hW9] at bx9 cx9 hz9 ⊢
    have HB_9 := Lib.hid (HB_8.out.trans (bx9.mono HB_8.out.size))
    have CA0_9 := Lib.hid (CA0_8.out.below bx9)
    have CA1_9 := Lib.hid (CA1_8.out.below bx9)
    have CX0_9 := Lib.hid (CX0_8.out.below bx9)
    have Rx0_9 := Lib.hid (Rx0_8.out.below bx9)
    have Rx1_9 := Lib.hid (Rx1_8.out.below bx9)
    have Z12 := Lib.hid (bx9.size)
    have CX1_9 := Lib.hid cx9
    have Z13 := Lib.hid hz9
    clear CA0_8 CA1_8 CX0_8 Rx0_8 Rx1_8 HB_8 bx9 hW9 cx9
    clear hz9
    refine (CI.out _ _ Rx0_9.out.lies _ Rx1_9.out.lies).mono ?_
    rintro e W10 ⟨rfl, fb10⟩
    have HB_10 := Lib.hid (HB_9.out.trans (fb10.mono HB_9.out.size))
    have CA0_10 := Lib.hid (CA0_9.out.below fb10)
    have CA1_10 := Lib.hid (CA1_9.out.below fb10)
    have CX0_10 := Lib.hid (CX0_9.out.below fb10)
    have CX1_10 := Lib.hid (CX1_9.out.below fb10)
    have Rx0_10 := Lib.hid (Rx0_9.out.below fb10)
    have Rx1_10 := Lib.hid (Rx1_9.out.below fb10)
    have Z14 := Lib.hid (fb10.size)
    clear CA0_9 CA1_9 CX0_9 CX1_9 Rx0_9 Rx1_9 HB_9 fb10
    have kA00 := CA0_10.out.c0
    have kA01 := CA0_10.out.c1
    have kA02 := CA0_10.out.c2
    have kA10 := CA1_10.out.c0
    have kA11 := CA1_10.out.c1
    have kA12 := CA1_10.out.c2
    have kX00 := CX0_10.out.c0
    have kX01 := CX0_10.out.c1
    have kX02 := CX0_10.out.c2
    have kX10 := CX1_10.out.c0
    have kX11 := CX1_10.out.c1
    have kX12 := CX1_10.out.c2
    go_wp2_with fail
    clear kA00 kA01 kA02 kA10 kA11 kA12 kX00 kX01 kX02 kX10 kX11 kX12
    have bd11 := below_drew' W10
    obtain ⟨W11, hW11⟩ : ∃ W, W = W10.drew := ⟨_, rfl⟩
    rw [← hW11] at bd11
    have HB_11 := Lib.hid (HB_10.out.trans (bd11.mono HB_10.out.size))
    have CA0_11 := Lib.hid (CA0_10.out.below bd11)
    have CA1_11 := Lib.hid (CA1_10.out.below bd11)
    have CX0_11 := Lib.hid (CX0_10.out.below bd11)
    have CX1_11 := Lib.hid (CX1_10.out.below bd11)
    have Rx0_11 := Lib.hid (Rx0_10.out.below bd11)
    have Rx1_11 := Lib.hid (Rx1_10.out.below bd11)
    have Z15 := Lib.hid (bd11.size)
    clear CA0_10 CA1_10 CX0_10 CX1_10 Rx0_10 Rx1_10 HB_10 bd11
    go_region_held3 (fun w' => w'.cell? ⟨W6.heap.size, 0, none⟩ = some (.int .i64 b0) ∧ w'.cell? ⟨W6.heap.size, 1, none⟩ = some (.slice anx0 rows0.length cnx0) ∧ w'.cell? ⟨W6.heap.size, 2, none⟩ = some (.slice aox0 out0.length cox0) ∧ w'.cell? ⟨w.heap.size, 0, none⟩ = some (.int .i64 b0) ∧ w'.cell? ⟨w.heap.size, 1, none⟩ = some (.slice an0 rows0.length cn0) ∧ w'.cell? ⟨w.heap.size, 2, none⟩ = some (.slice ao0 out0.length co0))
      (first | (rw [← hW11]; exact ⟨CX0_11.out.c0, CX0_11.out.c1, CX0_11.out.c2, CA0_11.out.c0, CA0_11.out.c1, CA0_11.out.c2⟩) | exact ⟨(CX0_11.out.below bt).c0, (CX0_11.out.below bt).c1, (CX0_11.out.below bt).c2, (CA0_11.out.below bt).c0, (CA0_11.out.below bt).c1, (CA0_11.out.below bt).c2⟩ | exact ⟨((CX0_11.out.below bt).below bu).c0, ((CX0_11.out.below bt).below bu).c1, ((CX0_11.out.below bt).below bu).c2, ((CA0_11.out.below bt).below bu).c0, ((CA0_11.out.below bt).below bu).c1, ((CA0_11.out.below bt).below bu).c2⟩)
      (first | (go_at_call 11; rw [← hW11]; refine (toS _ b0 rows0 out0 _ (ARG0.out.below HB_11.out) hz0).mono ?_; rintro e W12 ⟨vt, rfl, ht, bt⟩) | (go_at_call 14; refine (eqS _ _ b0 rows0 out0 _ (Rx0_11.out.below bt).lies ht.lies).mono ?_; rintro e W13 ⟨rfl, bu⟩))
    have HB_12 := Lib.hid (HB_11.out.trans (bt.mono HB_11.out.size))
    have CA0_12 := Lib.hid (CA0_11.out.below bt)
    have CA1_12 := Lib.hid (CA1_11.out.below bt)
    have CX0_12 := Lib.hid (CX0_11.out.below bt)
    have CX1_12 := Lib.hid (CX1_11.out.below bt)
    have Rx0_12 := Lib.hid (Rx0_11.out.below bt)
    have Rx1_12 := Lib.hid (Rx1_11.out.below bt)
    have Z16 := Lib.hid (bt.size)
    have HB_13 := Lib.hid (HB_12.out.trans (bu.mono HB_12.out.size))
    have CA0_13 := Lib.hid (CA0_12.out.below bu)
    have CA1_13 := Lib.hid (CA1_12.out.below bu)
    have CX0_13 := Lib.hid (CX0_12.out.below bu)
    have CX1_13 := Lib.hid (CX1_12.out.below bu)
    have Rx0_13 := Lib.hid (Rx0_12.out.below bu)
    have Rx1_13 := Lib.hid (Rx1_12.out.below bu)
    have Z17 := Lib.hid (bu.size)
    clear CA0_11 CA1_11 CX0_11 CX1_11 Rx0_11 Rx1_11 HB_11 CA0_12 CA1_12 CX0_12 CX1_12 Rx0_12 Rx1_12 HB_12 bt bu ht hW11
    clear Rx0_13 CA0_13 CX0_13
    have kA10 := CA1_13.out.c0
    have kA11 := CA1_13.out.c1
    have kA12 := CA1_13.out.c2
    have kX10 := CX1_13.out.c0
    have kX11 := CX1_13.out.c1
    have kX12 := CX1_13.out.c2
    go_wp2_with fail
    clear kA10 kA11 kA12 kX10 kX11 kX12
    have bd14 := below_drew' W13
    obtain ⟨W14, hW14⟩ : ∃ W, W = W13.drew := ⟨_, rfl⟩
    rw [← hW14] at bd14
    have HB_14 := Lib.hid (HB_13.out.trans (bd14.mono HB_13.out.size))
    have CA1_14 := Lib.hid (CA1_13.out.below bd14)
    have CX1_14 := Lib.hid (CX1_13.out.below bd14)
    have Rx1_14 := Lib.hid (Rx1_13.out.below bd14)
    have Z18 := Lib.hid (bd14.size)
    clear CA1_13 CX1_13 Rx1_13 HB_13 bd14
    go_region_held3 (fun w' => w'.cell? ⟨W8.heap.size, 0, none⟩ = some (.int .i64 b1) ∧ w'.cell? ⟨W8.heap.size, 1, none⟩ = some (.slice anx1 rows1.length cnx1) ∧ w'.cell? ⟨W8.heap.size, 2, none⟩ = some (.slice aox1 out1.length cox1) ∧ w'.cell? ⟨w.heap.size + 1, 0, none⟩ = some (.int .i64 b1) ∧ w'.cell? ⟨w.heap.size + 1, 1, none⟩ = some (.slice an1 rows1.length cn1) ∧ w'.cell? ⟨w.heap.size + 1, 2, none⟩ = some (.slice ao1 out1.length co1))
      (first | (rw [← hW14]; exact ⟨CX1_14.out.c0, CX1_14.out.c1, CX1_14.out.c2, CA1_14.out.c0, CA1_14.out.c1, CA1_14.out.c2⟩) | exact ⟨(CX1_14.out.below bt).c0, (CX1_14.out.below bt).c1, (CX1_14.out.below bt).c2, (CA1_14.out.below bt).c0, (CA1_14.out.below bt).c1, (CA1_14.out.below bt).c2⟩ | exact ⟨((CX1_14.out.below bt).below bu).c0, ((CX1_14.out.below bt).below bu).c1, ((CX1_14.out.below bt).below bu).c2, ((CA1_14.out.below bt).below bu).c0, ((CA1_14.out.below bt).below bu).c1, ((CA1_14.out.below bt).below bu).c2⟩)
      (first | (go_at_call 11; rw [← hW14]; refine (toS _ b1 rows1 out1 _ (ARG1.out.below HB_14.out) hz1).mono ?_; rintro e W15 ⟨vt, rfl, ht, bt⟩) | (go_at_call 14; refine (eqS _ _ b1 rows1 out1 _ (Rx1_14.out.below bt).lies ht.lies).mono ?_; rintro e W16 ⟨rfl, bu⟩))
    have HB_15 := Lib.hid (HB_14.out.trans (bt.mono HB_14.out.size))
    have CA1_15 := Lib.hid (CA1_14.out.below bt)
    have CX1_15 := Lib.hid (CX1_14.out.below bt)
    have Rx1_15 := Lib.hid (Rx1_14.out.below bt)
    have Z19 := Lib.hid (bt.size)
    have HB_16 := Lib.hid (HB_15.out.trans (bu.mono HB_15.out.size))
    have CA1_16 := Lib.hid (CA1_15.out.below bu)
    have CX1_16 := Lib.hid (CX1_15.out.below bu)
    have Rx1_16 := Lib.hid (Rx1_15.out.below bu)
    have Z20 := Lib.hid (bu.size)
    clear CA1_14 CX1_14 Rx1_14 HB_14 CA1_15 CX1_15 Rx1_15 HB_15 bt bu ht hW14
    clear Rx1_16 CA1_16 CX1_16
    go_wp2
    go_ret
    exact ⟨rfl, HB_16.out⟩


set_option maxRecDepth 100000 in
theorem lifted (os : Os) (started : os.Started) (H : Type) (enc : TypeId × Value → H) :
    ReturnsInHanded {} Try.checked os 7 .any (Rows.fnExactFirstDifferenceSpec.pre6 enc Try.prog Try.f7 Rows.fnExactFirstDifferenceRow.domain false) (Rows.fnExactFirstDifferenceSpec.post enc Try.prog Try.f7 false true false false) := by
  refine returnsInHanded_of_change (C := Try.checked) own started (by kernel_rfl) Try.func7
    (ChangeSpec.witness6 (enc := enc) (C := Try.checked) false ⟨#[], #[.agg #[.int .i64 0, .slice none 0 0, .slice none 0 0], .agg #[.int .i64 0, .slice none 0 0, .slice none 0 0]], []⟩ 8 (by kernel_rfl) (by kernel_rfl) (by kernel_rfl) (by kernel_rfl)) ?_
  intro W base args ds gs before hval0 hW hcnd _
  have hval : ∀ (j : Nat) t v, Try.f7.params[j]? = some t → args[j]? = some v → Value.okWide Try.prog W .any base t v := hval0
  have hW' := hW
  obtain ⟨p, q, hA0, hV, rfl, hfz, hnd⟩ := hW
  have hA : DataW.TrodAll enc Try.prog W 0 (fun _ => true) true Try.f7.params.toList args.toList ds p := hA0
  rw [Try.params7] at hA hval
  obtain ⟨v0, vs0, d0, ds0, p0, q0, hargs, rfl, rfl, h0, r0⟩ := trodAll_cons hA
  obtain ⟨v1, vs1, d1, ds1, p1, q1, rfl, rfl, rfl, h1, r1⟩ := trodAll_cons r0
  obtain ⟨rfl, rfl, rfl⟩ := trodAll_nil r1
  obtain rfl : args = #[v0, v1] := by cases args; simp_all
  obtain ⟨rfl, rfl⟩ := trodVars_none hV
  have k0 := h0
  have lt0 : ∀ x ∈ p0, x.block < W.heap.size := by obtain ⟨m, hm⟩ := k0; exact DataW.trod_lt m _ _ _ hm
  obtain ⟨b0, rows0, out0, l0⟩ := Seqs.open_seq (hval 0 25 v0 rfl rfl) h0
  have k1 := h1
  have lt1 : ∀ x ∈ p1, x.block < W.heap.size := by obtain ⟨m, hm⟩ := k1; exact DataW.trod_lt m _ _ _ hm
  obtain ⟨b1, rows1, out1, l1⟩ := Seqs.open_seq (hval 1 25 v1 rfl rfl) h1
  clear hA0 hval0
  refine (walk W v0 b0 rows0 out0 l0 v1 b1 rows1 out1 l1).mono fun e W' ⟨he, hg⟩ => ?_
  subst he
  exact ⟨_, rfl, _, _, _, [], _, [], hW', trodAll_mk1 (shut_bool Try.underlying4 _), (trodAll_cons_mk (Below.trod laidOut (by kernel_rfl) (of_decide_eq_true (by kernel_rfl)) k0 hg lt0) (trodAll_cons_mk (Below.trod laidOut (by kernel_rfl) (of_decide_eq_true (by kernel_rfl)) k1 hg lt1) trodAll_mk0)), rfl, hg.frame _, fun h => by cases h⟩

theorem over : Rows.fnExactFirstDifferenceRow.holds Try.pinned (OpenSpec.ofChange Rows.fnExactFirstDifferenceSpec) :=
  OpenClaim.holds_of_wide 7 Try.f7 rfl rfl rfl rfl rfl rfl rfl ⟨rfl, rfl, rfl, rfl, rfl⟩ rfl rfl rfl rfl rfl (by kernel_rfl) Try.func7 (by kernel_rfl)
    (of_decide_eq_true (by kernel_rfl)) (by unfold Func.isWrapper; first | (rw [if_pos (by decide +kernel)]; kernel_rfl) | (rw [if_neg (by decide +kernel)]; exact ⟨rfl, rfl⟩))
    (fun os started H enc _ => lifted os started H enc)
/-- The statement. -/
theorem proved : Rows.FnExactFirstDifferenceSaid := over
#print axioms proved
end Go.Proofs.Ytdnfgbdfnndlnaa.fnExactFirstDifference
