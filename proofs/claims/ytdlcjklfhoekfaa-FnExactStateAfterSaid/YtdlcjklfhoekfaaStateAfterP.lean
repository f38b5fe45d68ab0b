/- The law FnExactStateAfter answers true for every argument: the program's StateAfter returns what the model's returns, writes into no argument and hands back memory of its own. Conditions: none beyond the row's own. -/
import Derived.Test.YtdlcjklfhoekfaaRows
import Derived.WalkKit
import Derived.ProofKit
import Derived.OpenShut
import Derived.ShutString
import Derived.ChangeOld
import Derived.Below
import Derived.PlainAid
import Derived.Lib.Hide
import Derived.Deep.RegionHeld3
import Derived.Deep.DeepCutAuto
import Derived.Outline
import Derived.Test.YtdlcjklfhoekfaaSeqAfter
import Derived.Test.YtdlcjklfhoekfaaSeqOpen
import Derived.Test.YtdlcjklfhoekfaaSeqTo
import Derived.Test.YtdlcjklfhoekfaaSeqEq
import Derived.Test.YtdlcjklfhoekfaaSeqMark
import Derived.Test.YtdlcjklfhoekfaaSeqHeld
namespace Go.Proofs.Ytdlcjklfhoekfaa.fnExactStateAfter
open Go.ChangeShapes Go.WideShapes Go.ChangeAt Go.RowKit
open Go.ChangeMaps (open_string shut_string)
open Go.PlainAid Plain
set_option linter.unusedVariables false

theorem own : ownKnob Try.prog.godebug = none := by kernel_rfl
theorem laidOut : laidOutB Try.prog = true := by kernel_rfl
open Seqs
set_option maxHeartbeats 4000000 in
theorem walk (w : World) (v0 : Value) (b0 : Int) (rows0 : List (List Int)) (out0 : List Int) (l0 : LiesS w v0 b0 rows0 out0) (v1 : Value) (xs1 : List Int) (l1 : Lies (Value.int .i64) w v1 xs1) :
    Calls Try.prog 4 #[v0, v1] w fun e w' => e = .returned (.bool true) ∧ Below w.heap.size w w' := by
  obtain ⟨an0, cn0, ao0, co0, rfl⟩ := l0.form
  have ARG0 := Lib.hid l0
  clear l0
  have ARG1 := Lib.hid l1
  obtain ⟨il1, ia1, ic1, rfl, _, _⟩ := l1
  by_cases hs1 : xs1.length ≤ 1048576
  case neg =>
    have hd := decide_eq_true (show (xs1.length : Int) > 1048576 by omega)
    have HB_0 : Hid (Below w.heap.size w w) := Below.refl _ _
    go_enter Try.func4, Try.ntmps4
    go_wp2
    go_ret
    exact ⟨rfl, (Below.refl _ _).alloc (Nat.le_refl _) _⟩
  have hdi1 := decide_eq_false (show ¬ (xs1.length : Int) > 1048576 by omega)
  by_cases hs0 : (rows0.length + tot rows0 + out0.length) ≤ 1048576
  case neg =>
    have hq := szV_no (left := 1048576) (n := rows0.length + tot rows0 + out0.length) (by omega)
    have HQN := Lib.hid hq
    clear hq
    have HB_0 : Hid (Below w.heap.size w w) := Below.refl _ _
    go_enter Try.func4, Try.ntmps4
    go_wp2_with fail
    have bx1 : Below w.heap.size w (w.alloc (Obj.cells #[.int .i64 b0, .slice an0 rows0.length cn0, .slice ao0 out0.length co0] 25)) := (Below.refl _ _).alloc (Nat.le_refl _) _
    have cx1 := Cells3.new w 25 (.int .i64 b0) (.slice an0 rows0.length cn0) (.slice ao0 out0.length co0)
    have hz1 : (w.alloc (Obj.cells #[.int .i64 b0, .slice an0 rows0.length cn0, .slice ao0 out0.length co0] 25)).heap.size = w.heap.size + 1 := size_alloc' _ _
    obtain ⟨W1, hW1⟩ : ∃ W, W = (w.alloc (Obj.cells #[.int .i64 b0, .slice an0 rows0.length cn0, .slice ao0 out0.length co0] 25)) := ⟨_, rfl⟩
    rw [← hW1] at bx1 cx1 hz1 ⊢
    have HB_1 := Lib.hid (HB_0.out.trans (bx1.mono HB_0.out.size))
    have Z1 := Lib.hid (bx1.size)
    have CA0_1 := Lib.hid cx1
    have Z2 := Lib.hid hz1
    clear HB_0 bx1 hW1 cx1
    clear hz1
    refine (sz _ b0 rows0 out0 1048576 _ (ARG0.out.below HB_1.out) (by omega) (by omega)).mono ?_
    rintro e W2 ⟨rfl, fb2⟩
    have HB_2 := Lib.hid (HB_1.out.trans (fb2.mono HB_1.out.size))
    have CA0_2 := Lib.hid (CA0_1.out.below fb2)
    have Z3 := Lib.hid (fb2.size)
    clear CA0_1 HB_1 fb2
    rw [HQN.out]
    go_wp2
    go_ret
    exact ⟨rfl, HB_2.out⟩
  obtain ⟨q0, hq0⟩ : ∃ q : Nat, szV 1048576 (rows0.length + tot rows0 + out0.length) = (q : Int) := ⟨(1048576 - ((rows0.length + tot rows0 + out0.length : Nat) : Int)).toNat, by rw [szV_yes (by omega)]; omega⟩
  have hql0 : (q0 : Int) = 1048576 - ((rows0.length + tot rows0 + out0.length : Nat) : Int) := by rw [szV_yes (by omega)] at hq0; omega
  have HQ0 := Lib.hid hq0
  have HQL0 : (q0 : Int) ≤ 1048576 := by omega
  have hqd0 := decide_eq_false (show ¬ (q0 : Int) < 0 by omega)
  clear hq0
  have hz0 : rows0.length + tot rows0 + out0.length ≤ 1048576 := by omega
  obtain ⟨T0, hT0⟩ : ∃ T, T = tot rows0 + out0.length := ⟨_, rfl⟩
  have HT0 := Lib.hid hT0
  have hTl0 : T0 ≤ 1048576 := by omega
  have hTd0 := decide_eq_false (show ¬ (1 : Int) + (T0 : Int) < 0 by omega)
  clear hT0
  clear hql0
  have CS := Lib.hid (fun (W : World) (u0 : Value) (l0 : LiesS W u0 b0 rows0 out0) (u1 : Value) (l1 : Lies (Value.int .i64) W u1 xs1) => spec_after u0 b0 rows0 out0 W l0 u1 xs1 l1)
  have CI := Lib.hid (fun (W : World) (u0 : Value) (l0 : LiesS W u0 b0 rows0 out0) (u1 : Value) (l1 : Lies (Value.int .i64) W u1 xs1) => impl_after u0 b0 rows0 out0 W l0 u1 xs1 l1)
  obtain ⟨y, hy⟩ : ∃ y, y = afterV b0 rows0 out0 (areD b0 xs1) xs1 := ⟨_, rfl⟩
  rw [← hy] at CS CI
  clear hy
  have HB_0 : Hid (Below w.heap.size w w) := Below.refl _ _
  go_enter Try.func4, Try.ntmps4
  go_wp2_with fail
  have bx1 : Below w.heap.size w (w.alloc (Obj.cells #[.int .i64 b0, .slice an0 rows0.length cn0, .slice ao0 out0.length co0] 25)) := (Below.refl _ _).alloc (Nat.le_refl _) _
  have cx1 := Cells3.new w 25 (.int .i64 b0) (.slice an0 rows0.length cn0) (.slice ao0 out0.length co0)
  have hz1 : (w.alloc (Obj.cells #[.int .i64 b0, .slice an0 rows0.length cn0, .slice ao0 out0.length co0] 25)).heap.size = w.heap.size + 1 := size_alloc' _ _
  obtain ⟨W1, hW1⟩ : ∃ W, W = (w.alloc (Obj.cells #[.int .i64 b0, .slice an0 rows0.length cn0, .slice ao0 out0.length co0] 25)) := ⟨_, rfl⟩
  rw [← hW1] at bx1 cx1 hz1 ⊢
  have HB_1 := Lib.hid (HB_0.out.trans (bx1.mono HB_0.out.size))
  have Z1 := Lib.hid (bx1.size)
  have CA0_1 := Lib.hid cx1
  have Z2 := Lib.hid hz1
  clear HB_0 bx1 hW1 cx1
  clear hz1
  refine (sz _ b0 rows0 out0 1048576 _ (ARG0.out.below HB_1.out) (by omega) (by omega)).mono ?_
  rintro e W2 ⟨rfl, fb2⟩
  have HB_2 := Lib.hid (HB_1.out.trans (fb2.mono HB_1.out.size))
  have CA0_2 := Lib.hid (CA0_1.out.below fb2)
  have Z3 := Lib.hid (fb2.size)
  clear CA0_1 HB_1 fb2
  rw [HQ0.out]
  have kA00 := CA0_2.out.c0
  have kA01 := CA0_2.out.c1
  have kA02 := CA0_2.out.c2
  go_wp2_with fail
  clear kA00 kA01 kA02
  refine (toS _ b0 rows0 out0 _ (ARG0.out.below HB_2.out) hz0).mono ?_
  rintro e W3 ⟨vp0, rfl, h3, fb3⟩
  have HB_3 := Lib.hid (HB_2.out.trans (fb3.mono HB_2.out.size))
  have CA0_3 := Lib.hid (CA0_2.out.below fb3)
  have Z4 := Lib.hid (fb3.size)
  have Rp0_3 := Lib.hid h3
  clear CA0_2 HB_2 fb3 h3
  have kA00 := CA0_3.out.c0
  have kA01 := CA0_3.out.c1
  have kA02 := CA0_3.out.c2
  go_wp2_with fail
  clear kA00 kA01 kA02
  refine (Ints.copied _ xs1 _ (ARG1.out.below HB_3.out) hs1).mono ?_
  rintro e W4 ⟨vp1, rfl, h4, fb4⟩
  have HB_4 := Lib.hid (HB_3.out.trans (fb4.mono HB_3.out.size))
  have CA0_4 := Lib.hid (CA0_3.out.below fb4)
  have Rp0_4 := Lib.hid (Rp0_3.out.below fb4)
  have Z5 := Lib.hid (fb4.size)
  have Rp1_4 := Lib.hid (OwnI.of_gives h4)
  clear CA0_3 Rp0_3 HB_3 fb4 h4
  have kA00 := CA0_4.out.c0
  have kA01 := CA0_4.out.c1
  have kA02 := CA0_4.out.c2
  go_wp2_with fail
  clear kA00 kA01 kA02
  refine (CS.out _ _ Rp0_4.out.lies _ Rp1_4.out.lies).mono ?_
  rintro e W5 ⟨rfl, fb5⟩
  have HB_5 := Lib.hid (HB_4.out.trans (fb5.mono HB_4.out.size))
  have CA0_5 := Lib.hid (CA0_4.out.below fb5)
  have Rp0_5 := Lib.hid (Rp0_4.out.below fb5)
  have Rp1_5 := Lib.hid (Rp1_4.out.below fb5)
  have Z6 := Lib.hid (fb5.size)
  clear CA0_4 Rp0_4 Rp1_4 HB_4 fb5
  clear Rp0_5 Rp1_5
  have kA00 := CA0_5.out.c0
  have kA01 := CA0_5.out.c1
  have kA02 := CA0_5.out.c2
  go_wp2_with fail
  clear kA00 kA01 kA02
  refine (toS _ b0 rows0 out0 _ (ARG0.out.below HB_5.out) hz0).mono ?_
  rintro e W6 ⟨vx0, rfl, h6, fb6⟩
  have HB_6 := Lib.hid (HB_5.out.trans (fb6.mono HB_5.out.size))
  have CA0_6 := Lib.hid (CA0_5.out.below fb6)
  have Z7 := Lib.hid (fb6.size)
  have Rx0_6 := Lib.hid h6
  clear CA0_5 HB_5 fb6 h6
  obtain ⟨anx0, cnx0, aox0, cox0, rfl⟩ := Rx0_6.out.form
  have kA00 := (CA0_6.out.alloc (Obj.cells #[.int .i64 b0, .slice anx0 rows0.length cnx0, .slice aox0 out0.length cox0] 28)).c0
  have kA01 := (CA0_6.out.alloc (Obj.cells #[.int .i64 b0, .slice anx0 rows0.length cnx0, .slice aox0 out0.length cox0] 28)).c1
  have kA02 := (CA0_6.out.alloc (Obj.cells #[.int .i64 b0, .slice anx0 rows0.length cnx0, .slice aox0 out0.length cox0] 28)).c2
  go_wp2_with fail
  clear kA00 kA01 kA02
  have bx7 : Below W6.heap.size W6 (W6.alloc (Obj.cells #[.int .i64 b0, .slice anx0 rows0.length cnx0, .slice aox0 out0.length cox0] 28)) := (Below.refl _ _).alloc (Nat.le_refl _) _
  have cx7 := Cells3.new W6 28 (.int .i64 b0) (.slice anx0 rows0.length cnx0) (.slice aox0 out0.length cox0)
  have hz7 : (W6.alloc (Obj.cells #[.int .i64 b0, .slice anx0 rows0.length cnx0, .slice aox0 out0.length cox0] 28)).heap.size = W6.heap.size + 1 := size_alloc' _ _
  obtain ⟨W7, hW7⟩ : ∃ W, W = (W6.alloc (Obj.cells #[.int .i64 b0, .slice anx0 rows0.length cnx0, .slice aox0 out0.length cox0] 28)) := ⟨_, rfl⟩
  rw [← hW7] at bx7 cx7 hz7 ⊢
  have HB_7 := Lib.hid (HB_6.out.trans (bx7.mono HB_6.out.size))
  have CA0_7 := Lib.hid (CA0_6.out.below bx7)
  have Rx0_7 := Lib.hid (Rx0_6.out.below bx7)
  have Z8 := Lib.hid (bx7.size)
  have CX0_7 := Lib.hid cx7
  have Z9 := Lib.hid hz7
  clear CA0_6 Rx0_6 HB_6 bx7 hW7 cx7
  clear hz7
  refine (Ints.copied _ xs1 _ (ARG1.out.below HB_7.out) hs1).mono ?_
  rintro e W8 ⟨vx1, rfl, h8, fb8⟩
  have HB_8 := Lib.hid (HB_7.out.trans (fb8.mono HB_7.out.size))
  have CA0_8 := Lib.hid (CA0_7.out.below fb8)
  have CX0_8 := Lib.hid (CX0_7.out.below fb8)
  have Rx0_8 := Lib.hid (Rx0_7.out.below fb8)
  have Z10 := Lib.hid (fb8.size)
  have Rx1_8 := Lib.hid (OwnI.of_gives h8)
  clear CA0_7 CX0_7 Rx0_7 HB_7 fb8 h8
  have kA00 := CA0_8.out.c0
  have kA01 := CA0_8.out.c1
  have kA02 := CA0_8.out.c2
  have kX00 := CX0_8.out.c0
  have kX01 := CX0_8.out.c1
  have kX02 := CX0_8.out.c2
  go_wp2_with fail
  clear kA00 kA01 kA02 kX00 kX01 kX02
  refine (CI.out _ _ Rx0_8.out.lies _ Rx1_8.out.lies).mono ?_
  rintro e W9 ⟨rfl, fb9⟩
  have HB_9 := Lib.hid (HB_8.out.trans (fb9.mono HB_8.out.size))
  have CA0_9 := Lib.hid (CA0_8.out.below fb9)
  have CX0_9 := Lib.hid (CX0_8.out.below fb9)
  have Rx0_9 := Lib.hid (Rx0_8.out.below fb9)
  have Rx1_9 := Lib.hid (Rx1_8.out.below fb9)
  have Z11 := Lib.hid (fb9.size)
  clear CA0_8 CX0_8 Rx0_8 Rx1_8 HB_8 fb9
  have kA00 := CA0_9.out.c0
  have kA01 := CA0_9.out.c1
  have kA02 := CA0_9.out.c2
  have kX00 := CX0_9.out.c0
  have kX01 := CX0_9.out.c1
  have kX02 := CX0_9.out.c2
  go_wp2_with fail
  clear kA00 kA01 kA02 kX00 kX01 kX02
  have bd10 := below_drew' W9
  obtain ⟨W10, hW10⟩ : ∃ W, W = W9.drew := ⟨_, rfl⟩
  rw [← hW10] at bd10
  have HB_10 := Lib.hid (HB_9.out.trans (bd10.mono HB_9.out.size))
  have CA0_10 := Lib.hid (CA0_9.out.below bd10)
  have CX0_10 := Lib.hid (CX0_9.out.below bd10)
  have Rx0_10 := Lib.hid (Rx0_9.out.below bd10)
  have Rx1_10 := Lib.hid (Rx1_9.out.below bd10)
  have Z12 := Lib.hid (bd10.size)
  clear CA0_9 CX0_9 Rx0_9 Rx1_9 HB_9 bd10
  go_region_held3 (fun w' => w'.cell? ⟨W6.heap.size, 0, none⟩ = some (.int .i64 b0) ∧ w'.cell? ⟨W6.heap.size, 1, none⟩ = some (.slice anx0 rows0.length cnx0) ∧ w'.cell? ⟨W6.heap.size, 2, none⟩ = some (.slice aox0 out0.length cox0) ∧ w'.cell? ⟨w.heap.size, 0, none⟩ = some (.int .i64 b0) ∧ w'.cell? ⟨w.heap.size, 1, none⟩ = some (.slice an0 rows0.length cn0) ∧ w'.cell? ⟨w.heap.size, 2, none⟩ = some (.slice ao0 out0.length co0))
    (first | (rw [← hW10]; exact ⟨CX0_10.out.c0, CX0_10.out.c1, CX0_10.out.c2, CA0_10.out.c0, CA0_10.out.c1, CA0_10.out.c2⟩) | exact ⟨(CX0_10.out.below bt).c0, (CX0_10.out.below bt).c1, (CX0_10.out.below bt).c2, (CA0_10.out.below bt).c0, (CA0_10.out.below bt).c1, (CA0_10.out.below bt).c2⟩ | exact ⟨((CX0_10.out.below bt).below bu).c0, ((CX0_10.out.below bt).below bu).c1, ((CX0_10.out.below bt).below bu).c2, ((CA0_10.out.below bt).below bu).c0, ((CA0_10.out.below bt).below bu).c1, ((CA0_10.out.below bt).below bu).c2⟩)
    (first | (go_at_call 12; rw [← hW10]; refine (toS _ b0 rows0 out0 _ (ARG0.out.below HB_10.out) hz0).mono ?_; rintro e W11 ⟨vt, rfl, ht, bt⟩) | (go_at_call 14; refine (eqS _ _ b0 rows0 out0 _ (Rx0_10.out.below bt).lies ht.lies).mono ?_; rintro e W12 ⟨rfl, bu⟩))
  have HB_11 := Lib.hid (HB_10.out.trans (bt.mono HB_10.out.size))
  have CA0_11 := Lib.hid (CA0_10.out.below bt)
  have CX0_11 := Lib.hid (CX0_10.out.below bt)
  have Rx0_11 := Lib.hid (Rx0_10.out.below bt)
  have Rx1_11 := Lib.hid (Rx1_10.out.below bt)
  have Z13 := Lib.hid (bt.size)
  have HB_12 := Lib.hid (HB_11.out.trans (bu.mono HB_11.out.size))
  have CA0_12 := Lib.hid (CA0_11.out.below bu)
  have CX0_12 := Lib.hid (CX0_11.out.below bu)
  have Rx0_12 := Lib.hid (Rx0_11.out.below bu)
  have Rx1_12 := Lib.hid (Rx1_11.out.below bu)
  have Z14 := Lib.hid (bu.size)
  clear CA0_10 CX0_10 Rx0_10 Rx1_10 HB_10 CA0_11 CX0_11 Rx0_11 Rx1_11 HB_11 bt bu ht hW10
  clear Rx0_12 CX0_12
  have kA00 := CA0_12.out.c0
  have kA01 := CA0_12.out.c1
  have kA02 := CA0_12.out.c2
  go_wp2_with fail
  clear kA00 kA01 kA02
  refine (Ints.copied _ xs1 _ (ARG1.out.below HB_12.out) hs1).mono ?_
  rintro e W13 ⟨vy1, rfl, h13, fb13⟩
  have HB_13 := Lib.hid (HB_12.out.trans (fb13.mono HB_12.out.size))
  have CA0_13 := Lib.hid (CA0_12.out.below fb13)
  have Rx1_13 := Lib.hid (Rx1_12.out.below fb13)
  have Z15 := Lib.hid (fb13.size)
  have Ry1_13 := Lib.hid (OwnI.of_gives h13)
  clear CA0_12 Rx1_12 HB_12 fb13 h13
  clear CA0_13
  go_wp2_with fail
  refine (Ints.eq_yes _ _ xs1 _ Rx1_13.out.lies Ry1_13.out.lies).mono ?_
  rintro e W14 ⟨rfl, fb14⟩
  have HB_14 := Lib.hid (HB_13.out.trans (fb14.mono HB_13.out.size))
  have Rx1_14 := Lib.hid (Rx1_13.out.below fb14)
  have Ry1_14 := Lib.hid (Ry1_13.out.below fb14)
  have Z16 := Lib.hid (fb14.size)
  clear Rx1_13 Ry1_13 HB_13 fb14
  clear Rx1_14 Ry1_14
  go_wp2
  go_ret
  exact ⟨rfl, HB_14.out⟩


set_option maxRecDepth 100000 in
theorem lifted (os : Os) (started : os.Started) (H : Type) (enc : TypeId × Value → H) :
    ReturnsInHanded {} Try.checked os 4 .any (Rows.fnExactStateAfterSpec.pre6 enc Try.prog Try.f4 Rows.fnExactStateAfterRow.domain false) (Rows.fnExactStateAfterSpec.post enc Try.prog Try.f4 false true false false) := by
  refine returnsInHanded_of_change (C := Try.checked) own started (by kernel_rfl) Try.func4
    (ChangeSpec.witness6 (enc := enc) (C := Try.checked) false ⟨#[], #[.agg #[.int .i64 0, .slice none 0 0, .slice none 0 0], .slice none 0 0], []⟩ 8 (by kernel_rfl) (by kernel_rfl) (by kernel_rfl) (by kernel_rfl)) ?_
  intro W base args ds gs before hval0 hW hcnd _
  have hval : ∀ (j : Nat) t v, Try.f4.params[j]? = some t → args[j]? = some v → Value.okWide Try.prog W .any base t v := hval0
  have hW' := hW
  obtain ⟨p, q, hA0, hV, rfl, hfz, hnd⟩ := hW
  have hA : DataW.TrodAll enc Try.prog W 0 (fun _ => true) true Try.f4.params.toList args.toList ds p := hA0
  rw [Try.params4] at hA hval
  obtain ⟨v0, vs0, d0, ds0, p0, q0, hargs, rfl, rfl, h0, r0⟩ := trodAll_cons hA
  obtain ⟨v1, vs1, d1, ds1, p1, q1, rfl, rfl, rfl, h1, r1⟩ := trodAll_cons r0
  obtain ⟨rfl, rfl, rfl⟩ := trodAll_nil r1
  obtain rfl : args = #[v0, v1] := by cases args; simp_all
  obtain ⟨rfl, rfl⟩ := trodVars_none hV
  have k0 := h0
  have lt0 : ∀ x ∈ p0, x.block < W.heap.size := by obtain ⟨m, hm⟩ := k0; exact DataW.trod_lt m _ _ _ hm
  obtain ⟨b0, rows0, out0, l0⟩ := Seqs.open_seq (hval 0 25 v0 rfl rfl) h0
  have k1 := h1
  have lt1 : ∀ x ∈ p1, x.block < W.heap.size := by obtain ⟨m, hm⟩ := k1; exact DataW.trod_lt m _ _ _ hm
  obtain ⟨xs1, l1⟩ := Seqs.open_list h1 (okWide_slice Try.underlying23 (hval 1 23 v1 rfl rfl))
  clear hA0 hval0
  refine (walk W v0 b0 rows0 out0 l0 v1 xs1 l1).mono fun e W' ⟨he, hg⟩ => ?_
  subst he
  exact ⟨_, rfl, _, _, _, [], _, [], hW', trodAll_mk1 (shut_bool Try.underlying4 _), (trodAll_cons_mk (Below.trod laidOut (by kernel_rfl) (of_decide_eq_true (by kernel_rfl)) k0 hg lt0) (trodAll_cons_mk (Below.trod laidOut (by kernel_rfl) (of_decide_eq_true (by kernel_rfl)) k1 hg lt1) trodAll_mk0)), rfl, hg.frame _, fun h => by cases h⟩

theorem over : Rows.fnExactStateAfterRow.holds Try.pinned (OpenSpec.ofChange Rows.fnExactStateAfterSpec) :=
  OpenClaim.holds_of_wide 4 Try.f4 rfl rfl rfl rfl rfl rfl rfl ⟨rfl, rfl, rfl, rfl, rfl⟩ rfl rfl rfl rfl rfl (by kernel_rfl) Try.func4 (by kernel_rfl)
    (of_decide_eq_true (by kernel_rfl)) (by unfold Func.isWrapper; first | (rw [if_pos (by decide +kernel)]; kernel_rfl) | (rw [if_neg (by decide +kernel)]; exact ⟨rfl, rfl⟩))
    (fun os started H enc _ => lifted os started H enc)
/-- The statement. -/
theorem proved : Rows.FnExactStateAfterSaid := over
#print axioms proved
end Go.Proofs.Ytdlcjklfhoekfaa.fnExactStateAfter
