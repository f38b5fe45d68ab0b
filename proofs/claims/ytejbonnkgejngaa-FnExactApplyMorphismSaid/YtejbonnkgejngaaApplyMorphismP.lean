/- The law FnExactApplyMorphism answers true for every argument: the program's ApplyMorphism returns what the model's returns, writes into no argument and hands back memory of its own. Conditions: none beyond the row's own. -/
import Derived.Test.YtejbonnkgejngaaRows
import Derived.WalkKit
import Derived.ProofKit
import Derived.OpenShut
import Derived.ShutString
import Derived.ChangeOld
import Derived.Below
import Derived.PlainAid
import Derived.Lib.Hide
import Derived.Deep.RegionHeld3
import Derived.Deep.DeepCutAuto
import Derived.Outline
import Derived.Test.YtejbonnkgejngaaAddI
import Derived.Test.YtejbonnkgejngaaSeqMark2
namespace Go.Proofs.Ytejbonnkgejngaa.fnExactApplyMorphism
open Go.ChangeShapes Go.WideShapes Go.ChangeAt Go.RowKit
open Go.ChangeMaps (open_string shut_string)
open Go.PlainAid Plain
set_option linter.unusedVariables false

theorem own : ownKnob Try.prog.godebug = none := by kernel_rfl
theorem laidOut : laidOutB Try.prog = true := by kernel_rfl
open Seqs
set_option maxRecDepth 100000 in
set_option maxHeartbeats 4000000 in
theorem walk (w : World) (v0 : Value) (m0 : List (List Int)) (l0 : LiesM w v0 m0) (v1 : Value) (xs1 : List Int) (l1 : Lies (Value.int .i64) w v1 xs1) :
    Calls Try.prog 6 #[v0, v1] w fun e w' => e = .returned (.bool true) ∧ Below w.heap.size w w' := by
  obtain ⟨an0, cn0, rfl⟩ := l0.form
  have ARG0 := Lib.hid l0
  clear l0
  have ARG1 := Lib.hid l1
  obtain ⟨il1, ia1, ic1, rfl, _, _⟩ := l1
  by_cases hs1 : xs1.length ≤ 1048576
  case neg =>
    have hd := decide_eq_true (show (xs1.length : Int) > 1048576 by omega)
    have HB_0 : Hid (Below w.heap.size w w) := Below.refl _ _
    go_enter Try.func6, Try.ntmps6
    go_wp2
    go_ret
    exact ⟨rfl, (Below.refl _ _).alloc (Nat.le_refl _) _⟩
  have hdi1 := decide_eq_false (show ¬ (xs1.length : Int) > 1048576 by omega)
  by_cases hs0 : (m0.length + tot m0) ≤ 1048576
  case neg =>
    have hq := szV_no (left := 1048576) (n := m0.length + tot m0) (by omega)
    have HQN := Lib.hid hq
    clear hq
    have HB_0 : Hid (Below w.heap.size w w) := Below.refl _ _
    go_enter Try.func6, Try.ntmps6
    go_wp2_with fail
    have bx1 : Below w.heap.size w (w.alloc (Obj.cells #[.slice an0 m0.length cn0] 28)) := (Below.refl _ _).alloc (Nat.le_refl _) _
    have cx1 := Cells1.new w 28 (.slice an0 m0.length cn0)
    have hz1 : (w.alloc (Obj.cells #[.slice an0 m0.length cn0] 28)).heap.size = w.heap.size + 1 := size_alloc' _ _
    obtain ⟨W1, hW1⟩ : ∃ W, W = (w.alloc (Obj.cells #[.slice an0 m0.length cn0] 28)) := ⟨_, rfl⟩
    rw [← hW1] at bx1 cx1 hz1 ⊢
    have HB_1 := Lib.hid (HB_0.out.trans (bx1.mono HB_0.out.size))
    have Z1 := Lib.hid (bx1.size)
    have CA0_1 := Lib.hid cx1
    have Z2 := Lib.hid hz1
    clear HB_0 bx1 hW1 cx1
    clear hz1
    refine (Mor.szM _ m0 1048576 _ (ARG0.out.below HB_1.out) (by omega) (by omega)).mono ?_
    rintro e W2 ⟨rfl, fb2⟩
    have HB_2 := Lib.hid (HB_1.out.trans (fb2.mono HB_1.out.size))
    have CA0_2 := Lib.hid (CA0_1.out.below fb2)
    have Z3 := Lib.hid (fb2.size)
    clear CA0_1 HB_1 fb2
    rw [HQN.out]
    go_wp2
    go_ret
    exact ⟨rfl, HB_2.out⟩
  obtain ⟨q0, hq0⟩ : ∃ q : Nat, szV 1048576 (m0.length + tot m0) = (q : Int) := ⟨(1048576 - ((m0.length + tot m0 : Nat) : Int)).toNat, by rw [szV_yes (by omega)]; omega⟩
  have hql0 : (q0 : Int) = 1048576 - ((m0.length + tot m0 : Nat) : Int) := by rw [szV_yes (by omega)] at hq0; omega
  have HQ0 := Lib.hid hq0
  have HQL0 : (q0 : Int) ≤ 1048576 := by omega
  have hqd0 := decide_eq_false (show ¬ (q0 : Int) < 0 by omega)
  clear hq0
  have hz0 : m0.length + tot m0 ≤ 1048576 := by omega
  obtain ⟨T0, hT0⟩ : ∃ T, T = tot m0 := ⟨_, rfl⟩
  have HT0 := Lib.hid hT0
  have hTl0 : T0 ≤ 1048576 := by omega
  have hTd0 := decide_eq_false (show ¬ (1 : Int) + (T0 : Int) < 0 by omega)
  clear hT0
  clear hql0
  have CS := Lib.hid (fun (W : World) (u0 : Value) (l0 : LiesM W u0 m0) (u1 : Value) (l1 : Lies (Value.int .i64) W u1 xs1) => Mor.spec_app u0 u1 m0 xs1 W l0 l1)
  have CI := Lib.hid (fun (W : World) (u0 : Value) (l0 : LiesM W u0 m0) (u1 : Value) (l1 : Lies (Value.int .i64) W u1 xs1) => Mor.impl_app u0 u1 m0 xs1 W l0 l1)
  obtain ⟨ys, hys⟩ : ∃ ys, ys = appV m0 xs1 := ⟨_, rfl⟩
  have hyl : ys.length ≤ 400 := by rw [hys]; exact appV_len _ _
  have hky := decide_eq_false (show ¬ (1 : Int) + (ys.length : Int) < 0 by omega)
  rw [← hys] at CS CI
  clear hys
  obtain ⟨yk, hyk⟩ : ∃ y, y = appK m0 xs1 := ⟨_, rfl⟩
  rw [← hyk] at CS CI
  clear hyk
  have hkk : (yk != yk) = false := by simp
  have HB_0 : Hid (Below w.heap.size w w) := Below.refl _ _
  go_enter Try.func6, Try.ntmps6
  go_wp2_with fail
  have bx1 : Below w.heap.size w (w.alloc (Obj.cells #[.slice an0 m0.length cn0] 28)) := (Below.refl _ _).alloc (Nat.le_refl _) _
  have cx1 := Cells1.new w 28 (.slice an0 m0.length cn0)
  have hz1 : (w.alloc (Obj.cells #[.slice an0 m0.length cn0] 28)).heap.size = w.heap.size + 1 := size_alloc' _ _
  obtain ⟨W1, hW1⟩ : ∃ W, W = (w.alloc (Obj.cells #[.slice an0 m0.length cn0] 28)) := ⟨_, rfl⟩
  rw [← hW1] at bx1 cx1 hz1 ⊢
  have HB_1 := Lib.hid (HB_0.out.trans (bx1.mono HB_0.out.size))
  have Z1 := Lib.hid (bx1.size)
  have CA0_1 := Lib.hid cx1
  have Z2 := Lib.hid hz1
  clear HB_0 bx1 hW1 cx1
  clear hz1
  refine (Mor.szM _ m0 1048576 _ (ARG0.out.below HB_1.out) (by omega) (by omega)).mono ?_
  rintro e W2 ⟨rfl, fb2⟩
  have HB_2 := Lib.hid (HB_1.out.trans (fb2.mono HB_1.out.size))
  have CA0_2 := Lib.hid (CA0_1.out.below fb2)
  have Z3 := Lib.hid (fb2.size)
  clear CA0_1 HB_1 fb2
  rw [HQ0.out]
  have kA00 := CA0_2.out.c0
  go_wp2_with fail
  clear kA00
  refine (Mor.toM _ m0 _ (ARG0.out.below HB_2.out) hz0).mono ?_
  rintro e W3 ⟨vp0, rfl, h3, fb3⟩
  have HB_3 := Lib.hid (HB_2.out.trans (fb3.mono HB_2.out.size))
  have CA0_3 := Lib.hid (CA0_2.out.below fb3)
  have Z4 := Lib.hid (fb3.size)
  have Rp0_3 := Lib.hid h3
  clear CA0_2 HB_2 fb3 h3
  have kA00 := CA0_3.out.c0
  go_wp2_with fail
  clear kA00
  refine (Ints.copied _ xs1 _ (ARG1.out.below HB_3.out) hs1).mono ?_
  rintro e W4 ⟨vp1, rfl, h4, fb4⟩
  have HB_4 := Lib.hid (HB_3.out.trans (fb4.mono HB_3.out.size))
  have CA0_4 := Lib.hid (CA0_3.out.below fb4)
  have Rp0_4 := Lib.hid (Rp0_3.out.below fb4)
  have Z5 := Lib.hid (fb4.size)
  have Rp1_4 := Lib.hid (OwnI.of_gives h4)
  clear CA0_3 Rp0_3 HB_3 fb4 h4
  have kA00 := CA0_4.out.c0
  go_wp2_with fail
  clear kA00
  refine (CS.out _ _ Rp0_4.out.lies _ Rp1_4.out.lies).mono ?_
  rintro e W5 ⟨vp, rfl, h5, fb5⟩
  have HB_5 := Lib.hid (HB_4.out.trans (fb5.mono HB_4.out.size))
  have CA0_5 := Lib.hid (CA0_4.out.below fb5)
  have Rp0_5 := Lib.hid (Rp0_4.out.below fb5)
  have Rp1_5 := Lib.hid (Rp1_4.out.below fb5)
  have Z6 := Lib.hid (fb5.size)
  have Rp_5 := Lib.hid (OwnI.of_gives h5)
  clear CA0_4 Rp0_4 Rp1_4 HB_4 fb5 h5
  clear Rp0_5 Rp1_5
  have kA00 := CA0_5.out.c0
  go_wp2_with fail
  clear kA00
  refine (Mor.toM _ m0 _ (ARG0.out.below HB_5.out) hz0).mono ?_
  rintro e W6 ⟨vx0, rfl, h6, fb6⟩
  have HB_6 := Lib.hid (HB_5.out.trans (fb6.mono HB_5.out.size))
  have CA0_6 := Lib.hid (CA0_5.out.below fb6)
  have Rp_6 := Lib.hid (Rp_5.out.below fb6)
  have Z7 := Lib.hid (fb6.size)
  have Rx0_6 := Lib.hid h6
  clear CA0_5 Rp_5 HB_5 fb6 h6
  obtain ⟨anx0, cnx0, rfl⟩ := Rx0_6.out.form
  have kA00 := (CA0_6.out.alloc (Obj.cells #[.slice anx0 m0.length cnx0] 31)).c0
  go_wp2_with fail
  clear kA00
  have bx7 : Below W6.heap.size W6 (W6.alloc (Obj.cells #[.slice anx0 m0.length cnx0] 31)) := (Below.refl _ _).alloc (Nat.le_refl _) _
  have cx7 := Cells1.new W6 31 (.slice anx0 m0.length cnx0)
  have hz7 : (W6.alloc (Obj.cells #[.slice anx0 m0.length cnx0] 31)).heap.size = W6.heap.size + 1 := size_alloc' _ _
  obtain ⟨W7, hW7⟩ : ∃ W, W = (W6.alloc (Obj.cells #[.slice anx0 m0.length cnx0] 31)) := ⟨_, rfl⟩
  rw [← hW7] at bx7 cx7 hz7 ⊢
  have HB_7 := Lib.hid (HB_6.out.trans (bx7.mono HB_6.out.size))
  have CA0_7 := Lib.hid (CA0_6.out.below bx7)
  have Rp_7 := Lib.hid (Rp_6.out.below bx7)
  have Rx0_7 := Lib.hid (Rx0_6.out.below bx7)
  have Z8 := Lib.hid (bx7.size)
  have CX0_7 := Lib.hid cx7
  have Z9 := Lib.hid hz7
  clear CA0_6 Rp_6 Rx0_6 HB_6 bx7 hW7 cx7
  clear hz7
  refine (Ints.copied _ xs1 _ (ARG1.out.below HB_7.out) hs1).mono ?_
  rintro e W8 ⟨vx1, rfl, h8, fb8⟩
  have HB_8 := Lib.hid (HB_7.out.trans (fb8.mono HB_7.out.size))
  have CA0_8 := Lib.hid (CA0_7.out.below fb8)
  have CX0_8 := Lib.hid (CX0_7.out.below fb8)
  have Rp_8 := Lib.hid (Rp_7.out.below fb8)
  have Rx0_8 := Lib.hid (Rx0_7.out.below fb8)
  have Z10 := Lib.hid (fb8.size)
  have Rx1_8 := Lib.hid (OwnI.of_gives h8)
  clear CA0_7 CX0_7 Rp_7 Rx0_7 HB_7 fb8 h8
  have kA00 := CA0_8.out.c0
  have kX00 := CX0_8.out.c0
  go_wp2_with fail
  clear kA00 kX00
  refine (CI.out _ _ Rx0_8.out.lies _ Rx1_8.out.lies).mono ?_
  rintro e W9 ⟨vg, rfl, h9, fb9⟩
  have HB_9 := Lib.hid (HB_8.out.trans (fb9.mono HB_8.out.size))
  have CA0_9 := Lib.hid (CA0_8.out.below fb9)
  have CX0_9 := Lib.hid (CX0_8.out.below fb9)
  have Rp_9 := Lib.hid (Rp_8.out.below fb9)
  have Rx0_9 := Lib.hid (Rx0_8.out.below fb9)
  have Rx1_9 := Lib.hid (Rx1_8.out.below fb9)
  have Z11 := Lib.hid (fb9.size)
  have Rg_9 := Lib.hid (OwnI.of_gives h9)
  clear CA0_8 CX0_8 Rp_8 Rx0_8 Rx1_8 HB_8 fb9 h9
  have kA00 := CA0_9.out.c0
  have kX00 := CX0_9.out.c0
  go_wp2_with fail
  clear kA00 kX00
  refine (Ints.eq_yes _ _ ys _ Rg_9.out.lies Rp_9.out.lies).mono ?_
  rintro e W10 ⟨rfl, fb10⟩
  have HB_10 := Lib.hid (HB_9.out.trans (fb10.mono HB_9.out.size))
  have CA0_10 := Lib.hid (CA0_9.out.below fb10)
  have CX0_10 := Lib.hid (CX0_9.out.below fb10)
  have Rp_10 := Lib.hid (Rp_9.out.below fb10)
  have Rx0_10 := Lib.hid (Rx0_9.out.below fb10)
  have Rx1_10 := Lib.hid (Rx1_9.out.below fb10)
  have Rg_10 := Lib.hid (Rg_9.out.below fb10)
  have Z12 := Lib.hid (fb10.size)
  clear CA0_9 CX0_9 Rp_9 Rx0_9 Rx1_9 Rg_9 HB_9 fb10
  have kA00 := CA0_10.out.c0
  have kX00 := CX0_10.out.c0
  go_wp2_with fail
  clear kA00 kX00
  have bd11 := below_drew' W10
  obtain ⟨W11, hW11⟩ : ∃ W, W = W10.drew := ⟨_, rfl⟩
  rw [← hW11] at bd11
  have HB_11 := Lib.hid (HB_10.out.trans (bd11.mono HB_10.out.size))
  have CA0_11 := Lib.hid (CA0_10.out.below bd11)
  have CX0_11 := Lib.hid (CX0_10.out.below bd11)
  have Rp_11 := Lib.hid (Rp_10.out.below bd11)
  have Rx0_11 := Lib.hid (Rx0_10.out.below bd11)
  have Rx1_11 := Lib.hid (Rx1_10.out.below bd11)
  have Rg_11 := Lib.hid (Rg_10.out.below bd11)
  have Z13 := Lib.hid (bd11.size)
  clear CA0_10 CX0_10 Rp_10 Rx0_10 Rx1_10 Rg_10 HB_10 bd11
  go_region_held3 (fun w' => w'.cell? ⟨W6.heap.size, 0, none⟩ = some (.slice anx0 m0.length cnx0) ∧ w'.cell? ⟨w.heap.size, 0, none⟩ = some (.slice an0 m0.length cn0))
    (first | (rw [← hW11]; exact ⟨CX0_11.out.c0, CA0_11.out.c0⟩) | exact ⟨(CX0_11.out.below bt).c0, (CA0_11.out.below bt).c0⟩ | exact ⟨((CX0_11.out.below bt).below bu).c0, ((CA0_11.out.below bt).below bu).c0⟩)
    (first | (go_at_call 16; rw [← hW11]; refine (Mor.toM _ m0 _ (ARG0.out.below HB_11.out) hz0).mono ?_; rintro e W12 ⟨vt, rfl, ht, bt⟩) | (go_at_call 18; refine (Mor.eqM _ _ m0 _ (Rx0_11.out.below bt).lies ht.lies).mono ?_; rintro e W13 ⟨rfl, bu⟩))
  have HB_12 := Lib.hid (HB_11.out.trans (bt.mono HB_11.out.size))
  have CA0_12 := Lib.hid (CA0_11.out.below bt)
  have CX0_12 := Lib.hid (CX0_11.out.below bt)
  have Rp_12 := Lib.hid (Rp_11.out.below bt)
  have Rx0_12 := Lib.hid (Rx0_11.out.below bt)
  have Rx1_12 := Lib.hid (Rx1_11.out.below bt)
  have Rg_12 := Lib.hid (Rg_11.out.below bt)
  have Z14 := Lib.hid (bt.size)
  have HB_13 := Lib.hid (HB_12.out.trans (bu.mono HB_12.out.size))
  have CA0_13 := Lib.hid (CA0_12.out.below bu)
  have CX0_13 := Lib.hid (CX0_12.out.below bu)
  have Rp_13 := Lib.hid (Rp_12.out.below bu)
  have Rx0_13 := Lib.hid (Rx0_12.out.below bu)
  have Rx1_13 := Lib.hid (Rx1_12.out.below bu)
  have Rg_13 := Lib.hid (Rg_12.out.below bu)
  have Z15 := Lib.hid (bu.size)
  clear CA0_11 CX0_11 Rp_11 Rx0_11 Rx1_11 Rg_11 HB_11 CA0_12 CX0_12 Rp_12 Rx0_12 Rx1_12 Rg_12 HB_12 bt bu ht hW11
  have kA00 := CA0_13.out.c0
  have kX00 := CX0_13.out.c0
  go_wp2_with fail
  clear kA00 kX00
  refine (Ints.copied _ xs1 _ (ARG1.out.below HB_13.out) hs1).mono ?_
  rintro e W14 ⟨vy1, rfl, h14, fb14⟩
  have HB_14 := Lib.hid (HB_13.out.trans (fb14.mono HB_13.out.size))
  have CA0_14 := Lib.hid (CA0_13.out.below fb14)
  have CX0_14 := Lib.hid (CX0_13.out.below fb14)
  have Rp_14 := Lib.hid (Rp_13.out.below fb14)
  have Rx0_14 := Lib.hid (Rx0_13.out.below fb14)
  have Rx1_14 := Lib.hid (Rx1_13.out.below fb14)
  have Rg_14 := Lib.hid (Rg_13.out.below fb14)
  have Z16 := Lib.hid (fb14.size)
  have Ry1_14 := Lib.hid (OwnI.of_gives h14)
  clear CA0_13 CX0_13 Rp_13 Rx0_13 Rx1_13 Rg_13 HB_13 fb14 h14
  have kA00 := CA0_14.out.c0
  have kX00 := CX0_14.out.c0
  go_wp2_with fail
  clear kA00 kX00
  refine (Ints.eq_yes _ _ xs1 _ Rx1_14.out.lies Ry1_14.out.lies).mono ?_
  rintro e W15 ⟨rfl, fb15⟩
  have HB_15 := Lib.hid (HB_14.out.trans (fb15.mono HB_14.out.size))
  have CA0_15 := Lib.hid (CA0_14.out.below fb15)
  have CX0_15 := Lib.hid (CX0_14.out.below fb15)
  have Rp_15 := Lib.hid (Rp_14.out.below fb15)
  have Rx0_15 := Lib.hid (Rx0_14.out.below fb15)
  have Rx1_15 := Lib.hid (Rx1_14.out.below fb15)
  have Rg_15 := Lib.hid (Rg_14.out.below fb15)
  have Ry1_15 := Lib.hid (Ry1_14.out.below fb15)
  have Z17 := Lib.hid (fb15.size)
  clear CA0_14 CX0_14 Rp_14 Rx0_14 Rx1_14 Rg_14 Ry1_14 HB_14 fb15
  clear Ry1_15
  have kA00 := CA0_15.out.c0
  have kX00 := CX0_15.out.c0
  go_wp2_with fail
  clear kA00 kX00
  refine (Mor.markMk _ m0 T0 _ _ _ ((1 : Int)) HT0.out Rx0_15.out (by omega) (by omega) (by omega)).mono ?_
  rintro e W16 ⟨rfl, h16, t16⟩
  have HB_16 := Lib.hid (t16.below HB_15.out (by have := Z1.out; have := Z2.out; have := Z3.out; have := Z4.out; have := Z5.out; have := Z6.out; have := Z7.out; have := Z8.out; have := Z9.out; have := Z10.out; have := Z11.out; have := Z12.out; have := Z13.out; have := Z14.out; have := Z15.out; have := Z16.out; have := Z17.out; omega))
  have CA0_16 := Lib.hid (CA0_15.out.touch t16 (by have := Z1.out; have := Z2.out; have := Z3.out; have := Z4.out; have := Z5.out; have := Z6.out; have := Z7.out; have := Z8.out; have := Z9.out; have := Z10.out; have := Z11.out; have := Z12.out; have := Z13.out; have := Z14.out; have := Z15.out; have := Z16.out; have := Z17.out; omega))
  have CX0_16 := Lib.hid (CX0_15.out.touch t16 (by have := Z1.out; have := Z2.out; have := Z3.out; have := Z4.out; have := Z5.out; have := Z6.out; have := Z7.out; have := Z8.out; have := Z9.out; have := Z10.out; have := Z11.out; have := Z12.out; have := Z13.out; have := Z14.out; have := Z15.out; have := Z16.out; have := Z17.out; omega))
  have Rp_16 := Lib.hid (Rp_15.out.touch t16 (by have := Z1.out; have := Z2.out; have := Z3.out; have := Z4.out; have := Z5.out; have := Z6.out; have := Z7.out; have := Z8.out; have := Z9.out; have := Z10.out; have := Z11.out; have := Z12.out; have := Z13.out; have := Z14.out; have := Z15.out; have := Z16.out; have := Z17.out; omega))
  have Rx1_16 := Lib.hid (Rx1_15.out.touch t16 (by have := Z1.out; have := Z2.out; have := Z3.out; have := Z4.out; have := Z5.out; have := Z6.out; have := Z7.out; have := Z8.out; have := Z9.out; have := Z10.out; have := Z11.out; have := Z12.out; have := Z13.out; have := Z14.out; have := Z15.out; have := Z16.out; have := Z17.out; omega))
  have Rg_16 := Lib.hid (Rg_15.out.touch t16 (by have := Z1.out; have := Z2.out; have := Z3.out; have := Z4.out; have := Z5.out; have := Z6.out; have := Z7.out; have := Z8.out; have := Z9.out; have := Z10.out; have := Z11.out; have := Z12.out; have := Z13.out; have := Z14.out; have := Z15.out; have := Z16.out; have := Z17.out; omega))
  have Z18 := Lib.hid (t16.size)
  have Rx0_16 := Lib.hid h16
  clear CA0_15 CX0_15 Rp_15 Rx0_15 Rx1_15 Rg_15 HB_15 t16 h16
  clear Rx0_16 CX0_16
  have kA00 := CA0_16.out.c0
  go_wp2_with fail
  clear kA00
  refine (markIk _ xs1 _ _ _ ((1 : Int) + (T0 : Int)) Rx1_16.out (by omega) (by omega) (by omega)).mono ?_
  rintro e W17 ⟨rfl, h17, t17⟩
  have HB_17 := Lib.hid (t17.below HB_16.out (by have := Z1.out; have := Z2.out; have := Z3.out; have := Z4.out; have := Z5.out; have := Z6.out; have := Z7.out; have := Z8.out; have := Z9.out; have := Z10.out; have := Z11.out; have := Z12.out; have := Z13.out; have := Z14.out; have := Z15.out; have := Z16.out; have := Z17.out; have := Z18.out; omega))
  have CA0_17 := Lib.hid (CA0_16.out.touch t17 (by have := Z1.out; have := Z2.out; have := Z3.out; have := Z4.out; have := Z5.out; have := Z6.out; have := Z7.out; have := Z8.out; have := Z9.out; have := Z10.out; have := Z11.out; have := Z12.out; have := Z13.out; have := Z14.out; have := Z15.out; have := Z16.out; have := Z17.out; have := Z18.out; omega))
  have Rp_17 := Lib.hid (Rp_16.out.touch t17 (by have := Z1.out; have := Z2.out; have := Z3.out; have := Z4.out; have := Z5.out; have := Z6.out; have := Z7.out; have := Z8.out; have := Z9.out; have := Z10.out; have := Z11.out; have := Z12.out; have := Z13.out; have := Z14.out; have := Z15.out; have := Z16.out; have := Z17.out; have := Z18.out; omega))
  have Rg_17 := Lib.hid (Rg_16.out.touch t17 (by have := Z1.out; have := Z2.out; have := Z3.out; have := Z4.out; have := Z5.out; have := Z6.out; have := Z7.out; have := Z8.out; have := Z9.out; have := Z10.out; have := Z11.out; have := Z12.out; have := Z13.out; have := Z14.out; have := Z15.out; have := Z16.out; have := Z17.out; have := Z18.out; omega))
  have Z19 := Lib.hid (t17.size)
  have Rx1_17 := Lib.hid h17
  clear CA0_16 Rp_16 Rx1_16 Rg_16 HB_16 t17 h17
  clear Rx1_17
  have hkd := decide_eq_false (show ¬ (1 : Int) + (T0 : Int) + (xs1.length : Int) < 0 by omega)
  have kA00 := CA0_17.out.c0
  go_wp2_with fail
  clear kA00
  refine (Ints.eq_yes _ _ ys _ Rg_17.out.lies Rp_17.out.lies).mono ?_
  rintro e W18 ⟨rfl, fb18⟩
  have HB_18 := Lib.hid (HB_17.out.trans (fb18.mono HB_17.out.size))
  have CA0_18 := Lib.hid (CA0_17.out.below fb18)
  have Rp_18 := Lib.hid (Rp_17.out.below fb18)
  have Rg_18 := Lib.hid (Rg_17.out.below fb18)
  have Z20 := Lib.hid (fb18.size)
  clear CA0_17 Rp_17 Rg_17 HB_17 fb18
  have kA00 := CA0_18.out.c0
  go_wp2_with fail
  clear kA00
  refine (markI' _ ys _ _ _ Rg_18.out (by omega)).mono ?_
  rintro e W19 ⟨rfl, h19, t19⟩
  have HB_19 := Lib.hid (t19.below HB_18.out (by have := Z1.out; have := Z2.out; have := Z3.out; have := Z4.out; have := Z5.out; have := Z6.out; have := Z7.out; have := Z8.out; have := Z9.out; have := Z10.out; have := Z11.out; have := Z12.out; have := Z13.out; have := Z14.out; have := Z15.out; have := Z16.out; have := Z17.out; have := Z18.out; have := Z19.out; have := Z20.out; omega))
  have CA0_19 := Lib.hid (CA0_18.out.touch t19 (by have := Z1.out; have := Z2.out; have := Z3.out; have := Z4.out; have := Z5.out; have := Z6.out; have := Z7.out; have := Z8.out; have := Z9.out; have := Z10.out; have := Z11.out; have := Z12.out; have := Z13.out; have := Z14.out; have := Z15.out; have := Z16.out; have := Z17.out; have := Z18.out; have := Z19.out; have := Z20.out; omega))
  have Rp_19 := Lib.hid (Rp_18.out.touch t19 (by have := Z1.out; have := Z2.out; have := Z3.out; have := Z4.out; have := Z5.out; have := Z6.out; have := Z7.out; have := Z8.out; have := Z9.out; have := Z10.out; have := Z11.out; have := Z12.out; have := Z13.out; have := Z14.out; have := Z15.out; have := Z16.out; have := Z17.out; have := Z18.out; have := Z19.out; have := Z20.out; omega))
  have Z21 := Lib.hid (t19.size)
  have Rg_19 := Lib.hid h19
  clear CA0_18 Rp_18 Rg_18 HB_18 t19 h19
  have kA00 := CA0_19.out.c0
  go_wp2_with fail
  clear kA00
  refine (Ints.held _ ys.length _ 1 Rg_19.out.lies (by omega) (by omega)).mono ?_
  rintro e W' ⟨rfl, rfl⟩
  have kA00 := CA0_19.out.c0
  go_wp2_with fail
  clear kA00
  refine (Mor.toM _ m0 _ (ARG0.out.below HB_19.out) hz0).mono ?_
  rintro e W20 ⟨vh0, rfl, h20, fb20⟩
  have HB_20 := Lib.hid (HB_19.out.trans (fb20.mono HB_19.out.size))
  have CA0_20 := Lib.hid (CA0_19.out.below fb20)
  have Rp_20 := Lib.hid (Rp_19.out.below fb20)
  have Rg_20 := Lib.hid (Rg_19.out.below fb20)
  have Z22 := Lib.hid (fb20.size)
  have Rh0_20 := Lib.hid h20
  clear CA0_19 Rp_19 Rg_19 HB_19 fb20 h20
  have kA00 := CA0_20.out.c0
  go_wp2_with fail
  clear kA00
  refine (Ints.copied _ xs1 _ (ARG1.out.below HB_20.out) hs1).mono ?_
  rintro e W21 ⟨vh1, rfl, h21, fb21⟩
  have HB_21 := Lib.hid (HB_20.out.trans (fb21.mono HB_20.out.size))
  have CA0_21 := Lib.hid (CA0_20.out.below fb21)
  have Rp_21 := Lib.hid (Rp_20.out.below fb21)
  have Rg_21 := Lib.hid (Rg_20.out.below fb21)
  have Rh0_21 := Lib.hid (Rh0_20.out.below fb21)
  have Z23 := Lib.hid (fb21.size)
  have Rh1_21 := Lib.hid (OwnI.of_gives h21)
  clear CA0_20 Rp_20 Rg_20 Rh0_20 HB_20 fb21 h21
  clear CA0_21
  go_wp2_with fail
  refine (CI.out _ _ Rh0_21.out.lies _ Rh1_21.out.lies).mono ?_
  rintro e W22 ⟨vh, rfl, h22, fb22⟩
  have HB_22 := Lib.hid (HB_21.out.trans (fb22.mono HB_21.out.size))
  have Rp_22 := Lib.hid (Rp_21.out.below fb22)
  have Rg_22 := Lib.hid (Rg_21.out.below fb22)
  have Rh0_22 := Lib.hid (Rh0_21.out.below fb22)
  have Rh1_22 := Lib.hid (Rh1_21.out.below fb22)
  have Z24 := Lib.hid (fb22.size)
  have Rh_22 := Lib.hid (OwnI.of_gives h22)
  clear Rp_21 Rg_21 Rh0_21 Rh1_21 HB_21 fb22 h22
  clear Rh0_22 Rh1_22
  go_wp2_with fail
  refine (Ints.eq_yes _ _ ys _ Rh_22.out.lies Rp_22.out.lies).mono ?_
  rintro e W23 ⟨rfl, fb23⟩
  have HB_23 := Lib.hid (HB_22.out.trans (fb23.mono HB_22.out.size))
  have Rp_23 := Lib.hid (Rp_22.out.below fb23)
  have Rg_23 := Lib.hid (Rg_22.out.below fb23)
  have Rh_23 := Lib.hid (Rh_22.out.below fb23)
  have Z25 := Lib.hid (fb23.size)
  clear Rp_22 Rg_22 Rh_22 HB_22 fb23
  clear Rp_23 Rh_23
  go_wp2_with fail
  refine (Ints.held _ ys.length _ 1 Rg_23.out.lies (by omega) (by omega)).mono ?_
  rintro e W' ⟨rfl, rfl⟩
  clear Rg_23
  go_wp2
  go_ret
  exact ⟨rfl, HB_23.out⟩


set_option maxRecDepth 100000 in
theorem lifted (os : Os) (started : os.Started) (H : Type) (enc : TypeId × Value → H) :
    ReturnsInHanded {} Try.checked os 6 .any (Rows.fnExactApplyMorphismSpec.pre6 enc Try.prog Try.f6 Rows.fnExactApplyMorphismRow.domain false) (Rows.fnExactApplyMorphismSpec.post enc Try.prog Try.f6 false true false false) := by
  refine returnsInHanded_of_change (C := Try.checked) own started (by kernel_rfl) Try.func6
    (ChangeSpec.witness6 (enc := enc) (C := Try.checked) false ⟨#[], #[.agg #[.slice none 0 0], .slice none 0 0], []⟩ 8 (by kernel_rfl) (by kernel_rfl) (by kernel_rfl) (by kernel_rfl)) ?_
  intro W base args ds gs before hval0 hW hcnd _
  have hval : ∀ (j : Nat) t v, Try.f6.params[j]? = some t → args[j]? = some v → Value.okWide Try.prog W .any base t v := hval0
  have hW' := hW
  obtain ⟨p, q, hA0, hV, rfl, hfz, hnd⟩ := hW
  have hA : DataW.TrodAll enc Try.prog W 0 (fun _ => true) true Try.f6.params.toList args.toList ds p := hA0
  rw [Try.params6] at hA hval
  obtain ⟨v0, vs0, d0, ds0, p0, q0, hargs, rfl, rfl, h0, r0⟩ := trodAll_cons hA
  obtain ⟨v1, vs1, d1, ds1, p1, q1, rfl, rfl, rfl, h1, r1⟩ := trodAll_cons r0
  obtain ⟨rfl, rfl, rfl⟩ := trodAll_nil r1
  obtain rfl : args = #[v0, v1] := by cases args; simp_all
  obtain ⟨rfl, rfl⟩ := trodVars_none hV
  have k0 := h0
  have lt0 : ∀ x ∈ p0, x.block < W.heap.size := by obtain ⟨m, hm⟩ := k0; exact DataW.trod_lt m _ _ _ hm
  obtain ⟨m0, l0⟩ := Mor.open_mor (hval 0 28 v0 rfl rfl) h0
  have k1 := h1
  have lt1 : ∀ x ∈ p1, x.block < W.heap.size := by obtain ⟨m, hm⟩ := k1; exact DataW.trod_lt m _ _ _ hm
  obtain ⟨xs1, l1⟩ := Seqs.open_list h1 (okWide_slice Try.underlying22 (hval 1 22 v1 rfl rfl))
  clear hA0 hval0
  refine (walk W v0 m0 l0 v1 xs1 l1).mono fun e W' ⟨he, hg⟩ => ?_
  subst he
  exact ⟨_, rfl, _, _, _, [], _, [], hW', trodAll_mk1 (shut_bool Try.underlying4 _), (trodAll_cons_mk (Below.trod laidOut (by kernel_rfl) (of_decide_eq_true (by kernel_rfl)) k0 hg lt0) (trodAll_cons_mk (Below.trod laidOut (by kernel_rfl) (of_decide_eq_true (by kernel_rfl)) k1 hg lt1) trodAll_mk0)), rfl, hg.frame _, fun h => by cases h⟩

theorem over : Rows.fnExactApplyMorphismRow.holds Try.pinned (OpenSpec.ofChange Rows.fnExactApplyMorphismSpec) :=
  OpenClaim.holds_of_wide 6 Try.f6 rfl rfl rfl rfl rfl rfl rfl ⟨rfl, rfl, rfl, rfl, rfl⟩ rfl rfl rfl rfl rfl (by kernel_rfl) Try.func6 (by kernel_rfl)
    (of_decide_eq_true (by kernel_rfl)) (by unfold Func.isWrapper; first | (rw [if_pos (by decide +kernel)]; kernel_rfl) | (rw [if_neg (by decide +kernel)]; exact ⟨rfl, rfl⟩))
    (fun os started H enc _ => lifted os started H enc)
/-- The statement. -/
theorem proved : Rows.FnExactApplyMorphismSaid := over
#print axioms proved
end Go.Proofs.Ytejbonnkgejngaa.fnExactApplyMorphism
