/- The law FnExactKernelSize answers true for every argument: the program's KernelSize returns what the model's returns, writes into no argument and hands back memory of its own. Conditions: none beyond the row's own. -/
import Derived.Test.YtgjomdbppbplcaaKM8
import Derived.Test.YtgjomdbppbplcaaRows
import Derived.WalkKit
import Derived.ProofKit
import Derived.OpenShut
import Derived.ShutString
import Derived.ChangeOld
import Derived.Below
import Derived.PlainAid
import Derived.Lib.Hide
import Derived.Deep.RegionHeld3
import Derived.Deep.DeepCutAuto
import Derived.Outline
import Derived.Test.YtgjomdbppbplcaaKM1
namespace Go.Proofs.Ytgjomdbppbplcaa.fnExactKernelSize
open Go.ChangeShapes Go.WideShapes Go.ChangeAt Go.RowKit
open Go.ChangeMaps (open_string shut_string)
open Go.PlainAid Plain
set_option linter.unusedVariables false

theorem own : ownKnob Try.prog.godebug = none := by kernel_rfl
theorem laidOut : laidOutB Try.prog = true := by kernel_rfl
open Seqs
set_option maxRecDepth 100000 in
set_option maxHeartbeats 4000000 in
theorem walk (w : World) (v0 : Value) (b0 : Int) (rows0 : List (List Int)) (out0 : List Int) (l0 : LiesS w v0 b0 rows0 out0) :
    Calls Try.prog 5 #[v0] w fun e w' => e = .returned (.bool true) ∧ Below w.heap.size w w' := by
  obtain ⟨an0, cn0, ao0, co0, rfl⟩ := l0.form
  have ARG0 := Lib.hid l0
  clear l0
  by_cases hs0 : (rows0.length + tot rows0 + out0.length) ≤ 1048576
  case neg =>
    have hq := szV_no (left := 1048576) (n := rows0.length + tot rows0 + out0.length) (by omega)
    have HQN := Lib.hid hq
    clear hq
    have HB_0 : Hid (Below w.heap.size w w) := Below.refl _ _
    go_enter Try.func5, Try.ntmps5
    go_wp2_with fail
    have bx1 : Below w.heap.size w (w.alloc (Obj.cells #[.int .i64 b0, .slice an0 rows0.length cn0, .slice ao0 out0.length co0] 25)) := (Below.refl _ _).alloc (Nat.le_refl _) _
    have cx1 := Cells3.new w 25 (.int .i64 b0) (.slice an0 rows0.length cn0) (.slice ao0 out0.length co0)
    have hz1 : (w.alloc (Obj.cells #[.int .i64 b0, .slice an0 rows0.length cn0, .slice ao0 out0.length co0] 25)).heap.size = w.heap.size + 1 := size_alloc' _ _
    obtain ⟨W1, hW1⟩ : ∃ W, W = (w.alloc (Obj.cells #[.int .i64 b0, .slice an0 rows0.length cn0, .slice ao0 out0.length co0] 25)) := ⟨_, rfl⟩
    rw [← hW1] at bx1 cx1 hz1 ⊢
    have HB_1 := Lib.hid (HB_0.out.trans (bx1.mono HB_0.out.size))
    have Z1 := Lib.hid (bx1.size)
    have CA0_1 := Lib.hid cx1
    have Z2 := Lib.hid hz1
    clear HB_0 bx1 hW1 cx1
    clear hz1
    refine (sz _ b0 rows0 out0 1048576 _ (ARG0.out.below HB_1.out) (by omega) (by omega)).mono ?_
    rintro e W2 ⟨rfl, fb2⟩
    have HB_2 := Lib.hid (HB_1.out.trans (fb2.mono HB_1.out.size))
    have CA0_2 := Lib.hid (CA0_1.out.below fb2)
    have Z3 := Lib.hid (fb2.size)
    clear CA0_1 HB_1 fb2
    rw [HQN.out]
    go_wp2
    go_ret
    exact ⟨rfl, HB_2.out⟩
  obtain ⟨q0, hq0⟩ : ∃ q : Nat, szV 1048576 (rows0.length + tot rows0 + out0.length) = (q : Int) := ⟨(1048576 - ((rows0.length + tot rows0 + out0.length : Nat) : Int)).toNat, by rw [szV_yes (by omega)]; omega⟩
  have hql0 : (q0 : Int) = 1048576 - ((rows0.length + tot rows0 + out0.length : Nat) : Int) := by rw [szV_yes (by omega)] at hq0; omega
  have HQ0 := Lib.hid hq0
  have HQL0 : (q0 : Int) ≤ 1048576 := by omega
  have hqd0 := decide_eq_false (show ¬ (q0 : Int) < 0 by omega)
  clear hq0
  have hz0 : rows0.length + tot rows0 + out0.length ≤ 1048576 := by omega
  obtain ⟨T0, hT0⟩ : ∃ T, T = tot rows0 + out0.length := ⟨_, rfl⟩
  have HT0 := Lib.hid hT0
  have hTl0 : T0 ≤ 1048576 := by omega
  have hTd0 := decide_eq_false (show ¬ (1 : Int) + (T0 : Int) < 0 by omega)
  clear hT0
  clear hql0
  have CS := Lib.hid (fun (W : World) (u0 : Value) (l0 : LiesS W u0 b0 rows0 out0) => Kern.spec_ks u0 b0 rows0 out0 W l0 hz0)
  have CI := Lib.hid (fun (W : World) (u0 : Value) (l0 : LiesS W u0 b0 rows0 out0) => Kern.impl_ks u0 b0 rows0 out0 W l0 hz0)
  obtain ⟨y, hy⟩ : ∃ y, y = Kern.ksV b0 rows0 out0 := ⟨_, rfl⟩
  rw [← hy] at CS CI
  clear hy
  have HB_0 : Hid (Below w.heap.size w w) := Below.refl _ _
  go_enter Try.func5, Try.ntmps5
  go_wp2_with fail
  have bx1 : Below w.heap.size w (w.alloc (Obj.cells #[.int .i64 b0, .slice an0 rows0.length cn0, .slice ao0 out0.length co0] 25)) := (Below.refl _ _).alloc (Nat.le_refl _) _
  have cx1 := Cells3.new w 25 (.int .i64 b0) (.slice an0 rows0.length cn0) (.slice ao0 out0.length co0)
  have hz1 : (w.alloc (Obj.cells #[.int .i64 b0, .slice an0 rows0.length cn0, .slice ao0 out0.length co0] 25)).heap.size = w.heap.size + 1 := size_alloc' _ _
  obtain ⟨W1, hW1⟩ : ∃ W, W = (w.alloc (Obj.cells #[.int .i64 b0, .slice an0 rows0.length cn0, .slice ao0 out0.length co0] 25)) := ⟨_, rfl⟩
  rw [← hW1] at bx1 cx1 hz1 ⊢
  have HB_1 := Lib.hid (HB_0.out.trans (bx1.mono HB_0.out.size))
  have Z1 := Lib.hid (bx1.size)
  have CA0_1 := Lib.hid cx1
  have Z2 := Lib.hid hz1
  clear HB_0 bx1 hW1 cx1
  clear hz1
  refine (sz _ b0 rows0 out0 1048576 _ (ARG0.out.below HB_1.out) (by omega) (by omega)).mono ?_
  rintro e W2 ⟨rfl, fb2⟩
  have HB_2 := Lib.hid (HB_1.out.trans (fb2.mono HB_1.out.size))
  have CA0_2 := Lib.hid (CA0_1.out.below fb2)
  have Z3 := Lib.hid (fb2.size)
  clear CA0_1 HB_1 fb2
  rw [HQ0.out]
  have kA00 := CA0_2.out.c0
  have kA01 := CA0_2.out.c1
  have kA02 := CA0_2.out.c2
  go_wp2_with fail
  clear kA00 kA01 kA02
  refine (toS _ b0 rows0 out0 _ (ARG0.out.below HB_2.out) hz0).mono ?_
  rintro e W3 ⟨vp0, rfl, h3, fb3⟩
  have HB_3 := Lib.hid (HB_2.out.trans (fb3.mono HB_2.out.size))
  have CA0_3 := Lib.hid (CA0_2.out.below fb3)
  have Z4 := Lib.hid (fb3.size)
  have Rp0_3 := Lib.hid h3
  clear CA0_2 HB_2 fb3 h3
  have kA00 := CA0_3.out.c0
  have kA01 := CA0_3.out.c1
  have kA02 := CA0_3.out.c2
  go_wp2_with fail
  clear kA00 kA01 kA02
  refine (CS.out _ _ Rp0_3.out.lies).mono ?_
  rintro e W4 ⟨rfl, fb4⟩
  have HB_4 := Lib.hid (HB_3.out.trans (fb4.mono HB_3.out.size))
  have CA0_4 := Lib.hid (CA0_3.out.below fb4)
  have Rp0_4 := Lib.hid (Rp0_3.out.below fb4)
  have Z5 := Lib.hid (fb4.size)
  clear CA0_3 Rp0_3 HB_3 fb4
  clear Rp0_4
  have kA00 := CA0_4.out.c0
  have kA01 := CA0_4.out.c1
  have kA02 := CA0_4.out.c2
  go_wp2_with fail
  clear kA00 kA01 kA02
  refine (toS _ b0 rows0 out0 _ (ARG0.out.below HB_4.out) hz0).mono ?_
  rintro e W5 ⟨vx0, rfl, h5, fb5⟩
  have HB_5 := Lib.hid (HB_4.out.trans (fb5.mono HB_4.out.size))
  have CA0_5 := Lib.hid (CA0_4.out.below fb5)
  have Z6 := Lib.hid (fb5.size)
  have Rx0_5 := Lib.hid h5
  clear CA0_4 HB_4 fb5 h5
  obtain ⟨anx0, cnx0, aox0, cox0, rfl⟩ := Rx0_5.out.form
  have kA00 := (CA0_5.out.alloc (Obj.cells #[.int .i64 b0, .slice anx0 rows0.length cnx0, .slice aox0 out0.length cox0] 30)).c0
  have kA01 := (CA0_5.out.alloc (Obj.cells #[.int .i64 b0, .slice anx0 rows0.length cnx0, .slice aox0 out0.length cox0] 30)).c1
  have kA02 := (CA0_5.out.alloc (Obj.cells #[.int .i64 b0, .slice anx0 rows0.length cnx0, .slice aox0 out0.length cox0] 30)).c2
  go_wp2_with fail
  clear kA00 kA01 kA02
  have bx6 : Below W5.heap.size W5 (W5.alloc (Obj.cells #[.int .i64 b0, .slice anx0 rows0.length cnx0, .slice aox0 out0.length cox0] 30)) := (Below.refl _ _).alloc (Nat.le_refl _) _
  have cx6 := Cells3.new W5 30 (.int .i64 b0) (.slice anx0 rows0.length cnx0) (.slice aox0 out0.length cox0)
  have hz6 : (W5.alloc (Obj.cells #[.int .i64 b0, .slice anx0 rows0.length cnx0, .slice aox0 out0.length cox0] 30)).heap.size = W5.heap.size + 1 := size_alloc' _ _
  obtain ⟨W6, hW6⟩ : ∃ W, W = (W5.alloc (Obj.cells #[.int .i64 b0, .slice anx0 rows0.length cnx0, .slice aox0 out0.length cox0] 30)) := ⟨_, rfl⟩
  rw [← hW6] at bx6 cx6 hz6 ⊢
  have HB_6 := Lib.hid (HB_5.out.trans (bx6.mono HB_5.out.size))
  have CA0_6 := Lib.hid (CA0_5.out.below bx6)
  have Rx0_6 := Lib.hid (Rx0_5.out.below bx6)
  have Z7 := Lib.hid (bx6.size)
  have CX0_6 := Lib.hid cx6
  have Z8 := Lib.hid hz6
  clear CA0_5 Rx0_5 HB_5 bx6 hW6 cx6
  clear hz6
  refine (CI.out _ _ Rx0_6.out.lies).mono ?_
  rintro e W7 ⟨rfl, fb7⟩
  have HB_7 := Lib.hid (HB_6.out.trans (fb7.mono HB_6.out.size))
  have CA0_7 := Lib.hid (CA0_6.out.below fb7)
  have CX0_7 := Lib.hid (CX0_6.out.below fb7)
  have Rx0_7 := Lib.hid (Rx0_6.out.below fb7)
  have Z9 := Lib.hid (fb7.size)
  clear CA0_6 CX0_6 Rx0_6 HB_6 fb7
  have kA00 := CA0_7.out.c0
  have kA01 := CA0_7.out.c1
  have kA02 := CA0_7.out.c2
  have kX00 := CX0_7.out.c0
  have kX01 := CX0_7.out.c1
  have kX02 := CX0_7.out.c2
  go_wp2_with fail
  clear kA00 kA01 kA02 kX00 kX01 kX02
  have bd8 := below_drew' W7
  obtain ⟨W8, hW8⟩ : ∃ W, W = W7.drew := ⟨_, rfl⟩
  rw [← hW8] at bd8
  have HB_8 := Lib.hid (HB_7.out.trans (bd8.mono HB_7.out.size))
  have CA0_8 := Lib.hid (CA0_7.out.below bd8)
  have CX0_8 := Lib.hid (CX0_7.out.below bd8)
  have Rx0_8 := Lib.hid (Rx0_7.out.below bd8)
  have Z10 := Lib.hid (bd8.size)
  clear CA0_7 CX0_7 Rx0_7 HB_7 bd8
  go_region_held3 (fun w' => w'.cell? ⟨W5.heap.size, 0, none⟩ = some (.int .i64 b0) ∧ w'.cell? ⟨W5.heap.size, 1, none⟩ = some (.slice anx0 rows0.length cnx0) ∧ w'.cell? ⟨W5.heap.size, 2, none⟩ = some (.slice aox0 out0.length cox0) ∧ w'.cell? ⟨w.heap.size, 0, none⟩ = some (.int .i64 b0) ∧ w'.cell? ⟨w.heap.size, 1, none⟩ = some (.slice an0 rows0.length cn0) ∧ w'.cell? ⟨w.heap.size, 2, none⟩ = some (.slice ao0 out0.length co0))
    (first | (rw [← hW8]; exact ⟨CX0_8.out.c0, CX0_8.out.c1, CX0_8.out.c2, CA0_8.out.c0, CA0_8.out.c1, CA0_8.out.c2⟩) | exact ⟨(CX0_8.out.below bt).c0, (CX0_8.out.below bt).c1, (CX0_8.out.below bt).c2, (CA0_8.out.below bt).c0, (CA0_8.out.below bt).c1, (CA0_8.out.below bt).c2⟩ | exact ⟨((CX0_8.out.below bt).below bu).c0, ((CX0_8.out.below bt).below bu).c1, ((CX0_8.out.below bt).below bu).c2, ((CA0_8.out.below bt).below bu).c0, ((CA0_8.out.below bt).below bu).c1, ((CA0_8.out.below bt).below bu).c2⟩)
    (first | (go_at_call 8; rw [← hW8]; refine (toS _ b0 rows0 out0 _ (ARG0.out.below HB_8.out) hz0).mono ?_; rintro e W9 ⟨vt, rfl, ht, bt⟩) | (go_at_call 11; refine (eqS _ _ b0 rows0 out0 _ (Rx0_8.out.below bt).lies ht.lies).mono ?_; rintro e W10 ⟨rfl, bu⟩))
  have HB_9 := Lib.hid (HB_8.out.trans (bt.mono HB_8.out.size))
  have CA0_9 := Lib.hid (CA0_8.out.below bt)
  have CX0_9 := Lib.hid (CX0_8.out.below bt)
  have Rx0_9 := Lib.hid (Rx0_8.out.below bt)
  have Z11 := Lib.hid (bt.size)
  have HB_10 := Lib.hid (HB_9.out.trans (bu.mono HB_9.out.size))
  have CA0_10 := Lib.hid (CA0_9.out.below bu)
  have CX0_10 := Lib.hid (CX0_9.out.below bu)
  have Rx0_10 := Lib.hid (Rx0_9.out.below bu)
  have Z12 := Lib.hid (bu.size)
  clear CA0_8 CX0_8 Rx0_8 HB_8 CA0_9 CX0_9 Rx0_9 HB_9 bt bu ht hW8
  clear Rx0_10 CA0_10 CX0_10
  go_wp2
  go_ret
  exact ⟨rfl, HB_10.out⟩


set_option maxRecDepth 100000 in
theorem lifted (os : Os) (started : os.Started) (H : Type) (enc : TypeId × Value → H) :
    ReturnsInHanded {} Try.checked os 5 .any (Rows.fnExactKernelSizeSpec.pre6 enc Try.prog Try.f5 Rows.fnExactKernelSizeRow.domain false) (Rows.fnExactKernelSizeSpec.post enc Try.prog Try.f5 false true false false) := by
  refine returnsInHanded_of_change (C := Try.checked) own started (by kernel_rfl) Try.func5
    (ChangeSpec.witness6 (enc := enc) (C := Try.checked) false ⟨#[], #[.agg #[.int .i64 0, .slice none 0 0, .slice none 0 0]], []⟩ 8 (by kernel_rfl) (by kernel_rfl) (by kernel_rfl) (by kernel_rfl)) ?_
  intro W base args ds gs before hval0 hW hcnd _
  have hval : ∀ (j : Nat) t v, Try.f5.params[j]? = some t → args[j]? = some v → Value.okWide Try.prog W .any base t v := hval0
  have hW' := hW
  obtain ⟨p, q, hA0, hV, rfl, hfz, hnd⟩ := hW
  have hA : DataW.TrodAll enc Try.prog W 0 (fun _ => true) true Try.f5.params.toList args.toList ds p := hA0
  rw [Try.params5] at hA hval
  obtain ⟨v0, vs0, d0, ds0, p0, q0, hargs, rfl, rfl, h0, r0⟩ := trodAll_cons hA
  obtain ⟨rfl, rfl, rfl⟩ := trodAll_nil r0
  obtain rfl : args = #[v0] := by cases args; simp_all
  obtain ⟨rfl, rfl⟩ := trodVars_none hV
  have k0 := h0
  have lt0 : ∀ x ∈ p0, x.block < W.heap.size := by obtain ⟨m, hm⟩ := k0; exact DataW.trod_lt m _ _ _ hm
  obtain ⟨b0, rows0, out0, l0⟩ := Seqs.open_seq (hval 0 25 v0 rfl rfl) h0
  clear hA0 hval0
  refine (walk W v0 b0 rows0 out0 l0).mono fun e W' ⟨he, hg⟩ => ?_
  subst he
  exact ⟨_, rfl, _, _, _, [], _, [], hW', trodAll_mk1 (shut_bool Try.underlying4 _), (trodAll_cons_mk (Below.trod laidOut (by kernel_rfl) (of_decide_eq_true (by kernel_rfl)) k0 hg lt0) trodAll_mk0), rfl, hg.frame _, fun h => by cases h⟩

theorem over : Rows.fnExactKernelSizeRow.holds Try.pinned (OpenSpec.ofChange Rows.fnExactKernelSizeSpec) :=
  OpenClaim.holds_of_wide 5 Try.f5 rfl rfl rfl rfl rfl rfl rfl ⟨rfl, rfl, rfl, rfl, rfl⟩ rfl rfl rfl rfl rfl (by kernel_rfl) Try.func5 (by kernel_rfl)
    (of_decide_eq_true (by kernel_rfl)) (by unfold Func.isWrapper; first | (rw [if_pos (by decide +kernel)]; kernel_rfl) | (rw [if_neg (by decide +kernel)]; exact ⟨rfl, rfl⟩))
    (fun os started H enc _ => lifted os started H enc)
/-- The statement. -/
theorem proved : Rows.FnExactKernelSizeSaid := over
#print axioms proved
end Go.Proofs.Ytgjomdbppbplcaa.fnExactKernelSize
