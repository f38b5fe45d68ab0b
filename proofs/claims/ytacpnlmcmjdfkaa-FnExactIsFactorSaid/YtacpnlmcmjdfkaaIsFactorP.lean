/- The law FnExactIsFactor answers true for every argument: the program's IsFactor returns what the model's returns, writes into no argument and hands back memory of its own. Conditions: none beyond the row's own. -/
import Derived.Test.YtacpnlmcmjdfkaaRows
import Derived.WalkKit
import Derived.ProofKit
import Derived.OpenShut
import Derived.ShutString
import Derived.ChangeOld
import Derived.Below
import Derived.PlainAid
import Derived.Lib.Hide
import Derived.Deep.RegionHeld3
import Derived.Deep.DeepCutAuto
import Derived.Outline
import Derived.Test.YtacpnlmcmjdfkaaInts
import Derived.Test.YtacpnlmcmjdfkaaSeqSz
import Derived.Test.YtacpnlmcmjdfkaaSeqOpen
import Derived.Test.YtacpnlmcmjdfkaaOccS
import Derived.Test.YtacpnlmcmjdfkaaOccJ
import Derived.Test.YtacpnlmcmjdfkaaSeqMark2
namespace Go.Proofs.Ytacpnlmcmjdfkaa.fnExactIsFactor
open Go.ChangeShapes Go.WideShapes Go.ChangeAt Go.RowKit
open Go.ChangeMaps (open_string shut_string)
open Go.PlainAid Plain
set_option linter.unusedVariables false

theorem own : ownKnob Try.prog.godebug = none := by kernel_rfl
theorem laidOut : laidOutB Try.prog = true := by kernel_rfl
open Seqs
set_option maxRecDepth 100000 in
set_option maxHeartbeats 4000000 in
theorem walk (w : World) (v0 : Value) (xs0 : List Int) (l0 : Lies (Value.int .i64) w v0 xs0) (v1 : Value) (xs1 : List Int) (l1 : Lies (Value.int .i64) w v1 xs1) :
    Calls Try.prog 7 #[v0, v1] w fun e w' => e = .returned (.bool true) ∧ Below w.heap.size w w' := by
  have ARG0 := Lib.hid l0
  obtain ⟨il0, ia0, ic0, rfl, _, _⟩ := l0
  have ARG1 := Lib.hid l1
  obtain ⟨il1, ia1, ic1, rfl, _, _⟩ := l1
  by_cases hs0 : xs0.length ≤ 1048576
  case neg =>
    have hd := decide_eq_true (show (xs0.length : Int) > 1048576 by omega)
    have HB_0 : Hid (Below w.heap.size w w) := Below.refl _ _
    go_enter Try.func7, Try.ntmps7
    go_wp2
    go_ret
    exact ⟨rfl, Below.refl _ _⟩
  have hdi0 := decide_eq_false (show ¬ (xs0.length : Int) > 1048576 by omega)
  by_cases hs1 : xs1.length ≤ 1048576
  case neg =>
    have hd := decide_eq_true (show (xs1.length : Int) > 1048576 by omega)
    have HB_0 : Hid (Below w.heap.size w w) := Below.refl _ _
    go_enter Try.func7, Try.ntmps7
    go_wp2
    go_ret
    exact ⟨rfl, Below.refl _ _⟩
  have hdi1 := decide_eq_false (show ¬ (xs1.length : Int) > 1048576 by omega)
  have CS := Lib.hid (fun (W : World) (u0 : Value) (l0 : Fac.LiesC W u0 xs0) (u1 : Value) (l1 : Fac.LiesC W u1 xs1) => Fac.spec_isf u0 u1 xs0 xs1 W l0 l1.lies (by omega) (by omega))
  have CI := Lib.hid (fun (W : World) (u0 : Value) (l0 : Fac.LiesC W u0 xs0) (u1 : Value) (l1 : Fac.LiesC W u1 xs1) => Fac.impl_isf u0 u1 xs0 xs1 W l0.lies l1.lies (by omega) (by omega))
  obtain ⟨y, hy⟩ : ∃ y, y = decide (0 < (occ xs0 xs1).length) := ⟨_, rfl⟩
  rw [← hy] at CS CI
  clear hy
  have HB_0 : Hid (Below w.heap.size w w) := Below.refl _ _
  go_enter Try.func7, Try.ntmps7
  go_wp2_with fail
  refine (Ints.copied _ xs0 _ (ARG0.out.below HB_0.out) hs0).mono ?_
  rintro e W1 ⟨vp0, rfl, h1, fb1⟩
  have HB_1 := Lib.hid (HB_0.out.trans (fb1.mono HB_0.out.size))
  have Z1 := Lib.hid (fb1.size)
  have Rp0_1 := Lib.hid (OwnI.of_gives h1)
  clear HB_0 fb1 h1
  go_wp2_with fail
  refine (Ints.copied _ xs1 _ (ARG1.out.below HB_1.out) hs1).mono ?_
  rintro e W2 ⟨vp1, rfl, h2, fb2⟩
  have HB_2 := Lib.hid (HB_1.out.trans (fb2.mono HB_1.out.size))
  have Rp0_2 := Lib.hid (Rp0_1.out.below fb2)
  have Z2 := Lib.hid (fb2.size)
  have Rp1_2 := Lib.hid (OwnI.of_gives h2)
  clear Rp0_1 HB_1 fb2 h2
  go_wp2_with fail
  refine (CS.out _ _ (Fac.LiesC.of_has Rp0_2.out.has) _ (Fac.LiesC.of_has Rp1_2.out.has)).mono ?_
  rintro e W3 ⟨rfl, fb3⟩
  have HB_3 := Lib.hid (HB_2.out.trans (fb3.mono HB_2.out.size))
  have Rp0_3 := Lib.hid (Rp0_2.out.below fb3)
  have Rp1_3 := Lib.hid (Rp1_2.out.below fb3)
  have Z3 := Lib.hid (fb3.size)
  clear Rp0_2 Rp1_2 HB_2 fb3
  clear Rp0_3 Rp1_3
  go_wp2_with fail
  refine (Ints.copied _ xs0 _ (ARG0.out.below HB_3.out) hs0).mono ?_
  rintro e W4 ⟨vx0, rfl, h4, fb4⟩
  have HB_4 := Lib.hid (HB_3.out.trans (fb4.mono HB_3.out.size))
  have Z4 := Lib.hid (fb4.size)
  have Rx0_4 := Lib.hid (OwnI.of_gives h4)
  clear HB_3 fb4 h4
  go_wp2_with fail
  refine (Ints.copied _ xs1 _ (ARG1.out.below HB_4.out) hs1).mono ?_
  rintro e W5 ⟨vx1, rfl, h5, fb5⟩
  have HB_5 := Lib.hid (HB_4.out.trans (fb5.mono HB_4.out.size))
  have Rx0_5 := Lib.hid (Rx0_4.out.below fb5)
  have Z5 := Lib.hid (fb5.size)
  have Rx1_5 := Lib.hid (OwnI.of_gives h5)
  clear Rx0_4 HB_4 fb5 h5
  go_wp2_with fail
  refine (CI.out _ _ (Fac.LiesC.of_has Rx0_5.out.has) _ (Fac.LiesC.of_has Rx1_5.out.has)).mono ?_
  rintro e W6 ⟨rfl, fb6⟩
  have HB_6 := Lib.hid (HB_5.out.trans (fb6.mono HB_5.out.size))
  have Rx0_6 := Lib.hid (Rx0_5.out.below fb6)
  have Rx1_6 := Lib.hid (Rx1_5.out.below fb6)
  have Z6 := Lib.hid (fb6.size)
  clear Rx0_5 Rx1_5 HB_5 fb6
  go_wp2_with fail
  refine (Ints.copied _ xs0 _ (ARG0.out.below HB_6.out) hs0).mono ?_
  rintro e W7 ⟨vy0, rfl, h7, fb7⟩
  have HB_7 := Lib.hid (HB_6.out.trans (fb7.mono HB_6.out.size))
  have Rx0_7 := Lib.hid (Rx0_6.out.below fb7)
  have Rx1_7 := Lib.hid (Rx1_6.out.below fb7)
  have Z7 := Lib.hid (fb7.size)
  have Ry0_7 := Lib.hid (OwnI.of_gives h7)
  clear Rx0_6 Rx1_6 HB_6 fb7 h7
  go_wp2_with fail
  refine (Ints.eq_yes _ _ xs0 _ Rx0_7.out.lies Ry0_7.out.lies).mono ?_
  rintro e W8 ⟨rfl, fb8⟩
  have HB_8 := Lib.hid (HB_7.out.trans (fb8.mono HB_7.out.size))
  have Rx0_8 := Lib.hid (Rx0_7.out.below fb8)
  have Rx1_8 := Lib.hid (Rx1_7.out.below fb8)
  have Ry0_8 := Lib.hid (Ry0_7.out.below fb8)
  have Z8 := Lib.hid (fb8.size)
  clear Rx0_7 Rx1_7 Ry0_7 HB_7 fb8
  clear Rx0_8 Ry0_8
  go_wp2_with fail
  refine (Ints.copied _ xs1 _ (ARG1.out.below HB_8.out) hs1).mono ?_
  rintro e W9 ⟨vy1, rfl, h9, fb9⟩
  have HB_9 := Lib.hid (HB_8.out.trans (fb9.mono HB_8.out.size))
  have Rx1_9 := Lib.hid (Rx1_8.out.below fb9)
  have Z9 := Lib.hid (fb9.size)
  have Ry1_9 := Lib.hid (OwnI.of_gives h9)
  clear Rx1_8 HB_8 fb9 h9
  go_wp2_with fail
  refine (Ints.eq_yes _ _ xs1 _ Rx1_9.out.lies Ry1_9.out.lies).mono ?_
  rintro e W10 ⟨rfl, fb10⟩
  have HB_10 := Lib.hid (HB_9.out.trans (fb10.mono HB_9.out.size))
  have Rx1_10 := Lib.hid (Rx1_9.out.below fb10)
  have Ry1_10 := Lib.hid (Ry1_9.out.below fb10)
  have Z10 := Lib.hid (fb10.size)
  clear Rx1_9 Ry1_9 HB_9 fb10
  clear Rx1_10 Ry1_10
  go_wp2
  go_ret
  exact ⟨rfl, HB_10.out⟩


set_option maxRecDepth 100000 in
theorem lifted (os : Os) (started : os.Started) (H : Type) (enc : TypeId × Value → H) :
    ReturnsInHanded {} Try.checked os 7 .any (Rows.fnExactIsFactorSpec.pre6 enc Try.prog Try.f7 Rows.fnExactIsFactorRow.domain false) (Rows.fnExactIsFactorSpec.post enc Try.prog Try.f7 false true false false) := by
  refine returnsInHanded_of_change (C := Try.checked) own started (by kernel_rfl) Try.func7
    (ChangeSpec.witness6 (enc := enc) (C := Try.checked) false ⟨#[], #[.slice none 0 0, .slice none 0 0], []⟩ 8 (by kernel_rfl) (by kernel_rfl) (by kernel_rfl) (by kernel_rfl)) ?_
  intro W base args ds gs before hval0 hW hcnd _
  have hval : ∀ (j : Nat) t v, Try.f7.params[j]? = some t → args[j]? = some v → Value.okWide Try.prog W .any base t v := hval0
  have hW' := hW
  obtain ⟨p, q, hA0, hV, rfl, hfz, hnd⟩ := hW
  have hA : DataW.TrodAll enc Try.prog W 0 (fun _ => true) true Try.f7.params.toList args.toList ds p := hA0
  rw [Try.params7] at hA hval
  obtain ⟨v0, vs0, d0, ds0, p0, q0, hargs, rfl, rfl, h0, r0⟩ := trodAll_cons hA
  obtain ⟨v1, vs1, d1, ds1, p1, q1, rfl, rfl, rfl, h1, r1⟩ := trodAll_cons r0
  obtain ⟨rfl, rfl, rfl⟩ := trodAll_nil r1
  obtain rfl : args = #[v0, v1] := by cases args; simp_all
  obtain ⟨rfl, rfl⟩ := trodVars_none hV
  have k0 := h0
  have lt0 : ∀ x ∈ p0, x.block < W.heap.size := by obtain ⟨m, hm⟩ := k0; exact DataW.trod_lt m _ _ _ hm
  obtain ⟨xs0, l0⟩ := Seqs.open_list h0 (okWide_slice Try.underlying22 (hval 0 22 v0 rfl rfl))
  have k1 := h1
  have lt1 : ∀ x ∈ p1, x.block < W.heap.size := by obtain ⟨m, hm⟩ := k1; exact DataW.trod_lt m _ _ _ hm
  obtain ⟨xs1, l1⟩ := Seqs.open_list h1 (okWide_slice Try.underlying22 (hval 1 22 v1 rfl rfl))
  clear hA0 hval0
  refine (walk W v0 xs0 l0 v1 xs1 l1).mono fun e W' ⟨he, hg⟩ => ?_
  subst he
  exact ⟨_, rfl, _, _, _, [], _, [], hW', trodAll_mk1 (shut_bool Try.underlying4 _), (trodAll_cons_mk (Below.trod laidOut (by kernel_rfl) (of_decide_eq_true (by kernel_rfl)) k0 hg lt0) (trodAll_cons_mk (Below.trod laidOut (by kernel_rfl) (of_decide_eq_true (by kernel_rfl)) k1 hg lt1) trodAll_mk0)), rfl, hg.frame _, fun h => by cases h⟩

theorem over : Rows.fnExactIsFactorRow.holds Try.pinned (OpenSpec.ofChange Rows.fnExactIsFactorSpec) :=
  OpenClaim.holds_of_wide 7 Try.f7 rfl rfl rfl rfl rfl rfl rfl ⟨rfl, rfl, rfl, rfl, rfl⟩ rfl rfl rfl rfl rfl (by kernel_rfl) Try.func7 (by kernel_rfl)
    (of_decide_eq_true (by kernel_rfl)) (by unfold Func.isWrapper; first | (rw [if_pos (by decide +kernel)]; kernel_rfl) | (rw [if_neg (by decide +kernel)]; exact ⟨rfl, rfl⟩))
    (fun os started H enc _ => lifted os started H enc)
/-- The statement. -/
theorem proved : Rows.FnExactIsFactorSaid := over
#print axioms proved
end Go.Proofs.Ytacpnlmcmjdfkaa.fnExactIsFactor
