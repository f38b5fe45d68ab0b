/- The law FnExactLeastConjugate answers true for every argument: the program's LeastConjugate returns what the model's returns, writes into no argument and hands back memory of its own. Conditions: none beyond the row's own. -/
import Derived.Test.YtcnejfihpaicdaaRows
import Derived.WalkKit
import Derived.ProofKit
import Derived.OpenShut
import Derived.ShutString
import Derived.ChangeOld
import Derived.Below
import Derived.PlainAid
import Derived.Lib.Hide
import Derived.Deep.RegionHeld3
import Derived.Deep.DeepCutAuto
import Derived.Outline
import Derived.Test.YtcnejfihpaicdaaInts
import Derived.Test.YtcnejfihpaicdaaSeqSz
import Derived.Test.YtcnejfihpaicdaaSeqOpen
import Derived.Test.YtcnejfihpaicdaaConjS
import Derived.Test.YtcnejfihpaicdaaConjI
import Derived.Test.YtcnejfihpaicdaaSeqMark2
namespace Go.Proofs.Ytcnejfihpaicdaa.fnExactLeastConjugate
open Go.ChangeShapes Go.WideShapes Go.ChangeAt Go.RowKit
open Go.ChangeMaps (open_string shut_string)
open Go.PlainAid Plain
set_option linter.unusedVariables false

theorem own : ownKnob Try.prog.godebug = none := by kernel_rfl
theorem laidOut : laidOutB Try.prog = true := by kernel_rfl
open Seqs
set_option maxRecDepth 100000 in
set_option maxHeartbeats 4000000 in
theorem walk (w : World) (v0 : Value) (xs0 : List Int) (l0 : Lies (Value.int .i64) w v0 xs0) :
    Calls Try.prog 5 #[v0] w fun e w' => e = .returned (.bool true) ∧ Below w.heap.size w w' := by
  have ARG0 := Lib.hid l0
  obtain ⟨il0, ia0, ic0, rfl, _, _⟩ := l0
  by_cases hs0 : xs0.length ≤ 1048576
  case neg =>
    have hd := decide_eq_true (show (xs0.length : Int) > 1048576 by omega)
    have HB_0 : Hid (Below w.heap.size w w) := Below.refl _ _
    go_enter Try.func5, Try.ntmps5
    go_wp2
    go_ret
    exact ⟨rfl, Below.refl _ _⟩
  have hdi0 := decide_eq_false (show ¬ (xs0.length : Int) > 1048576 by omega)
  have CS := Lib.hid (fun (W : World) (u0 : Value) (l0 : Fac.LiesC W u0 xs0) => Lynd.spec_lc u0 xs0 W l0 (by omega))
  have CI := Lib.hid (fun (W : World) (u0 : Value) (l0 : Fac.LiesC W u0 xs0) => Lynd.impl_lc u0 xs0 W l0.lies (by omega))
  obtain ⟨ys, hys⟩ : ∃ ys, ys = lcV xs0 := ⟨_, rfl⟩
  have hyl : ys.length ≤ 1048576 := by rw [hys]; rw [lcV_len]; omega
  have hky := decide_eq_false (show ¬ (1 : Int) + (ys.length : Int) < 0 by omega)
  rw [← hys] at CS CI
  clear hys
  have HB_0 : Hid (Below w.heap.size w w) := Below.refl _ _
  go_enter Try.func5, Try.ntmps5
  go_wp2_with fail
  refine (Ints.copied _ xs0 _ (ARG0.out.below HB_0.out) hs0).mono ?_
  rintro e W1 ⟨vp0, rfl, h1, fb1⟩
  have HB_1 := Lib.hid (HB_0.out.trans (fb1.mono HB_0.out.size))
  have Z1 := Lib.hid (fb1.size)
  have Rp0_1 := Lib.hid (OwnI.of_gives h1)
  clear HB_0 fb1 h1
  go_wp2_with fail
  refine (CS.out _ _ (Fac.LiesC.of_has Rp0_1.out.has)).mono ?_
  rintro e W2 ⟨vp, rfl, h2, fb2⟩
  have HB_2 := Lib.hid (HB_1.out.trans (fb2.mono HB_1.out.size))
  have Rp0_2 := Lib.hid (Rp0_1.out.below fb2)
  have Z2 := Lib.hid (fb2.size)
  have Rp_2 := Lib.hid (OwnI.of_gives h2)
  clear Rp0_1 HB_1 fb2 h2
  clear Rp0_2
  go_wp2_with fail
  refine (Ints.copied _ xs0 _ (ARG0.out.below HB_2.out) hs0).mono ?_
  rintro e W3 ⟨vx0, rfl, h3, fb3⟩
  have HB_3 := Lib.hid (HB_2.out.trans (fb3.mono HB_2.out.size))
  have Rp_3 := Lib.hid (Rp_2.out.below fb3)
  have Z3 := Lib.hid (fb3.size)
  have Rx0_3 := Lib.hid (OwnI.of_gives h3)
  clear Rp_2 HB_2 fb3 h3
  go_wp2_with fail
  refine (CI.out _ _ (Fac.LiesC.of_has Rx0_3.out.has)).mono ?_
  rintro e W4 ⟨vg, rfl, h4, fb4⟩
  have HB_4 := Lib.hid (HB_3.out.trans (fb4.mono HB_3.out.size))
  have Rp_4 := Lib.hid (Rp_3.out.below fb4)
  have Rx0_4 := Lib.hid (Rx0_3.out.below fb4)
  have Z4 := Lib.hid (fb4.size)
  have Rg_4 := Lib.hid (OwnI.of_gives h4)
  clear Rp_3 Rx0_3 HB_3 fb4 h4
  go_wp2_with fail
  refine (Ints.eq_yes _ _ ys _ Rg_4.out.lies Rp_4.out.lies).mono ?_
  rintro e W5 ⟨rfl, fb5⟩
  have HB_5 := Lib.hid (HB_4.out.trans (fb5.mono HB_4.out.size))
  have Rp_5 := Lib.hid (Rp_4.out.below fb5)
  have Rx0_5 := Lib.hid (Rx0_4.out.below fb5)
  have Rg_5 := Lib.hid (Rg_4.out.below fb5)
  have Z5 := Lib.hid (fb5.size)
  clear Rp_4 Rx0_4 Rg_4 HB_4 fb5
  go_wp2_with fail
  refine (Ints.copied _ xs0 _ (ARG0.out.below HB_5.out) hs0).mono ?_
  rintro e W6 ⟨vy0, rfl, h6, fb6⟩
  have HB_6 := Lib.hid (HB_5.out.trans (fb6.mono HB_5.out.size))
  have Rp_6 := Lib.hid (Rp_5.out.below fb6)
  have Rx0_6 := Lib.hid (Rx0_5.out.below fb6)
  have Rg_6 := Lib.hid (Rg_5.out.below fb6)
  have Z6 := Lib.hid (fb6.size)
  have Ry0_6 := Lib.hid (OwnI.of_gives h6)
  clear Rp_5 Rx0_5 Rg_5 HB_5 fb6 h6
  go_wp2_with fail
  refine (Ints.eq_yes _ _ xs0 _ Rx0_6.out.lies Ry0_6.out.lies).mono ?_
  rintro e W7 ⟨rfl, fb7⟩
  have HB_7 := Lib.hid (HB_6.out.trans (fb7.mono HB_6.out.size))
  have Rp_7 := Lib.hid (Rp_6.out.below fb7)
  have Rx0_7 := Lib.hid (Rx0_6.out.below fb7)
  have Rg_7 := Lib.hid (Rg_6.out.below fb7)
  have Ry0_7 := Lib.hid (Ry0_6.out.below fb7)
  have Z7 := Lib.hid (fb7.size)
  clear Rp_6 Rx0_6 Rg_6 Ry0_6 HB_6 fb7
  clear Ry0_7
  go_wp2_with fail
  refine (markIk _ xs0 _ _ _ ((1 : Int)) Rx0_7.out (by omega) (by omega) (by omega)).mono ?_
  rintro e W8 ⟨rfl, h8, t8⟩
  have HB_8 := Lib.hid (t8.below HB_7.out (by have := Z1.out; have := Z2.out; have := Z3.out; have := Z4.out; have := Z5.out; have := Z6.out; have := Z7.out; omega))
  have Rp_8 := Lib.hid (Rp_7.out.touch t8 (by have := Z1.out; have := Z2.out; have := Z3.out; have := Z4.out; have := Z5.out; have := Z6.out; have := Z7.out; omega))
  have Rg_8 := Lib.hid (Rg_7.out.touch t8 (by have := Z1.out; have := Z2.out; have := Z3.out; have := Z4.out; have := Z5.out; have := Z6.out; have := Z7.out; omega))
  have Z8 := Lib.hid (t8.size)
  have Rx0_8 := Lib.hid h8
  clear Rp_7 Rx0_7 Rg_7 HB_7 t8 h8
  clear Rx0_8
  have hkd := decide_eq_false (show ¬ (1 : Int) + (xs0.length : Int) < 0 by omega)
  go_wp2_with fail
  refine (Ints.eq_yes _ _ ys _ Rg_8.out.lies Rp_8.out.lies).mono ?_
  rintro e W9 ⟨rfl, fb9⟩
  have HB_9 := Lib.hid (HB_8.out.trans (fb9.mono HB_8.out.size))
  have Rp_9 := Lib.hid (Rp_8.out.below fb9)
  have Rg_9 := Lib.hid (Rg_8.out.below fb9)
  have Z9 := Lib.hid (fb9.size)
  clear Rp_8 Rg_8 HB_8 fb9
  go_wp2_with fail
  refine (markI' _ ys _ _ _ Rg_9.out (by omega)).mono ?_
  rintro e W10 ⟨rfl, h10, t10⟩
  have HB_10 := Lib.hid (t10.below HB_9.out (by have := Z1.out; have := Z2.out; have := Z3.out; have := Z4.out; have := Z5.out; have := Z6.out; have := Z7.out; have := Z8.out; have := Z9.out; omega))
  have Rp_10 := Lib.hid (Rp_9.out.touch t10 (by have := Z1.out; have := Z2.out; have := Z3.out; have := Z4.out; have := Z5.out; have := Z6.out; have := Z7.out; have := Z8.out; have := Z9.out; omega))
  have Z10 := Lib.hid (t10.size)
  have Rg_10 := Lib.hid h10
  clear Rp_9 Rg_9 HB_9 t10 h10
  go_wp2_with fail
  refine (Ints.held _ ys.length _ 1 Rg_10.out.lies (by omega) (by omega)).mono ?_
  rintro e W' ⟨rfl, rfl⟩
  go_wp2_with fail
  refine (Ints.copied _ xs0 _ (ARG0.out.below HB_10.out) hs0).mono ?_
  rintro e W11 ⟨vh0, rfl, h11, fb11⟩
  have HB_11 := Lib.hid (HB_10.out.trans (fb11.mono HB_10.out.size))
  have Rp_11 := Lib.hid (Rp_10.out.below fb11)
  have Rg_11 := Lib.hid (Rg_10.out.below fb11)
  have Z11 := Lib.hid (fb11.size)
  have Rh0_11 := Lib.hid (OwnI.of_gives h11)
  clear Rp_10 Rg_10 HB_10 fb11 h11
  go_wp2_with fail
  refine (CI.out _ _ (Fac.LiesC.of_has Rh0_11.out.has)).mono ?_
  rintro e W12 ⟨vh, rfl, h12, fb12⟩
  have HB_12 := Lib.hid (HB_11.out.trans (fb12.mono HB_11.out.size))
  have Rp_12 := Lib.hid (Rp_11.out.below fb12)
  have Rg_12 := Lib.hid (Rg_11.out.below fb12)
  have Rh0_12 := Lib.hid (Rh0_11.out.below fb12)
  have Z12 := Lib.hid (fb12.size)
  have Rh_12 := Lib.hid (OwnI.of_gives h12)
  clear Rp_11 Rg_11 Rh0_11 HB_11 fb12 h12
  clear Rh0_12
  go_wp2_with fail
  refine (Ints.eq_yes _ _ ys _ Rh_12.out.lies Rp_12.out.lies).mono ?_
  rintro e W13 ⟨rfl, fb13⟩
  have HB_13 := Lib.hid (HB_12.out.trans (fb13.mono HB_12.out.size))
  have Rp_13 := Lib.hid (Rp_12.out.below fb13)
  have Rg_13 := Lib.hid (Rg_12.out.below fb13)
  have Rh_13 := Lib.hid (Rh_12.out.below fb13)
  have Z13 := Lib.hid (fb13.size)
  clear Rp_12 Rg_12 Rh_12 HB_12 fb13
  clear Rp_13 Rh_13
  go_wp2_with fail
  refine (Ints.held _ ys.length _ 1 Rg_13.out.lies (by omega) (by omega)).mono ?_
  rintro e W' ⟨rfl, rfl⟩
  clear Rg_13
  go_wp2
  go_ret
  exact ⟨rfl, HB_13.out⟩


set_option maxRecDepth 100000 in
theorem lifted (os : Os) (started : os.Started) (H : Type) (enc : TypeId × Value → H) :
    ReturnsInHanded {} Try.checked os 5 .any (Rows.fnExactLeastConjugateSpec.pre6 enc Try.prog Try.f5 Rows.fnExactLeastConjugateRow.domain false) (Rows.fnExactLeastConjugateSpec.post enc Try.prog Try.f5 false true false false) := by
  refine returnsInHanded_of_change (C := Try.checked) own started (by kernel_rfl) Try.func5
    (ChangeSpec.witness6 (enc := enc) (C := Try.checked) false ⟨#[], #[.slice none 0 0], []⟩ 8 (by kernel_rfl) (by kernel_rfl) (by kernel_rfl) (by kernel_rfl)) ?_
  intro W base args ds gs before hval0 hW hcnd _
  have hval : ∀ (j : Nat) t v, Try.f5.params[j]? = some t → args[j]? = some v → Value.okWide Try.prog W .any base t v := hval0
  have hW' := hW
  obtain ⟨p, q, hA0, hV, rfl, hfz, hnd⟩ := hW
  have hA : DataW.TrodAll enc Try.prog W 0 (fun _ => true) true Try.f5.params.toList args.toList ds p := hA0
  rw [Try.params5] at hA hval
  obtain ⟨v0, vs0, d0, ds0, p0, q0, hargs, rfl, rfl, h0, r0⟩ := trodAll_cons hA
  obtain ⟨rfl, rfl, rfl⟩ := trodAll_nil r0
  obtain rfl : args = #[v0] := by cases args; simp_all
  obtain ⟨rfl, rfl⟩ := trodVars_none hV
  have k0 := h0
  have lt0 : ∀ x ∈ p0, x.block < W.heap.size := by obtain ⟨m, hm⟩ := k0; exact DataW.trod_lt m _ _ _ hm
  obtain ⟨xs0, l0⟩ := Seqs.open_list h0 (okWide_slice Try.underlying22 (hval 0 22 v0 rfl rfl))
  clear hA0 hval0
  refine (walk W v0 xs0 l0).mono fun e W' ⟨he, hg⟩ => ?_
  subst he
  exact ⟨_, rfl, _, _, _, [], _, [], hW', trodAll_mk1 (shut_bool Try.underlying4 _), (trodAll_cons_mk (Below.trod laidOut (by kernel_rfl) (of_decide_eq_true (by kernel_rfl)) k0 hg lt0) trodAll_mk0), rfl, hg.frame _, fun h => by cases h⟩

theorem over : Rows.fnExactLeastConjugateRow.holds Try.pinned (OpenSpec.ofChange Rows.fnExactLeastConjugateSpec) :=
  OpenClaim.holds_of_wide 5 Try.f5 rfl rfl rfl rfl rfl rfl rfl ⟨rfl, rfl, rfl, rfl, rfl⟩ rfl rfl rfl rfl rfl (by kernel_rfl) Try.func5 (by kernel_rfl)
    (of_decide_eq_true (by kernel_rfl)) (by unfold Func.isWrapper; first | (rw [if_pos (by decide +kernel)]; kernel_rfl) | (rw [if_neg (by decide +kernel)]; exact ⟨rfl, rfl⟩))
    (fun os started H enc _ => lifted os started H enc)
/-- The statement. -/
theorem proved : Rows.FnExactLeastConjugateSaid := over
#print axioms proved
end Go.Proofs.Ytcnejfihpaicdaa.fnExactLeastConjugate
