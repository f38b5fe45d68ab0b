/- The law FnExactReturnWords answers true for every argument: the program's ReturnWords returns what the model's returns, writes into no argument and hands back memory of its own. Conditions: none beyond the row's own. -/
import Derived.Test.YtacpnlmcmjdfkaaRows
import Derived.WalkKit
import Derived.ProofKit
import Derived.OpenShut
import Derived.ShutString
import Derived.ChangeOld
import Derived.Below
import Derived.PlainAid
import Derived.Lib.Hide
import Derived.Deep.RegionHeld3
import Derived.Deep.DeepCutAuto
import Derived.Outline
import Derived.Test.YtacpnlmcmjdfkaaInts
import Derived.Test.YtacpnlmcmjdfkaaSeqSz
import Derived.Test.YtacpnlmcmjdfkaaSeqOpen
import Derived.Test.YtacpnlmcmjdfkaaRsS
import Derived.Test.YtacpnlmcmjdfkaaRetI
import Derived.Test.YtacpnlmcmjdfkaaSeqMark2
namespace Go.Proofs.Ytacpnlmcmjdfkaa.fnExactReturnWords
open Go.ChangeShapes Go.WideShapes Go.ChangeAt Go.RowKit
open Go.ChangeMaps (open_string shut_string)
open Go.PlainAid Plain
set_option linter.unusedVariables false

theorem own : ownKnob Try.prog.godebug = none := by kernel_rfl
theorem laidOut : laidOutB Try.prog = true := by kernel_rfl
open Seqs
set_option maxRecDepth 100000 in
set_option maxHeartbeats 4000000 in
theorem walk (w : World) (v0 : Value) (xs0 : List Int) (l0 : Lies (Value.int .i64) w v0 xs0) (v1 : Value) (xs1 : List Int) (l1 : Lies (Value.int .i64) w v1 xs1) :
    Calls Try.prog 8 #[v0, v1] w fun e w' => e = .returned (.bool true) ∧ Below w.heap.size w w' := by
  have ARG0 := Lib.hid l0
  obtain ⟨il0, ia0, ic0, rfl, _, _⟩ := l0
  have ARG1 := Lib.hid l1
  obtain ⟨il1, ia1, ic1, rfl, _, _⟩ := l1
  by_cases hs0 : xs0.length ≤ 1048576
  case neg =>
    have hd := decide_eq_true (show (xs0.length : Int) > 1048576 by omega)
    have HB_0 : Hid (Below w.heap.size w w) := Below.refl _ _
    go_enter Try.func8, Try.ntmps8
    go_wp2
    go_ret
    exact ⟨rfl, Below.refl _ _⟩
  have hdi0 := decide_eq_false (show ¬ (xs0.length : Int) > 1048576 by omega)
  by_cases hs1 : xs1.length ≤ 1048576
  case neg =>
    have hd := decide_eq_true (show (xs1.length : Int) > 1048576 by omega)
    have HB_0 : Hid (Below w.heap.size w w) := Below.refl _ _
    go_enter Try.func8, Try.ntmps8
    go_wp2
    go_ret
    exact ⟨rfl, Below.refl _ _⟩
  have hdi1 := decide_eq_false (show ¬ (xs1.length : Int) > 1048576 by omega)
  have CS := Lib.hid (fun (W : World) (u0 : Value) (l0 : Fac.LiesC W u0 xs0) (u1 : Value) (l1 : Fac.LiesC W u1 xs1) => Fac.spec_ret u0 u1 xs0 xs1 W l0 l1.lies (by omega))
  have CI := Lib.hid (fun (W : World) (u0 : Value) (l0 : Fac.LiesC W u0 xs0) (u1 : Value) (l1 : Fac.LiesC W u1 xs1) => Fac.impl_ret u0 u1 xs0 xs1 W l0 l1.lies (by omega))
  obtain ⟨yr, hyr⟩ : ∃ y, y = retV xs0 xs1 := ⟨_, rfl⟩
  have hyl : tot yr ≤ 20000 := by rw [hyr]; exact retV_size _ _
  rw [← hyr] at CS CI
  clear hyr
  obtain ⟨Ty, hTy⟩ : ∃ T, T = tot yr := ⟨_, rfl⟩
  have HTy := Lib.hid hTy
  have hTyl : Ty ≤ 20000 := by omega
  have hTyd := decide_eq_false (show ¬ (1 : Int) + (Ty : Int) < 0 by omega)
  clear hTy hyl
  have HB_0 : Hid (Below w.heap.size w w) := Below.refl _ _
  go_enter Try.func8, Try.ntmps8
  go_wp2_with fail
  refine (Ints.copied _ xs0 _ (ARG0.out.below HB_0.out) hs0).mono ?_
  rintro e W1 ⟨vp0, rfl, h1, fb1⟩
  have HB_1 := Lib.hid (HB_0.out.trans (fb1.mono HB_0.out.size))
  have Z1 := Lib.hid (fb1.size)
  have Rp0_1 := Lib.hid (OwnI.of_gives h1)
  clear HB_0 fb1 h1
  go_wp2_with fail
  refine (Ints.copied _ xs1 _ (ARG1.out.below HB_1.out) hs1).mono ?_
  rintro e W2 ⟨vp1, rfl, h2, fb2⟩
  have HB_2 := Lib.hid (HB_1.out.trans (fb2.mono HB_1.out.size))
  have Rp0_2 := Lib.hid (Rp0_1.out.below fb2)
  have Z2 := Lib.hid (fb2.size)
  have Rp1_2 := Lib.hid (OwnI.of_gives h2)
  clear Rp0_1 HB_1 fb2 h2
  go_wp2_with fail
  refine (CS.out _ _ (Fac.LiesC.of_has Rp0_2.out.has) _ (Fac.LiesC.of_has Rp1_2.out.has)).mono ?_
  rintro e W3 ⟨vp, rfl, h3, fb3⟩
  have HB_3 := Lib.hid (HB_2.out.trans (fb3.mono HB_2.out.size))
  have Rp0_3 := Lib.hid (Rp0_2.out.below fb3)
  have Rp1_3 := Lib.hid (Rp1_2.out.below fb3)
  have Z3 := Lib.hid (fb3.size)
  have Rp_3 := Lib.hid h3
  clear Rp0_2 Rp1_2 HB_2 fb3 h3
  clear Rp0_3 Rp1_3
  go_wp2_with fail
  refine (Ints.copied _ xs0 _ (ARG0.out.below HB_3.out) hs0).mono ?_
  rintro e W4 ⟨vx0, rfl, h4, fb4⟩
  have HB_4 := Lib.hid (HB_3.out.trans (fb4.mono HB_3.out.size))
  have Rp_4 := Lib.hid (Rp_3.out.below fb4)
  have Z4 := Lib.hid (fb4.size)
  have Rx0_4 := Lib.hid (OwnI.of_gives h4)
  clear Rp_3 HB_3 fb4 h4
  go_wp2_with fail
  refine (Ints.copied _ xs1 _ (ARG1.out.below HB_4.out) hs1).mono ?_
  rintro e W5 ⟨vx1, rfl, h5, fb5⟩
  have HB_5 := Lib.hid (HB_4.out.trans (fb5.mono HB_4.out.size))
  have Rp_5 := Lib.hid (Rp_4.out.below fb5)
  have Rx0_5 := Lib.hid (Rx0_4.out.below fb5)
  have Z5 := Lib.hid (fb5.size)
  have Rx1_5 := Lib.hid (OwnI.of_gives h5)
  clear Rp_4 Rx0_4 HB_4 fb5 h5
  go_wp2_with fail
  refine (CI.out _ _ (Fac.LiesC.of_has Rx0_5.out.has) _ (Fac.LiesC.of_has Rx1_5.out.has)).mono ?_
  rintro e W6 ⟨vg, usg, rfl, h6, fb6⟩
  have HB_6 := Lib.hid (HB_5.out.trans (fb6.mono HB_5.out.size))
  have Rp_6 := Lib.hid (Rp_5.out.below fb6)
  have Rx0_6 := Lib.hid (Rx0_5.out.below fb6)
  have Rx1_6 := Lib.hid (Rx1_5.out.below fb6)
  have Z6 := Lib.hid (fb6.size)
  have Rg_6 := Lib.hid h6
  clear Rp_5 Rx0_5 Rx1_5 HB_5 fb6 h6
  go_wp2_with fail
  refine (Fac.eqR_b _ _ yr _ Rg_6.out.lies Rp_6.out.lies).mono ?_
  rintro e W7 ⟨rfl, fb7⟩
  have HB_7 := Lib.hid (HB_6.out.trans (fb7.mono HB_6.out.size))
  have Rp_7 := Lib.hid (Rp_6.out.below fb7)
  have Rx0_7 := Lib.hid (Rx0_6.out.below fb7)
  have Rx1_7 := Lib.hid (Rx1_6.out.below fb7)
  have Rg_7 := Lib.hid (Rg_6.out.below fb7)
  have Z7 := Lib.hid (fb7.size)
  clear Rp_6 Rx0_6 Rx1_6 Rg_6 HB_6 fb7
  go_wp2_with fail
  refine (Ints.copied _ xs0 _ (ARG0.out.below HB_7.out) hs0).mono ?_
  rintro e W8 ⟨vy0, rfl, h8, fb8⟩
  have HB_8 := Lib.hid (HB_7.out.trans (fb8.mono HB_7.out.size))
  have Rp_8 := Lib.hid (Rp_7.out.below fb8)
  have Rx0_8 := Lib.hid (Rx0_7.out.below fb8)
  have Rx1_8 := Lib.hid (Rx1_7.out.below fb8)
  have Rg_8 := Lib.hid (Rg_7.out.below fb8)
  have Z8 := Lib.hid (fb8.size)
  have Ry0_8 := Lib.hid (OwnI.of_gives h8)
  clear Rp_7 Rx0_7 Rx1_7 Rg_7 HB_7 fb8 h8
  go_wp2_with fail
  refine (Ints.eq_yes _ _ xs0 _ Rx0_8.out.lies Ry0_8.out.lies).mono ?_
  rintro e W9 ⟨rfl, fb9⟩
  have HB_9 := Lib.hid (HB_8.out.trans (fb9.mono HB_8.out.size))
  have Rp_9 := Lib.hid (Rp_8.out.below fb9)
  have Rx0_9 := Lib.hid (Rx0_8.out.below fb9)
  have Rx1_9 := Lib.hid (Rx1_8.out.below fb9)
  have Rg_9 := Lib.hid (Rg_8.out.below fb9)
  have Ry0_9 := Lib.hid (Ry0_8.out.below fb9)
  have Z9 := Lib.hid (fb9.size)
  clear Rp_8 Rx0_8 Rx1_8 Rg_8 Ry0_8 HB_8 fb9
  clear Ry0_9
  go_wp2_with fail
  refine (Ints.copied _ xs1 _ (ARG1.out.below HB_9.out) hs1).mono ?_
  rintro e W10 ⟨vy1, rfl, h10, fb10⟩
  have HB_10 := Lib.hid (HB_9.out.trans (fb10.mono HB_9.out.size))
  have Rp_10 := Lib.hid (Rp_9.out.below fb10)
  have Rx0_10 := Lib.hid (Rx0_9.out.below fb10)
  have Rx1_10 := Lib.hid (Rx1_9.out.below fb10)
  have Rg_10 := Lib.hid (Rg_9.out.below fb10)
  have Z10 := Lib.hid (fb10.size)
  have Ry1_10 := Lib.hid (OwnI.of_gives h10)
  clear Rp_9 Rx0_9 Rx1_9 Rg_9 HB_9 fb10 h10
  go_wp2_with fail
  refine (Ints.eq_yes _ _ xs1 _ Rx1_10.out.lies Ry1_10.out.lies).mono ?_
  rintro e W11 ⟨rfl, fb11⟩
  have HB_11 := Lib.hid (HB_10.out.trans (fb11.mono HB_10.out.size))
  have Rp_11 := Lib.hid (Rp_10.out.below fb11)
  have Rx0_11 := Lib.hid (Rx0_10.out.below fb11)
  have Rx1_11 := Lib.hid (Rx1_10.out.below fb11)
  have Rg_11 := Lib.hid (Rg_10.out.below fb11)
  have Ry1_11 := Lib.hid (Ry1_10.out.below fb11)
  have Z11 := Lib.hid (fb11.size)
  clear Rp_10 Rx0_10 Rx1_10 Rg_10 Ry1_10 HB_10 fb11
  clear Ry1_11
  go_wp2_with fail
  refine (markIk _ xs0 _ _ _ ((1 : Int)) Rx0_11.out (by omega) (by omega) (by omega)).mono ?_
  rintro e W12 ⟨rfl, h12, t12⟩
  have HB_12 := Lib.hid (t12.below HB_11.out (by have := Z1.out; have := Z2.out; have := Z3.out; have := Z4.out; have := Z5.out; have := Z6.out; have := Z7.out; have := Z8.out; have := Z9.out; have := Z10.out; have := Z11.out; omega))
  have Rp_12 := Lib.hid (Rp_11.out.touch t12 (by have := Z1.out; have := Z2.out; have := Z3.out; have := Z4.out; have := Z5.out; have := Z6.out; have := Z7.out; have := Z8.out; have := Z9.out; have := Z10.out; have := Z11.out; omega))
  have Rx1_12 := Lib.hid (Rx1_11.out.touch t12 (by have := Z1.out; have := Z2.out; have := Z3.out; have := Z4.out; have := Z5.out; have := Z6.out; have := Z7.out; have := Z8.out; have := Z9.out; have := Z10.out; have := Z11.out; omega))
  have Rg_12 := Lib.hid (Rg_11.out.touch t12 (by have := Z1.out; have := Z2.out; have := Z3.out; have := Z4.out; have := Z5.out; have := Z6.out; have := Z7.out; have := Z8.out; have := Z9.out; have := Z10.out; have := Z11.out; omega))
  have Z12 := Lib.hid (t12.size)
  have Rx0_12 := Lib.hid h12
  clear Rp_11 Rx0_11 Rx1_11 Rg_11 HB_11 t12 h12
  clear Rx0_12
  go_wp2_with fail
  refine (markIk _ xs1 _ _ _ ((1 : Int) + (xs0.length : Int)) Rx1_12.out (by omega) (by omega) (by omega)).mono ?_
  rintro e W13 ⟨rfl, h13, t13⟩
  have HB_13 := Lib.hid (t13.below HB_12.out (by have := Z1.out; have := Z2.out; have := Z3.out; have := Z4.out; have := Z5.out; have := Z6.out; have := Z7.out; have := Z8.out; have := Z9.out; have := Z10.out; have := Z11.out; have := Z12.out; omega))
  have Rp_13 := Lib.hid (Rp_12.out.touch t13 (by have := Z1.out; have := Z2.out; have := Z3.out; have := Z4.out; have := Z5.out; have := Z6.out; have := Z7.out; have := Z8.out; have := Z9.out; have := Z10.out; have := Z11.out; have := Z12.out; omega))
  have Rg_13 := Lib.hid (Rg_12.out.touch t13 (by have := Z1.out; have := Z2.out; have := Z3.out; have := Z4.out; have := Z5.out; have := Z6.out; have := Z7.out; have := Z8.out; have := Z9.out; have := Z10.out; have := Z11.out; have := Z12.out; omega))
  have Z13 := Lib.hid (t13.size)
  have Rx1_13 := Lib.hid h13
  clear Rp_12 Rx1_12 Rg_12 HB_12 t13 h13
  clear Rx1_13
  have hkd := decide_eq_false (show ¬ (1 : Int) + (xs0.length : Int) + (xs1.length : Int) < 0 by omega)
  go_wp2_with fail
  refine (Fac.eqR_b _ _ yr _ Rg_13.out.lies Rp_13.out.lies).mono ?_
  rintro e W14 ⟨rfl, fb14⟩
  have HB_14 := Lib.hid (HB_13.out.trans (fb14.mono HB_13.out.size))
  have Rp_14 := Lib.hid (Rp_13.out.below fb14)
  have Rg_14 := Lib.hid (Rg_13.out.below fb14)
  have Z14 := Lib.hid (fb14.size)
  clear Rp_13 Rg_13 HB_13 fb14
  go_wp2_with fail
  refine (Fac.markR' _ _ yr Ty _ _ _ HTy.out Rg_14.out (by omega)).mono ?_
  rintro e W15 ⟨rfl, h15, t15⟩
  have HB_15 := Lib.hid (t15.below HB_14.out (by have := Z1.out; have := Z2.out; have := Z3.out; have := Z4.out; have := Z5.out; have := Z6.out; have := Z7.out; have := Z8.out; have := Z9.out; have := Z10.out; have := Z11.out; have := Z12.out; have := Z13.out; have := Z14.out; omega))
  have Rp_15 := Lib.hid (Rp_14.out.touch t15 (by have := Z1.out; have := Z2.out; have := Z3.out; have := Z4.out; have := Z5.out; have := Z6.out; have := Z7.out; have := Z8.out; have := Z9.out; have := Z10.out; have := Z11.out; have := Z12.out; have := Z13.out; have := Z14.out; omega))
  have Z15 := Lib.hid (t15.size)
  have Rg_15 := Lib.hid h15
  clear Rp_14 Rg_14 HB_14 t15 h15
  go_wp2_with fail
  refine (Fac.heldR' _ yr Ty _ HTy.out Rg_15.out.lies (by omega)).mono ?_
  rintro e W' ⟨rfl, rfl⟩
  go_wp2_with fail
  refine (Ints.copied _ xs0 _ (ARG0.out.below HB_15.out) hs0).mono ?_
  rintro e W16 ⟨vh0, rfl, h16, fb16⟩
  have HB_16 := Lib.hid (HB_15.out.trans (fb16.mono HB_15.out.size))
  have Rp_16 := Lib.hid (Rp_15.out.below fb16)
  have Rg_16 := Lib.hid (Rg_15.out.below fb16)
  have Z16 := Lib.hid (fb16.size)
  have Rh0_16 := Lib.hid (OwnI.of_gives h16)
  clear Rp_15 Rg_15 HB_15 fb16 h16
  go_wp2_with fail
  refine (Ints.copied _ xs1 _ (ARG1.out.below HB_16.out) hs1).mono ?_
  rintro e W17 ⟨vh1, rfl, h17, fb17⟩
  have HB_17 := Lib.hid (HB_16.out.trans (fb17.mono HB_16.out.size))
  have Rp_17 := Lib.hid (Rp_16.out.below fb17)
  have Rg_17 := Lib.hid (Rg_16.out.below fb17)
  have Rh0_17 := Lib.hid (Rh0_16.out.below fb17)
  have Z17 := Lib.hid (fb17.size)
  have Rh1_17 := Lib.hid (OwnI.of_gives h17)
  clear Rp_16 Rg_16 Rh0_16 HB_16 fb17 h17
  go_wp2_with fail
  refine (CI.out _ _ (Fac.LiesC.of_has Rh0_17.out.has) _ (Fac.LiesC.of_has Rh1_17.out.has)).mono ?_
  rintro e W18 ⟨vh, ush, rfl, h18, fb18⟩
  have HB_18 := Lib.hid (HB_17.out.trans (fb18.mono HB_17.out.size))
  have Rp_18 := Lib.hid (Rp_17.out.below fb18)
  have Rg_18 := Lib.hid (Rg_17.out.below fb18)
  have Rh0_18 := Lib.hid (Rh0_17.out.below fb18)
  have Rh1_18 := Lib.hid (Rh1_17.out.below fb18)
  have Z18 := Lib.hid (fb18.size)
  have Rh_18 := Lib.hid h18
  clear Rp_17 Rg_17 Rh0_17 Rh1_17 HB_17 fb18 h18
  clear Rh0_18 Rh1_18
  go_wp2_with fail
  refine (Fac.eqR_b _ _ yr _ Rh_18.out.lies Rp_18.out.lies).mono ?_
  rintro e W19 ⟨rfl, fb19⟩
  have HB_19 := Lib.hid (HB_18.out.trans (fb19.mono HB_18.out.size))
  have Rp_19 := Lib.hid (Rp_18.out.below fb19)
  have Rg_19 := Lib.hid (Rg_18.out.below fb19)
  have Rh_19 := Lib.hid (Rh_18.out.below fb19)
  have Z19 := Lib.hid (fb19.size)
  clear Rp_18 Rg_18 Rh_18 HB_18 fb19
  clear Rp_19 Rh_19
  go_wp2_with fail
  refine (Fac.heldR' _ yr Ty _ HTy.out Rg_19.out.lies (by omega)).mono ?_
  rintro e W' ⟨rfl, rfl⟩
  clear Rg_19
  go_wp2
  go_ret
  exact ⟨rfl, HB_19.out⟩


set_option maxRecDepth 100000 in
theorem lifted (os : Os) (started : os.Started) (H : Type) (enc : TypeId × Value → H) :
    ReturnsInHanded {} Try.checked os 8 .any (Rows.fnExactReturnWordsSpec.pre6 enc Try.prog Try.f8 Rows.fnExactReturnWordsRow.domain false) (Rows.fnExactReturnWordsSpec.post enc Try.prog Try.f8 false true false false) := by
  refine returnsInHanded_of_change (C := Try.checked) own started (by kernel_rfl) Try.func8
    (ChangeSpec.witness6 (enc := enc) (C := Try.checked) false ⟨#[], #[.slice none 0 0, .slice none 0 0], []⟩ 8 (by kernel_rfl) (by kernel_rfl) (by kernel_rfl) (by kernel_rfl)) ?_
  intro W base args ds gs before hval0 hW hcnd _
  have hval : ∀ (j : Nat) t v, Try.f8.params[j]? = some t → args[j]? = some v → Value.okWide Try.prog W .any base t v := hval0
  have hW' := hW
  obtain ⟨p, q, hA0, hV, rfl, hfz, hnd⟩ := hW
  have hA : DataW.TrodAll enc Try.prog W 0 (fun _ => true) true Try.f8.params.toList args.toList ds p := hA0
  rw [Try.params8] at hA hval
  obtain ⟨v0, vs0, d0, ds0, p0, q0, hargs, rfl, rfl, h0, r0⟩ := trodAll_cons hA
  obtain ⟨v1, vs1, d1, ds1, p1, q1, rfl, rfl, rfl, h1, r1⟩ := trodAll_cons r0
  obtain ⟨rfl, rfl, rfl⟩ := trodAll_nil r1
  obtain rfl : args = #[v0, v1] := by cases args; simp_all
  obtain ⟨rfl, rfl⟩ := trodVars_none hV
  have k0 := h0
  have lt0 : ∀ x ∈ p0, x.block < W.heap.size := by obtain ⟨m, hm⟩ := k0; exact DataW.trod_lt m _ _ _ hm
  obtain ⟨xs0, l0⟩ := Seqs.open_list h0 (okWide_slice Try.underlying22 (hval 0 22 v0 rfl rfl))
  have k1 := h1
  have lt1 : ∀ x ∈ p1, x.block < W.heap.size := by obtain ⟨m, hm⟩ := k1; exact DataW.trod_lt m _ _ _ hm
  obtain ⟨xs1, l1⟩ := Seqs.open_list h1 (okWide_slice Try.underlying22 (hval 1 22 v1 rfl rfl))
  clear hA0 hval0
  refine (walk W v0 xs0 l0 v1 xs1 l1).mono fun e W' ⟨he, hg⟩ => ?_
  subst he
  exact ⟨_, rfl, _, _, _, [], _, [], hW', trodAll_mk1 (shut_bool Try.underlying4 _), (trodAll_cons_mk (Below.trod laidOut (by kernel_rfl) (of_decide_eq_true (by kernel_rfl)) k0 hg lt0) (trodAll_cons_mk (Below.trod laidOut (by kernel_rfl) (of_decide_eq_true (by kernel_rfl)) k1 hg lt1) trodAll_mk0)), rfl, hg.frame _, fun h => by cases h⟩

theorem over : Rows.fnExactReturnWordsRow.holds Try.pinned (OpenSpec.ofChange Rows.fnExactReturnWordsSpec) :=
  OpenClaim.holds_of_wide 8 Try.f8 rfl rfl rfl rfl rfl rfl rfl ⟨rfl, rfl, rfl, rfl, rfl⟩ rfl rfl rfl rfl rfl (by kernel_rfl) Try.func8 (by kernel_rfl)
    (of_decide_eq_true (by kernel_rfl)) (by unfold Func.isWrapper; first | (rw [if_pos (by decide +kernel)]; kernel_rfl) | (rw [if_neg (by decide +kernel)]; exact ⟨rfl, rfl⟩))
    (fun os started H enc _ => lifted os started H enc)
/-- The statement. -/
theorem proved : Rows.FnExactReturnWordsSaid := over
#print axioms proved
end Go.Proofs.Ytacpnlmcmjdfkaa.fnExactReturnWords
