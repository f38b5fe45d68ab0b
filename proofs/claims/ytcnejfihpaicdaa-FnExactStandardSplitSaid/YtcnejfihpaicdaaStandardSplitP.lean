/- The law FnExactStandardSplit answers true for every argument: the program's StandardSplit returns what the model's returns, writes into no argument and hands back memory of its own. Conditions: none beyond the row's own. -/
import Derived.Test.YtcnejfihpaicdaaRows
import Derived.WalkKit
import Derived.ProofKit
import Derived.OpenShut
import Derived.ShutString
import Derived.ChangeOld
import Derived.Below
import Derived.PlainAid
import Derived.Lib.Hide
import Derived.Deep.RegionHeld3
import Derived.Deep.DeepCutAuto
import Derived.Outline
import Derived.Test.YtcnejfihpaicdaaInts
import Derived.Test.YtcnejfihpaicdaaSeqSz
import Derived.Test.YtcnejfihpaicdaaSeqOpen
import Derived.Test.YtcnejfihpaicdaaLynS
import Derived.Test.YtcnejfihpaicdaaSplI
import Derived.Test.YtcnejfihpaicdaaSplS
import Derived.Test.YtcnejfihpaicdaaSeqMark2
namespace Go.Proofs.Ytcnejfihpaicdaa.fnExactStandardSplit
open Go.ChangeShapes Go.WideShapes Go.ChangeAt Go.RowKit
open Go.ChangeMaps (open_string shut_string)
open Go.PlainAid Plain
set_option linter.unusedVariables false

theorem own : ownKnob Try.prog.godebug = none := by kernel_rfl
theorem laidOut : laidOutB Try.prog = true := by kernel_rfl
open Seqs
set_option maxRecDepth 100000 in
set_option maxHeartbeats 4000000 in
theorem walk (w : World) (v0 : Value) (xs0 : List Int) (l0 : Lies (Value.int .i64) w v0 xs0) :
    Calls Try.prog 10 #[v0] w fun e w' => e = .returned (.bool true) ∧ Below w.heap.size w w' := by
  have ARG0 := Lib.hid l0
  obtain ⟨il0, ia0, ic0, rfl, _, _⟩ := l0
  by_cases hs0 : xs0.length ≤ 1048576
  case neg =>
    have hd := decide_eq_true (show (xs0.length : Int) > 1048576 by omega)
    have HB_0 : Hid (Below w.heap.size w w) := Below.refl _ _
    go_enter Try.func10, Try.ntmps10
    go_wp2
    go_ret
    exact ⟨rfl, Below.refl _ _⟩
  have hdi0 := decide_eq_false (show ¬ (xs0.length : Int) > 1048576 by omega)
  have CS := Lib.hid (fun (W : World) (u0 : Value) (l0 : Fac.LiesC W u0 xs0) => Lynd.spec_sp u0 xs0 W l0 (by omega))
  have CI := Lib.hid (fun (W : World) (u0 : Value) (l0 : Fac.LiesC W u0 xs0) => Lynd.impl_sp u0 xs0 W l0 (by omega))
  obtain ⟨ya, hya⟩ : ∃ y, y = spA xs0 := ⟨_, rfl⟩
  obtain ⟨yb, hyb⟩ : ∃ y, y = spB xs0 := ⟨_, rfl⟩
  obtain ⟨yk, hyk⟩ : ∃ y, y = spK xs0 := ⟨_, rfl⟩
  have hyal : ya.length ≤ 1048576 := by rw [hya]; have := (sp_len xs0).1; omega
  have hybl : yb.length ≤ 1048576 := by rw [hyb]; have := (sp_len xs0).2; omega
  have hky := decide_eq_false (show ¬ (1 : Int) + (ya.length : Int) < 0 by omega)
  have hkz := decide_eq_false (show ¬ (1 : Int) + (ya.length : Int) + (yb.length : Int) < 0 by omega)
  rw [← hya, ← hyb, ← hyk] at CS CI
  clear hya hyb hyk
  have hkk : (yk != yk) = false := by simp
  have HB_0 : Hid (Below w.heap.size w w) := Below.refl _ _
  go_enter Try.func10, Try.ntmps10
  go_wp2_with fail
  refine (Ints.copied _ xs0 _ (ARG0.out.below HB_0.out) hs0).mono ?_
  rintro e W1 ⟨vp0, rfl, h1, fb1⟩
  have HB_1 := Lib.hid (HB_0.out.trans (fb1.mono HB_0.out.size))
  have Z1 := Lib.hid (fb1.size)
  have Rp0_1 := Lib.hid (OwnI.of_gives h1)
  clear HB_0 fb1 h1
  go_wp2_with fail
  refine (CS.out _ _ (Fac.LiesC.of_has Rp0_1.out.has)).mono ?_
  rintro e W2 ⟨vap, vbp, rfl, hap, hbp, fb2⟩
  have HB_2 := Lib.hid (HB_1.out.trans (fb2.mono HB_1.out.size))
  have Rp0_2 := Lib.hid (Rp0_1.out.below fb2)
  have Z2 := Lib.hid (fb2.size)
  clear Rp0_1 HB_1 fb2
  clear Rp0_2
  have Rpa_2 := Lib.hid hap
  have Rpb_2 := Lib.hid hbp
  clear hap hbp
  go_wp2_with fail
  refine (Ints.copied _ xs0 _ (ARG0.out.below HB_2.out) hs0).mono ?_
  rintro e W3 ⟨vx0, rfl, h3, fb3⟩
  have HB_3 := Lib.hid (HB_2.out.trans (fb3.mono HB_2.out.size))
  have Rpa_3 := Lib.hid (Rpa_2.out.below fb3)
  have Rpb_3 := Lib.hid (Rpb_2.out.below fb3)
  have Z3 := Lib.hid (fb3.size)
  have Rx0_3 := Lib.hid (OwnI.of_gives h3)
  clear Rpa_2 Rpb_2 HB_2 fb3 h3
  go_wp2_with fail
  refine (CI.out _ _ (Fac.LiesC.of_has Rx0_3.out.has)).mono ?_
  rintro e W4 ⟨vag, vbg, mdg, rfl, hag, hbg, hdg, fb4⟩
  have HB_4 := Lib.hid (HB_3.out.trans (fb4.mono HB_3.out.size))
  have Rpa_4 := Lib.hid (Rpa_3.out.below fb4)
  have Rpb_4 := Lib.hid (Rpb_3.out.below fb4)
  have Rx0_4 := Lib.hid (Rx0_3.out.below fb4)
  have Z4 := Lib.hid (fb4.size)
  clear Rpa_3 Rpb_3 Rx0_3 HB_3 fb4
  have Rga_4 := Lib.hid hag
  have Rgb_4 := Lib.hid hbg
  have Z5 := Lib.hid (hdg)
  clear hag hbg hdg
  go_wp2_with fail
  refine (Ints.eq_yes _ _ ya _ Rga_4.out.lies Rpa_4.out.lies).mono ?_
  rintro e W5 ⟨rfl, fb5⟩
  have HB_5 := Lib.hid (HB_4.out.trans (fb5.mono HB_4.out.size))
  have Rpa_5 := Lib.hid (Rpa_4.out.below fb5)
  have Rpb_5 := Lib.hid (Rpb_4.out.below fb5)
  have Rx0_5 := Lib.hid (Rx0_4.out.below fb5)
  have Rga_5 := Lib.hid (Rga_4.out.below fb5)
  have Rgb_5 := Lib.hid (Rgb_4.out.below fb5)
  have Z6 := Lib.hid (fb5.size)
  clear Rpa_4 Rpb_4 Rx0_4 Rga_4 Rgb_4 HB_4 fb5
  go_wp2_with fail
  refine (Ints.eq_yes _ _ yb _ Rgb_5.out.lies Rpb_5.out.lies).mono ?_
  rintro e W6 ⟨rfl, fb6⟩
  have HB_6 := Lib.hid (HB_5.out.trans (fb6.mono HB_5.out.size))
  have Rpa_6 := Lib.hid (Rpa_5.out.below fb6)
  have Rpb_6 := Lib.hid (Rpb_5.out.below fb6)
  have Rx0_6 := Lib.hid (Rx0_5.out.below fb6)
  have Rga_6 := Lib.hid (Rga_5.out.below fb6)
  have Rgb_6 := Lib.hid (Rgb_5.out.below fb6)
  have Z7 := Lib.hid (fb6.size)
  clear Rpa_5 Rpb_5 Rx0_5 Rga_5 Rgb_5 HB_5 fb6
  go_wp2_with fail
  refine (Ints.copied _ xs0 _ (ARG0.out.below HB_6.out) hs0).mono ?_
  rintro e W7 ⟨vy0, rfl, h7, fb7⟩
  have HB_7 := Lib.hid (HB_6.out.trans (fb7.mono HB_6.out.size))
  have Rpa_7 := Lib.hid (Rpa_6.out.below fb7)
  have Rpb_7 := Lib.hid (Rpb_6.out.below fb7)
  have Rx0_7 := Lib.hid (Rx0_6.out.below fb7)
  have Rga_7 := Lib.hid (Rga_6.out.below fb7)
  have Rgb_7 := Lib.hid (Rgb_6.out.below fb7)
  have Z8 := Lib.hid (fb7.size)
  have Ry0_7 := Lib.hid (OwnI.of_gives h7)
  clear Rpa_6 Rpb_6 Rx0_6 Rga_6 Rgb_6 HB_6 fb7 h7
  go_wp2_with fail
  refine (Ints.eq_yes _ _ xs0 _ Rx0_7.out.lies Ry0_7.out.lies).mono ?_
  rintro e W8 ⟨rfl, fb8⟩
  have HB_8 := Lib.hid (HB_7.out.trans (fb8.mono HB_7.out.size))
  have Rpa_8 := Lib.hid (Rpa_7.out.below fb8)
  have Rpb_8 := Lib.hid (Rpb_7.out.below fb8)
  have Rx0_8 := Lib.hid (Rx0_7.out.below fb8)
  have Rga_8 := Lib.hid (Rga_7.out.below fb8)
  have Rgb_8 := Lib.hid (Rgb_7.out.below fb8)
  have Ry0_8 := Lib.hid (Ry0_7.out.below fb8)
  have Z9 := Lib.hid (fb8.size)
  clear Rpa_7 Rpb_7 Rx0_7 Rga_7 Rgb_7 Ry0_7 HB_7 fb8
  clear Ry0_8
  go_wp2_with fail
  refine (markIk _ xs0 _ _ _ ((1 : Int)) Rx0_8.out (by omega) (by omega) (by omega)).mono ?_
  rintro e W9 ⟨rfl, h9, t9⟩
  have HB_9 := Lib.hid (t9.below HB_8.out (by have := Z1.out; have := Z2.out; have := Z3.out; have := Z4.out; have := Z5.out; have := Z6.out; have := Z7.out; have := Z8.out; have := Z9.out; omega))
  have Rpa_9 := Lib.hid (Rpa_8.out.touch t9 (by have := Z1.out; have := Z2.out; have := Z3.out; have := Z4.out; have := Z5.out; have := Z6.out; have := Z7.out; have := Z8.out; have := Z9.out; omega))
  have Rpb_9 := Lib.hid (Rpb_8.out.touch t9 (by have := Z1.out; have := Z2.out; have := Z3.out; have := Z4.out; have := Z5.out; have := Z6.out; have := Z7.out; have := Z8.out; have := Z9.out; omega))
  have Rga_9 := Lib.hid (Rga_8.out.touch t9 (by have := Z1.out; have := Z2.out; have := Z3.out; have := Z4.out; have := Z5.out; have := Z6.out; have := Z7.out; have := Z8.out; have := Z9.out; omega))
  have Rgb_9 := Lib.hid (Rgb_8.out.touch t9 (by have := Z1.out; have := Z2.out; have := Z3.out; have := Z4.out; have := Z5.out; have := Z6.out; have := Z7.out; have := Z8.out; have := Z9.out; omega))
  have Z10 := Lib.hid (t9.size)
  have Rx0_9 := Lib.hid h9
  clear Rpa_8 Rpb_8 Rx0_8 Rga_8 Rgb_8 HB_8 t9 h9
  clear Rx0_9
  have hkd := decide_eq_false (show ¬ (1 : Int) + (xs0.length : Int) < 0 by omega)
  go_wp2_with fail
  refine (Ints.eq_yes _ _ ya _ Rga_9.out.lies Rpa_9.out.lies).mono ?_
  rintro e W10 ⟨rfl, fb10⟩
  have HB_10 := Lib.hid (HB_9.out.trans (fb10.mono HB_9.out.size))
  have Rpa_10 := Lib.hid (Rpa_9.out.below fb10)
  have Rpb_10 := Lib.hid (Rpb_9.out.below fb10)
  have Rga_10 := Lib.hid (Rga_9.out.below fb10)
  have Rgb_10 := Lib.hid (Rgb_9.out.below fb10)
  have Z11 := Lib.hid (fb10.size)
  clear Rpa_9 Rpb_9 Rga_9 Rgb_9 HB_9 fb10
  go_wp2_with fail
  refine (Ints.eq_yes _ _ yb _ Rgb_10.out.lies Rpb_10.out.lies).mono ?_
  rintro e W11 ⟨rfl, fb11⟩
  have HB_11 := Lib.hid (HB_10.out.trans (fb11.mono HB_10.out.size))
  have Rpa_11 := Lib.hid (Rpa_10.out.below fb11)
  have Rpb_11 := Lib.hid (Rpb_10.out.below fb11)
  have Rga_11 := Lib.hid (Rga_10.out.below fb11)
  have Rgb_11 := Lib.hid (Rgb_10.out.below fb11)
  have Z12 := Lib.hid (fb11.size)
  clear Rpa_10 Rpb_10 Rga_10 Rgb_10 HB_10 fb11
  go_wp2_with fail
  refine (markI' _ ya _ _ _ Rga_11.out (by omega)).mono ?_
  rintro e W12 ⟨rfl, h12, t12⟩
  have HB_12 := Lib.hid (t12.below HB_11.out (by have := Z1.out; have := Z2.out; have := Z3.out; have := Z4.out; have := Z5.out; have := Z6.out; have := Z7.out; have := Z8.out; have := Z9.out; have := Z10.out; have := Z11.out; have := Z12.out; omega))
  have Rpa_12 := Lib.hid (Rpa_11.out.touch t12 (by have := Z1.out; have := Z2.out; have := Z3.out; have := Z4.out; have := Z5.out; have := Z6.out; have := Z7.out; have := Z8.out; have := Z9.out; have := Z10.out; have := Z11.out; have := Z12.out; omega))
  have Rpb_12 := Lib.hid (Rpb_11.out.touch t12 (by have := Z1.out; have := Z2.out; have := Z3.out; have := Z4.out; have := Z5.out; have := Z6.out; have := Z7.out; have := Z8.out; have := Z9.out; have := Z10.out; have := Z11.out; have := Z12.out; omega))
  have Rgb_12 := Lib.hid (Rgb_11.out.touch t12 (by have := Z1.out; have := Z2.out; have := Z3.out; have := Z4.out; have := Z5.out; have := Z6.out; have := Z7.out; have := Z8.out; have := Z9.out; have := Z10.out; have := Z11.out; have := Z12.out; omega))
  have Z13 := Lib.hid (t12.size)
  have Rga_12 := Lib.hid h12
  clear Rpa_11 Rpb_11 Rga_11 Rgb_11 HB_11 t12 h12
  go_wp2_with fail
  refine (markIk _ yb _ _ _ (1 + (ya.length : Int)) Rgb_12.out (by omega) (by omega) (by omega)).mono ?_
  rintro e W13 ⟨rfl, h13, t13⟩
  have HB_13 := Lib.hid (t13.below HB_12.out (by have := Z1.out; have := Z2.out; have := Z3.out; have := Z4.out; have := Z5.out; have := Z6.out; have := Z7.out; have := Z8.out; have := Z9.out; have := Z10.out; have := Z11.out; have := Z12.out; have := Z13.out; omega))
  have Rpa_13 := Lib.hid (Rpa_12.out.touch t13 (by have := Z1.out; have := Z2.out; have := Z3.out; have := Z4.out; have := Z5.out; have := Z6.out; have := Z7.out; have := Z8.out; have := Z9.out; have := Z10.out; have := Z11.out; have := Z12.out; have := Z13.out; omega))
  have Rpb_13 := Lib.hid (Rpb_12.out.touch t13 (by have := Z1.out; have := Z2.out; have := Z3.out; have := Z4.out; have := Z5.out; have := Z6.out; have := Z7.out; have := Z8.out; have := Z9.out; have := Z10.out; have := Z11.out; have := Z12.out; have := Z13.out; omega))
  have Rga_13 := Lib.hid (Rga_12.out.touch t13 (by have := Z1.out; have := Z2.out; have := Z3.out; have := Z4.out; have := Z5.out; have := Z6.out; have := Z7.out; have := Z8.out; have := Z9.out; have := Z10.out; have := Z11.out; have := Z12.out; have := Z13.out; omega))
  have Z14 := Lib.hid (t13.size)
  have Rgb_13 := Lib.hid h13
  clear Rpa_12 Rpb_12 Rga_12 Rgb_12 HB_12 t13 h13
  go_wp2_with fail
  refine (Ints.held _ ya.length _ 1 Rga_13.out.lies (by omega) (by omega)).mono ?_
  rintro e W' ⟨rfl, rfl⟩
  go_wp2_with fail
  refine (Ints.held _ yb.length _ (1 + (ya.length : Int)) Rgb_13.out.lies (by omega) (by omega)).mono ?_
  rintro e W' ⟨rfl, rfl⟩
  go_wp2_with fail
  refine (Ints.copied _ xs0 _ (ARG0.out.below HB_13.out) hs0).mono ?_
  rintro e W14 ⟨vh0, rfl, h14, fb14⟩
  have HB_14 := Lib.hid (HB_13.out.trans (fb14.mono HB_13.out.size))
  have Rpa_14 := Lib.hid (Rpa_13.out.below fb14)
  have Rpb_14 := Lib.hid (Rpb_13.out.below fb14)
  have Rga_14 := Lib.hid (Rga_13.out.below fb14)
  have Rgb_14 := Lib.hid (Rgb_13.out.below fb14)
  have Z15 := Lib.hid (fb14.size)
  have Rh0_14 := Lib.hid (OwnI.of_gives h14)
  clear Rpa_13 Rpb_13 Rga_13 Rgb_13 HB_13 fb14 h14
  go_wp2_with fail
  refine (CI.out _ _ (Fac.LiesC.of_has Rh0_14.out.has)).mono ?_
  rintro e W15 ⟨vah, vbh, mdh, rfl, hah, hbh, hdh, fb15⟩
  have HB_15 := Lib.hid (HB_14.out.trans (fb15.mono HB_14.out.size))
  have Rpa_15 := Lib.hid (Rpa_14.out.below fb15)
  have Rpb_15 := Lib.hid (Rpb_14.out.below fb15)
  have Rga_15 := Lib.hid (Rga_14.out.below fb15)
  have Rgb_15 := Lib.hid (Rgb_14.out.below fb15)
  have Rh0_15 := Lib.hid (Rh0_14.out.below fb15)
  have Z16 := Lib.hid (fb15.size)
  clear Rpa_14 Rpb_14 Rga_14 Rgb_14 Rh0_14 HB_14 fb15
  clear Rh0_15
  have Rha_15 := Lib.hid hah
  have Rhb_15 := Lib.hid hbh
  have Z17 := Lib.hid (hdh)
  clear hah hbh hdh
  go_wp2_with fail
  refine (Ints.eq_yes _ _ ya _ Rha_15.out.lies Rpa_15.out.lies).mono ?_
  rintro e W16 ⟨rfl, fb16⟩
  have HB_16 := Lib.hid (HB_15.out.trans (fb16.mono HB_15.out.size))
  have Rpa_16 := Lib.hid (Rpa_15.out.below fb16)
  have Rpb_16 := Lib.hid (Rpb_15.out.below fb16)
  have Rga_16 := Lib.hid (Rga_15.out.below fb16)
  have Rgb_16 := Lib.hid (Rgb_15.out.below fb16)
  have Rha_16 := Lib.hid (Rha_15.out.below fb16)
  have Rhb_16 := Lib.hid (Rhb_15.out.below fb16)
  have Z18 := Lib.hid (fb16.size)
  clear Rpa_15 Rpb_15 Rga_15 Rgb_15 Rha_15 Rhb_15 HB_15 fb16
  clear Rpa_16 Rha_16
  go_wp2_with fail
  refine (Ints.eq_yes _ _ yb _ Rhb_16.out.lies Rpb_16.out.lies).mono ?_
  rintro e W17 ⟨rfl, fb17⟩
  have HB_17 := Lib.hid (HB_16.out.trans (fb17.mono HB_16.out.size))
  have Rpb_17 := Lib.hid (Rpb_16.out.below fb17)
  have Rga_17 := Lib.hid (Rga_16.out.below fb17)
  have Rgb_17 := Lib.hid (Rgb_16.out.below fb17)
  have Rhb_17 := Lib.hid (Rhb_16.out.below fb17)
  have Z19 := Lib.hid (fb17.size)
  clear Rpb_16 Rga_16 Rgb_16 Rhb_16 HB_16 fb17
  clear Rpb_17 Rhb_17
  go_wp2_with fail
  refine (Ints.held _ ya.length _ 1 Rga_17.out.lies (by omega) (by omega)).mono ?_
  rintro e W' ⟨rfl, rfl⟩
  clear Rga_17
  go_wp2_with fail
  refine (Ints.held _ yb.length _ (1 + (ya.length : Int)) Rgb_17.out.lies (by omega) (by omega)).mono ?_
  rintro e W' ⟨rfl, rfl⟩
  clear Rgb_17
  go_wp2
  go_ret
  exact ⟨rfl, HB_17.out⟩


set_option maxRecDepth 100000 in
theorem lifted (os : Os) (started : os.Started) (H : Type) (enc : TypeId × Value → H) :
    ReturnsInHanded {} Try.checked os 10 .any (Rows.fnExactStandardSplitSpec.pre6 enc Try.prog Try.f10 Rows.fnExactStandardSplitRow.domain false) (Rows.fnExactStandardSplitSpec.post enc Try.prog Try.f10 false true false false) := by
  refine returnsInHanded_of_change (C := Try.checked) own started (by kernel_rfl) Try.func10
    (ChangeSpec.witness6 (enc := enc) (C := Try.checked) false ⟨#[], #[.slice none 0 0], []⟩ 8 (by kernel_rfl) (by kernel_rfl) (by kernel_rfl) (by kernel_rfl)) ?_
  intro W base args ds gs before hval0 hW hcnd _
  have hval : ∀ (j : Nat) t v, Try.f10.params[j]? = some t → args[j]? = some v → Value.okWide Try.prog W .any base t v := hval0
  have hW' := hW
  obtain ⟨p, q, hA0, hV, rfl, hfz, hnd⟩ := hW
  have hA : DataW.TrodAll enc Try.prog W 0 (fun _ => true) true Try.f10.params.toList args.toList ds p := hA0
  rw [Try.params10] at hA hval
  obtain ⟨v0, vs0, d0, ds0, p0, q0, hargs, rfl, rfl, h0, r0⟩ := trodAll_cons hA
  obtain ⟨rfl, rfl, rfl⟩ := trodAll_nil r0
  obtain rfl : args = #[v0] := by cases args; simp_all
  obtain ⟨rfl, rfl⟩ := trodVars_none hV
  have k0 := h0
  have lt0 : ∀ x ∈ p0, x.block < W.heap.size := by obtain ⟨m, hm⟩ := k0; exact DataW.trod_lt m _ _ _ hm
  obtain ⟨xs0, l0⟩ := Seqs.open_list h0 (okWide_slice Try.underlying22 (hval 0 22 v0 rfl rfl))
  clear hA0 hval0
  refine (walk W v0 xs0 l0).mono fun e W' ⟨he, hg⟩ => ?_
  subst he
  exact ⟨_, rfl, _, _, _, [], _, [], hW', trodAll_mk1 (shut_bool Try.underlying4 _), (trodAll_cons_mk (Below.trod laidOut (by kernel_rfl) (of_decide_eq_true (by kernel_rfl)) k0 hg lt0) trodAll_mk0), rfl, hg.frame _, fun h => by cases h⟩

theorem over : Rows.fnExactStandardSplitRow.holds Try.pinned (OpenSpec.ofChange Rows.fnExactStandardSplitSpec) :=
  OpenClaim.holds_of_wide 10 Try.f10 rfl rfl rfl rfl rfl rfl rfl ⟨rfl, rfl, rfl, rfl, rfl⟩ rfl rfl rfl rfl rfl (by kernel_rfl) Try.func10 (by kernel_rfl)
    (of_decide_eq_true (by kernel_rfl)) (by unfold Func.isWrapper; first | (rw [if_pos (by decide +kernel)]; kernel_rfl) | (rw [if_neg (by decide +kernel)]; exact ⟨rfl, rfl⟩))
    (fun os started H enc _ => lifted os started H enc)
/-- The statement. -/
theorem proved : Rows.FnExactStandardSplitSaid := over
#print axioms proved
end Go.Proofs.Ytcnejfihpaicdaa.fnExactStandardSplit
