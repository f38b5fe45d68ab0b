/- The law FnExactParseWord answers true for every argument: the program's ParseWord returns what the model's returns, writes into no argument and hands back memory of its own. Conditions: none beyond the row's own. -/
import Derived.Test.YtejbonnkgejngabRows
import Derived.WalkKit
import Derived.ProofKit
import Derived.OpenShut
import Derived.ShutString
import Derived.ChangeOld
import Derived.Below
import Derived.PlainAid
import Derived.Lib.Hide
import Derived.Deep.RegionHeld3
import Derived.Deep.DeepCutAuto
import Derived.Outline
import Derived.Test.YtejbonnkgejngabPwI
import Derived.Test.YtejbonnkgejngabSeqMark2
namespace Go.Proofs.Ytejbonnkgejngab.fnExactParseWord
open Go.ChangeShapes Go.WideShapes Go.ChangeAt Go.RowKit
open Go.ChangeMaps (open_string shut_string)
open Go.PlainAid Plain
set_option linter.unusedVariables false

theorem own : ownKnob Try.prog.godebug = none := by kernel_rfl
theorem laidOut : laidOutB Try.prog = true := by kernel_rfl
open Seqs
set_option maxRecDepth 100000 in
set_option maxHeartbeats 4000000 in
theorem walk (w : World) (a0 : ByteArray) (w0 : a0.size ≤ maxLen) :
    Calls Try.prog 6 #[.string a0] w fun e w' => e = .returned (.bool true) ∧ Below w.heap.size w w' := by
  by_cases hs0 : a0.size ≤ 1048576
  case neg =>
    have hd := decide_eq_true (show (a0.size : Int) > 1048576 by omega)
    have HB_0 : Hid (Below w.heap.size w w) := Below.refl _ _
    go_enter Try.func6, Try.ntmps6
    go_wp2
    go_ret
    exact ⟨rfl, Below.refl _ _⟩
  have hdi0 := decide_eq_false (show ¬ (a0.size : Int) > 1048576 by omega)
  have CS := Lib.hid (fun (W : World)  => Mor.spec_parse a0 W hs0)
  have CI := Lib.hid (fun (W : World)  => Mor.impl_parse a0 W)
  obtain ⟨ys, hys⟩ : ∃ ys, ys = pwV a0 := ⟨_, rfl⟩
  have hyl : ys.length ≤ 400 := by rw [hys]; exact pwV_len _
  have hky := decide_eq_false (show ¬ (1 : Int) + (ys.length : Int) < 0 by omega)
  rw [← hys] at CS CI
  clear hys
  obtain ⟨yk, hyk⟩ : ∃ y, y = pwK a0 := ⟨_, rfl⟩
  rw [← hyk] at CS CI
  clear hyk
  have hkk : (yk != yk) = false := by simp
  have HB_0 : Hid (Below w.heap.size w w) := Below.refl _ _
  go_enter Try.func6, Try.ntmps6
  go_wp2_with fail
  refine (CS.out _ ).mono ?_
  rintro e W1 ⟨vp, rfl, h1, fb1⟩
  have HB_1 := Lib.hid (HB_0.out.trans (fb1.mono HB_0.out.size))
  have Z1 := Lib.hid (fb1.size)
  have Rp_1 := Lib.hid (OwnI.of_gives h1)
  clear HB_0 fb1 h1
  go_wp2_with fail
  refine (CI.out _ ).mono ?_
  rintro e W2 ⟨vg, rfl, h2, fb2⟩
  have HB_2 := Lib.hid (HB_1.out.trans (fb2.mono HB_1.out.size))
  have Rp_2 := Lib.hid (Rp_1.out.below fb2)
  have Z2 := Lib.hid (fb2.size)
  have Rg_2 := Lib.hid (OwnI.of_gives h2)
  clear Rp_1 HB_1 fb2 h2
  go_wp2_with fail
  refine (Ints.eq_yes _ _ ys _ Rg_2.out.lies Rp_2.out.lies).mono ?_
  rintro e W3 ⟨rfl, fb3⟩
  have HB_3 := Lib.hid (HB_2.out.trans (fb3.mono HB_2.out.size))
  have Rp_3 := Lib.hid (Rp_2.out.below fb3)
  have Rg_3 := Lib.hid (Rg_2.out.below fb3)
  have Z3 := Lib.hid (fb3.size)
  clear Rp_2 Rg_2 HB_2 fb3
  go_wp2_with fail
  refine (markI' _ ys _ _ _ Rg_3.out (by omega)).mono ?_
  rintro e W4 ⟨rfl, h4, t4⟩
  have HB_4 := Lib.hid (t4.below HB_3.out (by have := Z1.out; have := Z2.out; have := Z3.out; omega))
  have Rp_4 := Lib.hid (Rp_3.out.touch t4 (by have := Z1.out; have := Z2.out; have := Z3.out; omega))
  have Z4 := Lib.hid (t4.size)
  have Rg_4 := Lib.hid h4
  clear Rp_3 Rg_3 HB_3 t4 h4
  go_wp2_with fail
  refine (Ints.held _ ys.length _ 1 Rg_4.out.lies (by omega) (by omega)).mono ?_
  rintro e W' ⟨rfl, rfl⟩
  go_wp2_with fail
  refine (CI.out _ ).mono ?_
  rintro e W5 ⟨vh, rfl, h5, fb5⟩
  have HB_5 := Lib.hid (HB_4.out.trans (fb5.mono HB_4.out.size))
  have Rp_5 := Lib.hid (Rp_4.out.below fb5)
  have Rg_5 := Lib.hid (Rg_4.out.below fb5)
  have Z5 := Lib.hid (fb5.size)
  have Rh_5 := Lib.hid (OwnI.of_gives h5)
  clear Rp_4 Rg_4 HB_4 fb5 h5
  go_wp2_with fail
  refine (Ints.eq_yes _ _ ys _ Rh_5.out.lies Rp_5.out.lies).mono ?_
  rintro e W6 ⟨rfl, fb6⟩
  have HB_6 := Lib.hid (HB_5.out.trans (fb6.mono HB_5.out.size))
  have Rp_6 := Lib.hid (Rp_5.out.below fb6)
  have Rg_6 := Lib.hid (Rg_5.out.below fb6)
  have Rh_6 := Lib.hid (Rh_5.out.below fb6)
  have Z6 := Lib.hid (fb6.size)
  clear Rp_5 Rg_5 Rh_5 HB_5 fb6
  clear Rp_6 Rh_6
  go_wp2_with fail
  refine (Ints.held _ ys.length _ 1 Rg_6.out.lies (by omega) (by omega)).mono ?_
  rintro e W' ⟨rfl, rfl⟩
  clear Rg_6
  go_wp2
  go_ret
  exact ⟨rfl, HB_6.out⟩


set_option maxRecDepth 100000 in
theorem lifted (os : Os) (started : os.Started) (H : Type) (enc : TypeId × Value → H) :
    ReturnsInHanded {} Try.checked os 6 .any (Rows.fnExactParseWordSpec.pre6 enc Try.prog Try.f6 Rows.fnExactParseWordRow.domain false) (Rows.fnExactParseWordSpec.post enc Try.prog Try.f6 false true false false) := by
  refine returnsInHanded_of_change (C := Try.checked) own started (by kernel_rfl) Try.func6
    (ChangeSpec.witness6 (enc := enc) (C := Try.checked) false ⟨#[], #[.string ⟨#[]⟩], []⟩ 8 (by kernel_rfl) (by kernel_rfl) (by kernel_rfl) (by kernel_rfl)) ?_
  intro W base args ds gs before hval0 hW hcnd _
  have hval : ∀ (j : Nat) t v, Try.f6.params[j]? = some t → args[j]? = some v → Value.okWide Try.prog W .any base t v := hval0
  have hW' := hW
  obtain ⟨p, q, hA0, hV, rfl, hfz, hnd⟩ := hW
  have hA : DataW.TrodAll enc Try.prog W 0 (fun _ => true) true Try.f6.params.toList args.toList ds p := hA0
  rw [Try.params6] at hA hval
  obtain ⟨v0, vs0, d0, ds0, p0, q0, hargs, rfl, rfl, h0, r0⟩ := trodAll_cons hA
  obtain ⟨rfl, rfl, rfl⟩ := trodAll_nil r0
  obtain rfl : args = #[v0] := by cases args; simp_all
  obtain ⟨rfl, rfl⟩ := trodVars_none hV
  obtain ⟨a0, rfl, rfl, rfl, w0⟩ := open_string Try.underlying9 (hval 0 9 v0 rfl rfl) h0
  clear hA0 hval0
  simp only [List.append_nil] at hW'
  refine (walk W a0 w0).mono fun e W' ⟨he, hg⟩ => ?_
  subst he
  exact ⟨_, rfl, _, _, _, [], [], [], hW', trodAll_mk1 (shut_bool Try.underlying4 _), (trodAll_cons_mk (shut_string Try.underlying9 w0) trodAll_mk0), rfl, hg.frame _, fun h => by cases h⟩

theorem over : Rows.fnExactParseWordRow.holds Try.pinned (OpenSpec.ofChange Rows.fnExactParseWordSpec) :=
  OpenClaim.holds_of_wide 6 Try.f6 rfl rfl rfl rfl rfl rfl rfl ⟨rfl, rfl, rfl, rfl, rfl⟩ rfl rfl rfl rfl rfl (by kernel_rfl) Try.func6 (by kernel_rfl)
    (of_decide_eq_true (by kernel_rfl)) (by unfold Func.isWrapper; first | (rw [if_pos (by decide +kernel)]; kernel_rfl) | (rw [if_neg (by decide +kernel)]; exact ⟨rfl, rfl⟩))
    (fun os started H enc _ => lifted os started H enc)
/-- The statement. -/
theorem proved : Rows.FnExactParseWordSaid := over
#print axioms proved
end Go.Proofs.Ytejbonnkgejngab.fnExactParseWord
