/- The law FnExactLyndonWords answers true for every argument: the program's LyndonWords returns what the model's returns, writes into no argument and hands back memory of its own. Conditions: none beyond the row's own. -/
import Derived.Test.YtcnejfihpaicdaaRows
import Derived.WalkKit
import Derived.ProofKit
import Derived.OpenShut
import Derived.ShutString
import Derived.ChangeOld
import Derived.Below
import Derived.PlainAid
import Derived.Lib.Hide
import Derived.Deep.RegionHeld3
import Derived.Deep.DeepCutAuto
import Derived.Outline
import Derived.Test.YtcnejfihpaicdaaInts
import Derived.Test.YtcnejfihpaicdaaSeqSz
import Derived.Test.YtcnejfihpaicdaaSeqOpen
import Derived.Test.YtcnejfihpaicdaaLwS
import Derived.Test.YtcnejfihpaicdaaLwI
import Derived.Test.YtcnejfihpaicdaaSeqMark2
namespace Go.Proofs.Ytcnejfihpaicdaa.fnExactLyndonWords
open Go.ChangeShapes Go.WideShapes Go.ChangeAt Go.RowKit
open Go.ChangeMaps (open_string shut_string)
open Go.PlainAid Plain
set_option linter.unusedVariables false

theorem own : ownKnob Try.prog.godebug = none := by kernel_rfl
theorem laidOut : laidOutB Try.prog = true := by kernel_rfl
open Seqs
set_option maxRecDepth 100000 in
set_option maxHeartbeats 4000000 in
theorem walk (w : World) (a0 : Int) (w0 : (Lit.int .i64 a0).wf = true) (a1 : Int) (w1 : (Lit.int .i64 a1).wf = true) :
    Calls Try.prog 7 #[.int .i64 a0, .int .i64 a1] w fun e w' => e = .returned (.bool true) ∧ Below w.heap.size w w' := by
  have CS := Lib.hid (fun (W : World)  => Lynd.spec_lw a0 a1 W)
  have CI := Lib.hid (fun (W : World)  => Lynd.impl_lw a0 a1 W)
  obtain ⟨yr, hyr⟩ : ∃ y, y = lwV a0 a1 := ⟨_, rfl⟩
  have hyl : tot yr ≤ 2400 := by rw [hyr]; exact Lynd.lwV_size _ _
  rw [← hyr] at CS CI
  clear hyr
  obtain ⟨yk, hyk⟩ : ∃ y, y = lwK a0 a1 := ⟨_, rfl⟩
  rw [← hyk] at CS CI
  clear hyk
  have hkk : (yk != yk) = false := by simp
  obtain ⟨Ty, hTy⟩ : ∃ T, T = tot yr := ⟨_, rfl⟩
  have HTy := Lib.hid hTy
  have hTyl : Ty ≤ 2400 := by omega
  have hTyd := decide_eq_false (show ¬ (1 : Int) + (Ty : Int) < 0 by omega)
  clear hTy hyl
  have HB_0 : Hid (Below w.heap.size w w) := Below.refl _ _
  go_enter Try.func7, Try.ntmps7
  go_wp2_with fail
  refine (CS.out _ ).mono ?_
  rintro e W1 ⟨vp, rfl, h1, fb1⟩
  have HB_1 := Lib.hid (HB_0.out.trans (fb1.mono HB_0.out.size))
  have Z1 := Lib.hid (fb1.size)
  have Rp_1 := Lib.hid h1
  clear HB_0 fb1 h1
  go_wp2_with fail
  refine (CI.out _ ).mono ?_
  rintro e W2 ⟨vg, usg, rfl, h2, fb2⟩
  have HB_2 := Lib.hid (HB_1.out.trans (fb2.mono HB_1.out.size))
  have Rp_2 := Lib.hid (Rp_1.out.below fb2)
  have Z2 := Lib.hid (fb2.size)
  have Rg_2 := Lib.hid h2
  clear Rp_1 HB_1 fb2 h2
  go_wp2_with fail
  refine (Fac.eqR_b _ _ yr _ Rg_2.out.lies Rp_2.out.lies).mono ?_
  rintro e W3 ⟨rfl, fb3⟩
  have HB_3 := Lib.hid (HB_2.out.trans (fb3.mono HB_2.out.size))
  have Rp_3 := Lib.hid (Rp_2.out.below fb3)
  have Rg_3 := Lib.hid (Rg_2.out.below fb3)
  have Z3 := Lib.hid (fb3.size)
  clear Rp_2 Rg_2 HB_2 fb3
  go_wp2_with fail
  refine (Fac.markR' _ _ yr Ty _ _ _ HTy.out Rg_3.out (by omega)).mono ?_
  rintro e W4 ⟨rfl, h4, t4⟩
  have HB_4 := Lib.hid (t4.below HB_3.out (by have := Z1.out; have := Z2.out; have := Z3.out; omega))
  have Rp_4 := Lib.hid (Rp_3.out.touch t4 (by have := Z1.out; have := Z2.out; have := Z3.out; omega))
  have Z4 := Lib.hid (t4.size)
  have Rg_4 := Lib.hid h4
  clear Rp_3 Rg_3 HB_3 t4 h4
  go_wp2_with fail
  refine (Fac.heldR' _ yr Ty _ HTy.out Rg_4.out.lies (by omega)).mono ?_
  rintro e W' ⟨rfl, rfl⟩
  go_wp2_with fail
  refine (CI.out _ ).mono ?_
  rintro e W5 ⟨vh, ush, rfl, h5, fb5⟩
  have HB_5 := Lib.hid (HB_4.out.trans (fb5.mono HB_4.out.size))
  have Rp_5 := Lib.hid (Rp_4.out.below fb5)
  have Rg_5 := Lib.hid (Rg_4.out.below fb5)
  have Z5 := Lib.hid (fb5.size)
  have Rh_5 := Lib.hid h5
  clear Rp_4 Rg_4 HB_4 fb5 h5
  go_wp2_with fail
  refine (Fac.eqR_b _ _ yr _ Rh_5.out.lies Rp_5.out.lies).mono ?_
  rintro e W6 ⟨rfl, fb6⟩
  have HB_6 := Lib.hid (HB_5.out.trans (fb6.mono HB_5.out.size))
  have Rp_6 := Lib.hid (Rp_5.out.below fb6)
  have Rg_6 := Lib.hid (Rg_5.out.below fb6)
  have Rh_6 := Lib.hid (Rh_5.out.below fb6)
  have Z6 := Lib.hid (fb6.size)
  clear Rp_5 Rg_5 Rh_5 HB_5 fb6
  clear Rp_6 Rh_6
  go_wp2_with fail
  refine (Fac.heldR' _ yr Ty _ HTy.out Rg_6.out.lies (by omega)).mono ?_
  rintro e W' ⟨rfl, rfl⟩
  clear Rg_6
  go_wp2
  go_ret
  exact ⟨rfl, HB_6.out⟩


set_option maxRecDepth 100000 in
theorem lifted (os : Os) (started : os.Started) (H : Type) (enc : TypeId × Value → H) :
    ReturnsInHanded {} Try.checked os 7 .any (Rows.fnExactLyndonWordsSpec.pre6 enc Try.prog Try.f7 Rows.fnExactLyndonWordsRow.domain false) (Rows.fnExactLyndonWordsSpec.post enc Try.prog Try.f7 false true false false) := by
  refine returnsInHanded_of_change (C := Try.checked) own started (by kernel_rfl) Try.func7
    (ChangeSpec.witness6 (enc := enc) (C := Try.checked) false ⟨#[], #[.int .i64 0, .int .i64 0], []⟩ 8 (by kernel_rfl) (by kernel_rfl) (by kernel_rfl) (by kernel_rfl)) ?_
  intro W base args ds gs before hval0 hW hcnd _
  have hval : ∀ (j : Nat) t v, Try.f7.params[j]? = some t → args[j]? = some v → Value.okWide Try.prog W .any base t v := hval0
  have hW' := hW
  obtain ⟨p, q, hA0, hV, rfl, hfz, hnd⟩ := hW
  have hA : DataW.TrodAll enc Try.prog W 0 (fun _ => true) true Try.f7.params.toList args.toList ds p := hA0
  rw [Try.params7] at hA hval
  obtain ⟨v0, vs0, d0, ds0, p0, q0, hargs, rfl, rfl, h0, r0⟩ := trodAll_cons hA
  obtain ⟨v1, vs1, d1, ds1, p1, q1, rfl, rfl, rfl, h1, r1⟩ := trodAll_cons r0
  obtain ⟨rfl, rfl, rfl⟩ := trodAll_nil r1
  obtain rfl : args = #[v0, v1] := by cases args; simp_all
  obtain ⟨rfl, rfl⟩ := trodVars_none hV
  obtain ⟨a0, rfl, rfl, rfl, w0⟩ := open_int Try.underlying3 (hval 0 3 v0 rfl rfl) h0
  obtain ⟨a1, rfl, rfl, rfl, w1⟩ := open_int Try.underlying3 (hval 1 3 v1 rfl rfl) h1
  clear hA0 hval0
  simp only [List.append_nil] at hW'
  refine (walk W a0 w0 a1 w1).mono fun e W' ⟨he, hg⟩ => ?_
  subst he
  exact ⟨_, rfl, _, _, _, [], [], [], hW', trodAll_mk1 (shut_bool Try.underlying4 _), (trodAll_cons_mk (shut_int Try.underlying3 w0) (trodAll_cons_mk (shut_int Try.underlying3 w1) trodAll_mk0)), rfl, hg.frame _, fun h => by cases h⟩

theorem over : Rows.fnExactLyndonWordsRow.holds Try.pinned (OpenSpec.ofChange Rows.fnExactLyndonWordsSpec) :=
  OpenClaim.holds_of_wide 7 Try.f7 rfl rfl rfl rfl rfl rfl rfl ⟨rfl, rfl, rfl, rfl, rfl⟩ rfl rfl rfl rfl rfl (by kernel_rfl) Try.func7 (by kernel_rfl)
    (of_decide_eq_true (by kernel_rfl)) (by unfold Func.isWrapper; first | (rw [if_pos (by decide +kernel)]; kernel_rfl) | (rw [if_neg (by decide +kernel)]; exact ⟨rfl, rfl⟩))
    (fun os started H enc _ => lifted os started H enc)
/-- The statement. -/
theorem proved : Rows.FnExactLyndonWordsSaid := over
#print axioms proved
end Go.Proofs.Ytcnejfihpaicdaa.fnExactLyndonWords
