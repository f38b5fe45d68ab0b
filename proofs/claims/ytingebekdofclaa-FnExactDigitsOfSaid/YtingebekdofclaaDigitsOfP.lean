/- The law FnExactDigitsOf answers true for every argument: the program's DigitsOf returns what the model's returns, writes into no argument and hands back memory of its own. Conditions: none beyond the row's own. -/
import Derived.Test.YtingebekdofclaaRows
import Derived.WalkKit
import Derived.ProofKit
import Derived.OpenShut
import Derived.ShutString
import Derived.PlainAid
import Derived.Lib.Hide
import Derived.Test.YtingebekdofclaaInts
import Derived.Test.YtingebekdofclaaDigits4
import Derived.ChangeOld
import Derived.Below
namespace Go.Proofs.Ytingebekdofclaa.fnExactDigitsOf
open Go.ChangeShapes Go.WideShapes Go.ChangeAt Go.RowKit
open Go.ChangeMaps (open_string shut_string)
open Go.PlainAid Plain
set_option linter.unusedVariables false      -- a walk need not use every 'w<i>' (that an integer argument fits its kind)

theorem own : ownKnob Try.prog.godebug = none := by kernel_rfl

open Ints Digits
theorem walk (a0 : Int) (a1 : Int) (w0 : (Lit.int .i64 a0).wf = true) (w1 : (Lit.int .i64 a1).wf = true) (w : World) :
    Calls Try.prog 4 #[.int .i64 a0, .int .i64 a1] w fun e w' => e = .returned (.bool true) ∧ Below w.heap.size w w' := by
  obtain ⟨ys, hys⟩ : ∃ ys, ys = digV a0 a1 := ⟨_, rfl⟩
  have hyl : ys.length ≤ 16 := by rw [hys]; exact digV_len _ _
  have hky : decide ((1 : Int) + (ys.length : Int) < 0) = false := decide_eq_false (by omega)
  have CS := Lib.hid (fun (W : World)   => spec_digits_any a0 a1 W)
  have CI := Lib.hid (fun (W : World)   => impl_digits_any a0 a1 W)
  rw [← hys] at CS CI
  clear hys
  go_enter Try.func4, Try.ntmps4
  go_wp2_with fail
  refine (CS.out _  ).mono ?_
  rintro e W1 ⟨vp, rfl, h1, b1⟩
  have HB1 := Lib.hid b1
  have Rp_1 := Lib.hid h1
  have Sp : Hid (w.heap.size ≤ w.heap.size) := Nat.le_refl _
  clear b1 h1
  go_wp2_with fail
  refine (CI.out _  ).mono ?_
  rintro e W2 ⟨vg, rfl, h2, b2⟩
  have HB2 := Lib.hid (HB1.out.trans (b2.mono HB1.out.size))
  have Rp_2 := Lib.hid (Rp_1.out.below b2)
  have Rg_2 := Lib.hid h2
  have Sg : Hid (w.heap.size ≤ W1.heap.size) := HB1.out.size
  have Ap_g := Lib.hid (Rp_1.out.apart h2 (Nat.le_refl _))
  clear b2 h2 Rp_1
  go_wp2_with fail
  refine (Ints.eq_yes _ _ ys _ Rg_2.out.lies Rp_2.out.lies).mono ?_
  rintro e W3 ⟨rfl, b3⟩
  have HB3 := Lib.hid (HB2.out.trans (b3.mono HB2.out.size))
  have Rp_3 := Lib.hid (Rp_2.out.below b3)
  have Rg_3 := Lib.hid (Rg_2.out.below b3)
  clear b3 Rp_2 Rg_2
  go_wp2_with fail
  refine (Ints.mark _ ys _ _ 1 Rg_3.out (by omega) (by omega)).mono ?_
  rintro e W4 ⟨rfl, h4, g4⟩
  have HB4 := Lib.hid (Rg_3.out.frame HB3.out Sg.out g4)
  have Rp_4 := Lib.hid (Rp_3.out.grown g4 Ap_g.out.2)
  have Rg_4 := Lib.hid h4
  clear g4 h4 Rp_3 Rg_3
  go_wp2_with fail
  refine (Ints.held _ ys.length _ 1 Rg_4.out.lies (by omega) (by omega)).mono ?_
  rintro e W' ⟨rfl, rfl⟩
  go_wp2_with fail
  refine (CI.out _  ).mono ?_
  rintro e W5 ⟨vh, rfl, h5, b5⟩
  have HB5 := Lib.hid (HB4.out.trans (b5.mono HB4.out.size))
  have Rp_5 := Lib.hid (Rp_4.out.below b5)
  have Rg_5 := Lib.hid (Rg_4.out.below b5)
  have Rh_5 := Lib.hid h5
  have Sh : Hid (w.heap.size ≤ W4.heap.size) := HB4.out.size
  have Ag_h := Lib.hid (Rg_4.out.apart h5 (Nat.le_refl _))
  clear b5 h5 Rp_4 Rg_4
  go_wp2_with fail
  refine (Ints.eq_yes _ _ ys _ Rh_5.out.lies Rp_5.out.lies).mono ?_
  rintro e W6 ⟨rfl, b6⟩
  have HB6 := Lib.hid (HB5.out.trans (b6.mono HB5.out.size))
  have Rg_6 := Lib.hid (Rg_5.out.below b6)
  clear b6 Rp_5 Rh_5 Rg_5
  go_wp2_with fail
  refine (Ints.held _ ys.length _ 1 Rg_6.out.lies (by omega) (by omega)).mono ?_
  rintro e W' ⟨rfl, rfl⟩
  go_wp2
  go_ret
  exact ⟨rfl, HB6.out⟩

/-! ### THE ROW's STEP: WRITTEN OUT: LEAVE IT -/
set_option maxRecDepth 100000 in
theorem lifted (os : Os) (started : os.Started) (H : Type) (enc : TypeId × Value → H) :
    ReturnsInHanded {} Try.checked os 4 .any (Rows.fnExactDigitsOfSpec.pre6 enc Try.prog Try.f4 Rows.fnExactDigitsOfRow.domain false) (Rows.fnExactDigitsOfSpec.post enc Try.prog Try.f4 false true false false) := by
  refine returnsInHanded_of_change (C := Try.checked) own started (by kernel_rfl) Try.func4
    (ChangeSpec.witness6 (enc := enc) (C := Try.checked) false ⟨#[], #[.int .i64 0, .int .i64 0], []⟩ 8 (by kernel_rfl) (by kernel_rfl) (by kernel_rfl) (by kernel_rfl)) ?_
  intro W base args ds gs before hval0 hW hcnd _
  have hval : ∀ (j : Nat) t v, Try.f4.params[j]? = some t → args[j]? = some v → Value.okWide Try.prog W .any base t v := hval0
  have hW' := hW
  obtain ⟨p, q, hA0, hV, rfl, hfz, hnd⟩ := hW
  have hA : DataW.TrodAll enc Try.prog W 0 (fun _ => true) true Try.f4.params.toList args.toList ds p := hA0
  rw [Try.params4] at hA hval
  obtain ⟨v0, vs0, d0, ds0, p0, q0, hargs, rfl, rfl, h0, r0⟩ := trodAll_cons hA
  obtain ⟨v1, vs1, d1, ds1, p1, q1, rfl, rfl, rfl, h1, r1⟩ := trodAll_cons r0
  obtain ⟨rfl, rfl, rfl⟩ := trodAll_nil r1
  obtain rfl : args = #[v0, v1] := by cases args; simp_all
  obtain ⟨rfl, rfl⟩ := trodVars_none hV
  obtain ⟨a0, rfl, rfl, rfl, w0⟩ := open_int Try.underlying3 (hval 0 3 v0 rfl rfl) h0
  obtain ⟨a1, rfl, rfl, rfl, w1⟩ := open_int Try.underlying3 (hval 1 3 v1 rfl rfl) h1
  clear hA0 hval0
  simp only [List.append_nil] at hW'
  refine (walk a0 a1 w0 w1 W).mono fun e W' ⟨he, hg⟩ => ?_
  subst he
  exact ⟨_, rfl, _, _, _, [], [], [], hW', (trodAll_cons_mk (shut_bool Try.underlying4 _) trodAll_mk0), (trodAll_cons_mk (shut_int Try.underlying3 w0) (trodAll_cons_mk (shut_int Try.underlying3 w1) trodAll_mk0)), rfl, hg.frame _, fun h => by cases h⟩

theorem over : Rows.fnExactDigitsOfRow.holds Try.pinned (OpenSpec.ofChange Rows.fnExactDigitsOfSpec) :=
  OpenClaim.holds_of_wide 4 Try.f4 rfl rfl rfl rfl rfl rfl rfl ⟨rfl, rfl, rfl, rfl, rfl⟩ rfl rfl rfl rfl rfl (by kernel_rfl) Try.func4 (by kernel_rfl)
    (of_decide_eq_true (by kernel_rfl)) (by unfold Func.isWrapper; first | (rw [if_pos (by decide +kernel)]; kernel_rfl) | (rw [if_neg (by decide +kernel)]; exact ⟨rfl, rfl⟩))
    (fun os started H enc _ => lifted os started H enc)

/-- ████ THE STATEMENT ████ -/
theorem proved : Rows.FnExactDigitsOfSaid :=
  over
#print axioms proved
end Go.Proofs.Ytingebekdofclaa.fnExactDigitsOf
