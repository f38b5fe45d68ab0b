/- The law FnExactDigitSequence answers true for every argument: the program's DigitSequence returns what the model's returns, writes into no argument and hands back memory of its own. Conditions: none beyond the row's own. -/
import Derived.Test.YtjgcmklckchomaaRows
import Derived.WalkKit
import Derived.ProofKit
import Derived.OpenShut
import Derived.ShutString
import Derived.ChangeOld
import Derived.Below
import Derived.PlainAid
import Derived.Lib.Hide
import Derived.Deep.RegionHeld3
import Derived.Deep.DeepCutAuto
import Derived.Outline
import Derived.Test.YtjgcmklckchomaaSeqMark
import Derived.Test.YtjgcmklckchomaaSeqHeld
import Derived.Test.YtjgcmklckchomaaSeqTo
import Derived.Test.YtjgcmklckchomaaSeqOpen
import Derived.Test.YtjgcmklckchomaaSeqEq
import Derived.Test.YtjgcmklckchomaaSeqSz
import Derived.Test.YtjgcmklckchomaaInts
import Derived.Test.YtjgcmklckchomaaDigS
namespace Go.Proofs.Ytjgcmklckchomaa.fnExactDigitSequence
open Go.ChangeShapes Go.WideShapes Go.ChangeAt Go.RowKit
open Go.ChangeMaps (open_string shut_string)
open Go.PlainAid Plain
set_option linter.unusedVariables false

theorem own : ownKnob Try.prog.godebug = none := by kernel_rfl
theorem laidOut : laidOutB Try.prog = true := by kernel_rfl
open Seqs
set_option maxHeartbeats 4000000 in
theorem walk (w : World) (a0 : Int) (w0 : (Lit.int .i64 a0).wf = true) (a1 : Int) (w1 : (Lit.int .i64 a1).wf = true) :
    Calls Try.prog 7 #[.int .i64 a0, .int .i64 a1] w fun e w' => e = .returned (.bool true) ∧ Below w.heap.size w w' := by
  have CS := Lib.hid (fun (W : World)  => Comb.spec_dig a0 a1 W)
  have CI := Lib.hid (fun (W : World)  => Comb.impl_dig a0 a1 W)
  obtain ⟨yb, hyb⟩ : ∃ y, y = Comb.dgB a0 a1 := ⟨_, rfl⟩
  obtain ⟨yr, hyr⟩ : ∃ y, y = Comb.dgR a0 a1 := ⟨_, rfl⟩
  obtain ⟨yo, hyo⟩ : ∃ y, y = Comb.dgO a0 a1 := ⟨_, rfl⟩
  obtain ⟨yk, hyk⟩ : ∃ y, y = Comb.dgK a0 a1 := ⟨_, rfl⟩
  have hyl : tot yr + yo.length ≤ 1000 := by rw [hyr, hyo]; exact Comb.dg_size _ _
  rw [← hyb, ← hyr, ← hyo, ← hyk] at CS CI
  clear hyb hyr hyo hyk
  obtain ⟨Ty, hTy⟩ : ∃ T, T = tot yr + yo.length := ⟨_, rfl⟩
  have HTy := Lib.hid hTy
  have hTyl : Ty ≤ 1000 := by omega
  have hTyd := decide_eq_false (show ¬ (1 : Int) + (Ty : Int) < 0 by omega)
  have hkk : (yk != yk) = false := by simp
  clear hTy hyl
  have HB_0 : Hid (Below w.heap.size w w) := Below.refl _ _
  go_enter Try.func7, Try.ntmps7
  go_wp2_with fail
  refine (CS.out _ ).mono ?_
  rintro e W1 ⟨vp, rfl, h1, fb1⟩
  have HB_1 := Lib.hid (HB_0.out.trans (fb1.mono HB_0.out.size))
  have Z1 := Lib.hid (fb1.size)
  have Rp_1 := Lib.hid h1
  clear HB_0 fb1 h1
  obtain ⟨anp, cnp, aop, cop, rfl⟩ := Rp_1.out.form
  go_wp2_with fail
  have bx2 : Below W1.heap.size W1 (W1.alloc (Obj.cells #[.int .i64 yb, .slice anp yr.length cnp, .slice aop yo.length cop] 27)) := (Below.refl _ _).alloc (Nat.le_refl _) _
  have cx2 := Cells3.new W1 27 (.int .i64 yb) (.slice anp yr.length cnp) (.slice aop yo.length cop)
  have hz2 : (W1.alloc (Obj.cells #[.int .i64 yb, .slice anp yr.length cnp, .slice aop yo.length cop] 27)).heap.size = W1.heap.size + 1 := size_alloc' _ _
  obtain ⟨W2, hW2⟩ : ∃ W, W = (W1.alloc (Obj.cells #[.int .i64 yb, .slice anp yr.length cnp, .slice aop yo.length cop] 27)) := ⟨_, rfl⟩
  rw [← hW2] at bx2 cx2 hz2 ⊢
  have HB_2 := Lib.hid (HB_1.out.trans (bx2.mono HB_1.out.size))
  have Rp_2 := Lib.hid (Rp_1.out.below bx2)
  have Z2 := Lib.hid (bx2.size)
  have CP_2 := Lib.hid cx2
  have Z3 := Lib.hid hz2
  clear Rp_1 HB_1 bx2 hW2 cx2
  clear hz2
  refine (CI.out _ ).mono ?_
  rintro e W3 ⟨vg, rfl, h3, fb3⟩
  have HB_3 := Lib.hid (HB_2.out.trans (fb3.mono HB_2.out.size))
  have CP_3 := Lib.hid (CP_2.out.below fb3)
  have Rp_3 := Lib.hid (Rp_2.out.below fb3)
  have Z4 := Lib.hid (fb3.size)
  have Rg_3 := Lib.hid h3
  clear CP_2 Rp_2 HB_2 fb3 h3
  obtain ⟨ang, cng, aog, cog, rfl⟩ := Rg_3.out.form
  have kP0 := (CP_3.out.alloc (Obj.cells #[.int .i64 yb, .slice ang yr.length cng, .slice aog yo.length cog] 27)).c0
  have kP1 := (CP_3.out.alloc (Obj.cells #[.int .i64 yb, .slice ang yr.length cng, .slice aog yo.length cog] 27)).c1
  have kP2 := (CP_3.out.alloc (Obj.cells #[.int .i64 yb, .slice ang yr.length cng, .slice aog yo.length cog] 27)).c2
  go_wp2_with fail
  clear kP0 kP1 kP2
  have bx4 : Below W3.heap.size W3 (W3.alloc (Obj.cells #[.int .i64 yb, .slice ang yr.length cng, .slice aog yo.length cog] 27)) := (Below.refl _ _).alloc (Nat.le_refl _) _
  have cx4 := Cells3.new W3 27 (.int .i64 yb) (.slice ang yr.length cng) (.slice aog yo.length cog)
  have hz4 : (W3.alloc (Obj.cells #[.int .i64 yb, .slice ang yr.length cng, .slice aog yo.length cog] 27)).heap.size = W3.heap.size + 1 := size_alloc' _ _
  obtain ⟨W4, hW4⟩ : ∃ W, W = (W3.alloc (Obj.cells #[.int .i64 yb, .slice ang yr.length cng, .slice aog yo.length cog] 27)) := ⟨_, rfl⟩
  rw [← hW4] at bx4 cx4 hz4 ⊢
  have HB_4 := Lib.hid (HB_3.out.trans (bx4.mono HB_3.out.size))
  have CP_4 := Lib.hid (CP_3.out.below bx4)
  have Rp_4 := Lib.hid (Rp_3.out.below bx4)
  have Rg_4 := Lib.hid (Rg_3.out.below bx4)
  have Z5 := Lib.hid (bx4.size)
  have CG_4 := Lib.hid cx4
  have Z6 := Lib.hid hz4
  clear CP_3 Rp_3 Rg_3 HB_3 bx4 hW4 cx4
  clear hz4
  refine (eqS _ _ yb yr yo _ Rg_4.out.lies Rp_4.out.lies).mono ?_
  rintro e W5 ⟨rfl, fb5⟩
  have HB_5 := Lib.hid (HB_4.out.trans (fb5.mono HB_4.out.size))
  have CP_5 := Lib.hid (CP_4.out.below fb5)
  have CG_5 := Lib.hid (CG_4.out.below fb5)
  have Rp_5 := Lib.hid (Rp_4.out.below fb5)
  have Rg_5 := Lib.hid (Rg_4.out.below fb5)
  have Z7 := Lib.hid (fb5.size)
  clear CP_4 CG_4 Rp_4 Rg_4 HB_4 fb5
  have kP0 := CP_5.out.c0
  have kP1 := CP_5.out.c1
  have kP2 := CP_5.out.c2
  have kG0 := CG_5.out.c0
  have kG1 := CG_5.out.c1
  have kG2 := CG_5.out.c2
  go_wp2_with fail
  clear kP0 kP1 kP2 kG0 kG1 kG2
  refine (markS' _ yb yr yo Ty _ _ _ HTy.out Rg_5.out (by omega)).mono ?_
  rintro e W6 ⟨rfl, h6, t6⟩
  have HB_6 := Lib.hid (t6.below HB_5.out (by have := Z1.out; have := Z2.out; have := Z3.out; have := Z4.out; have := Z5.out; have := Z6.out; have := Z7.out; omega))
  have CP_6 := Lib.hid (CP_5.out.touch t6 (by have := Z1.out; have := Z2.out; have := Z3.out; have := Z4.out; have := Z5.out; have := Z6.out; have := Z7.out; omega))
  have CG_6 := Lib.hid (CG_5.out.touch t6 (by have := Z1.out; have := Z2.out; have := Z3.out; have := Z4.out; have := Z5.out; have := Z6.out; have := Z7.out; omega))
  have Rp_6 := Lib.hid (Rp_5.out.touch t6 (by have := Z1.out; have := Z2.out; have := Z3.out; have := Z4.out; have := Z5.out; have := Z6.out; have := Z7.out; omega))
  have Z8 := Lib.hid (t6.size)
  have Rg_6 := Lib.hid h6
  clear CP_5 CG_5 Rp_5 Rg_5 HB_5 t6 h6
  have kP0 := CP_6.out.c0
  have kP1 := CP_6.out.c1
  have kP2 := CP_6.out.c2
  have kG0 := CG_6.out.c0
  have kG1 := CG_6.out.c1
  have kG2 := CG_6.out.c2
  go_wp2_with fail
  clear kP0 kP1 kP2 kG0 kG1 kG2
  refine (heldS' _ yb yr yo Ty _ HTy.out Rg_6.out.lies (by omega)).mono ?_
  rintro e W7 ⟨rfl, fb7⟩
  have HB_7 := Lib.hid (HB_6.out.trans (fb7.mono HB_6.out.size))
  have CP_7 := Lib.hid (CP_6.out.below fb7)
  have CG_7 := Lib.hid (CG_6.out.below fb7)
  have Rp_7 := Lib.hid (Rp_6.out.below fb7)
  have Rg_7 := Lib.hid (Rg_6.out.below fb7)
  have Z9 := Lib.hid (fb7.size)
  clear CP_6 CG_6 Rp_6 Rg_6 HB_6 fb7
  have kP0 := CP_7.out.c0
  have kP1 := CP_7.out.c1
  have kP2 := CP_7.out.c2
  have kG0 := CG_7.out.c0
  have kG1 := CG_7.out.c1
  have kG2 := CG_7.out.c2
  go_wp2_with fail
  clear kP0 kP1 kP2 kG0 kG1 kG2
  refine (CI.out _ ).mono ?_
  rintro e W8 ⟨vh, rfl, h8, fb8⟩
  have HB_8 := Lib.hid (HB_7.out.trans (fb8.mono HB_7.out.size))
  have CP_8 := Lib.hid (CP_7.out.below fb8)
  have CG_8 := Lib.hid (CG_7.out.below fb8)
  have Rp_8 := Lib.hid (Rp_7.out.below fb8)
  have Rg_8 := Lib.hid (Rg_7.out.below fb8)
  have Z10 := Lib.hid (fb8.size)
  have Rh_8 := Lib.hid h8
  clear CP_7 CG_7 Rp_7 Rg_7 HB_7 fb8 h8
  obtain ⟨anh, cnh, aoh, coh, rfl⟩ := Rh_8.out.form
  have kP0 := (CP_8.out.alloc (Obj.cells #[.int .i64 yb, .slice anh yr.length cnh, .slice aoh yo.length coh] 27)).c0
  have kP1 := (CP_8.out.alloc (Obj.cells #[.int .i64 yb, .slice anh yr.length cnh, .slice aoh yo.length coh] 27)).c1
  have kP2 := (CP_8.out.alloc (Obj.cells #[.int .i64 yb, .slice anh yr.length cnh, .slice aoh yo.length coh] 27)).c2
  have kG0 := (CG_8.out.alloc (Obj.cells #[.int .i64 yb, .slice anh yr.length cnh, .slice aoh yo.length coh] 27)).c0
  have kG1 := (CG_8.out.alloc (Obj.cells #[.int .i64 yb, .slice anh yr.length cnh, .slice aoh yo.length coh] 27)).c1
  have kG2 := (CG_8.out.alloc (Obj.cells #[.int .i64 yb, .slice anh yr.length cnh, .slice aoh yo.length coh] 27)).c2
  go_wp2_with fail
  clear kP0 kP1 kP2 kG0 kG1 kG2
  have bx9 : Below W8.heap.size W8 (W8.alloc (Obj.cells #[.int .i64 yb, .slice anh yr.length cnh, .slice aoh yo.length coh] 27)) := (Below.refl _ _).alloc (Nat.le_refl _) _
  have cx9 := Cells3.new W8 27 (.int .i64 yb) (.slice anh yr.length cnh) (.slice aoh yo.length coh)
  have hz9 : (W8.alloc (Obj.cells #[.int .i64 yb, .slice anh yr.length cnh, .slice aoh yo.length coh] 27)).heap.size = W8.heap.size + 1 := size_alloc' _ _
  obtain ⟨W9, hW9⟩ : ∃ W, W = (W8.alloc (Obj.cells #[.int .i64 yb, .slice anh yr.length cnh, .slice aoh yo.length coh] 27)) := ⟨_, rfl⟩
  rw [← hW9] at bx9 cx9 hz9 ⊢
  have HB_9 := Lib.hid (HB_8.out.trans (bx9.mono HB_8.out.size))
  have CP_9 := Lib.hid (CP_8.out.below bx9)
  have CG_9 := Lib.hid (CG_8.out.below bx9)
  have Rp_9 := Lib.hid (Rp_8.out.below bx9)
  have Rg_9 := Lib.hid (Rg_8.out.below bx9)
  have Rh_9 := Lib.hid (Rh_8.out.below bx9)
  have Z11 := Lib.hid (bx9.size)
  have CH_9 := Lib.hid cx9
  have Z12 := Lib.hid hz9
  clear CP_8 CG_8 Rp_8 Rg_8 Rh_8 HB_8 bx9 hW9 cx9
  clear hz9
  refine (eqS _ _ yb yr yo _ Rh_9.out.lies Rp_9.out.lies).mono ?_
  rintro e W10 ⟨rfl, fb10⟩
  have HB_10 := Lib.hid (HB_9.out.trans (fb10.mono HB_9.out.size))
  have CP_10 := Lib.hid (CP_9.out.below fb10)
  have CG_10 := Lib.hid (CG_9.out.below fb10)
  have CH_10 := Lib.hid (CH_9.out.below fb10)
  have Rp_10 := Lib.hid (Rp_9.out.below fb10)
  have Rg_10 := Lib.hid (Rg_9.out.below fb10)
  have Rh_10 := Lib.hid (Rh_9.out.below fb10)
  have Z13 := Lib.hid (fb10.size)
  clear CP_9 CG_9 CH_9 Rp_9 Rg_9 Rh_9 HB_9 fb10
  clear Rp_10 Rh_10 CP_10 CH_10
  have kG0 := CG_10.out.c0
  have kG1 := CG_10.out.c1
  have kG2 := CG_10.out.c2
  go_wp2_with fail
  clear kG0 kG1 kG2
  refine (heldS' _ yb yr yo Ty _ HTy.out Rg_10.out.lies (by omega)).mono ?_
  rintro e W11 ⟨rfl, fb11⟩
  have HB_11 := Lib.hid (HB_10.out.trans (fb11.mono HB_10.out.size))
  have CG_11 := Lib.hid (CG_10.out.below fb11)
  have Rg_11 := Lib.hid (Rg_10.out.below fb11)
  have Z14 := Lib.hid (fb11.size)
  clear CG_10 Rg_10 HB_10 fb11
  clear Rg_11 CG_11
  go_wp2
  go_ret
  exact ⟨rfl, HB_11.out⟩


set_option maxRecDepth 100000 in
theorem lifted (os : Os) (started : os.Started) (H : Type) (enc : TypeId × Value → H) :
    ReturnsInHanded {} Try.checked os 7 .any (Rows.fnExactDigitSequenceSpec.pre6 enc Try.prog Try.f7 Rows.fnExactDigitSequenceRow.domain false) (Rows.fnExactDigitSequenceSpec.post enc Try.prog Try.f7 false true false false) := by
  refine returnsInHanded_of_change (C := Try.checked) own started (by kernel_rfl) Try.func7
    (ChangeSpec.witness6 (enc := enc) (C := Try.checked) false ⟨#[], #[.int .i64 0, .int .i64 0], []⟩ 8 (by kernel_rfl) (by kernel_rfl) (by kernel_rfl) (by kernel_rfl)) ?_
  intro W base args ds gs before hval0 hW hcnd _
  have hval : ∀ (j : Nat) t v, Try.f7.params[j]? = some t → args[j]? = some v → Value.okWide Try.prog W .any base t v := hval0
  have hW' := hW
  obtain ⟨p, q, hA0, hV, rfl, hfz, hnd⟩ := hW
  have hA : DataW.TrodAll enc Try.prog W 0 (fun _ => true) true Try.f7.params.toList args.toList ds p := hA0
  rw [Try.params7] at hA hval
  obtain ⟨v0, vs0, d0, ds0, p0, q0, hargs, rfl, rfl, h0, r0⟩ := trodAll_cons hA
  obtain ⟨v1, vs1, d1, ds1, p1, q1, rfl, rfl, rfl, h1, r1⟩ := trodAll_cons r0
  obtain ⟨rfl, rfl, rfl⟩ := trodAll_nil r1
  obtain rfl : args = #[v0, v1] := by cases args; simp_all
  obtain ⟨rfl, rfl⟩ := trodVars_none hV
  obtain ⟨a0, rfl, rfl, rfl, w0⟩ := open_int Try.underlying3 (hval 0 3 v0 rfl rfl) h0
  obtain ⟨a1, rfl, rfl, rfl, w1⟩ := open_int Try.underlying3 (hval 1 3 v1 rfl rfl) h1
  clear hA0 hval0
  simp only [List.append_nil] at hW'
  refine (walk W a0 w0 a1 w1).mono fun e W' ⟨he, hg⟩ => ?_
  subst he
  exact ⟨_, rfl, _, _, _, [], [], [], hW', trodAll_mk1 (shut_bool Try.underlying4 _), (trodAll_cons_mk (shut_int Try.underlying3 w0) (trodAll_cons_mk (shut_int Try.underlying3 w1) trodAll_mk0)), rfl, hg.frame _, fun h => by cases h⟩

theorem over : Rows.fnExactDigitSequenceRow.holds Try.pinned (OpenSpec.ofChange Rows.fnExactDigitSequenceSpec) :=
  OpenClaim.holds_of_wide 7 Try.f7 rfl rfl rfl rfl rfl rfl rfl ⟨rfl, rfl, rfl, rfl, rfl⟩ rfl rfl rfl rfl rfl (by kernel_rfl) Try.func7 (by kernel_rfl)
    (of_decide_eq_true (by kernel_rfl)) (by unfold Func.isWrapper; first | (rw [if_pos (by decide +kernel)]; kernel_rfl) | (rw [if_neg (by decide +kernel)]; exact ⟨rfl, rfl⟩))
    (fun os started H enc _ => lifted os started H enc)
/-- The statement. -/
theorem proved : Rows.FnExactDigitSequenceSaid := over
#print axioms proved
end Go.Proofs.Ytjgcmklckchomaa.fnExactDigitSequence
