/- The law FnExactNamedSequence answers true for every argument: the program's NamedSequence returns what the model's returns, writes into no argument and hands back memory of its own. Conditions: none beyond the row's own. -/
import Derived.Test.YtbebifnnnmgihabDoorCards
import Derived.Test.YtbebifnnnmgihabDoorTie
import Derived.WalkKit
import Derived.ProofKit
import Derived.OpenShut
import Derived.ShutString
import Derived.ChangeOld
import Derived.Below
import Derived.Deep.DeepHandedRow
import Derived.Lib.LaidTab
import Derived.Stop.LaidErr
import Derived.PlainAid
import Derived.Lib.Hide
import Derived.Deep.RegionHeld3
import Derived.Deep.DeepCutAuto
import Derived.Outline
import Derived.Test.YtbebifnnnmgihabDoorInts
import Derived.Test.YtbebifnnnmgihabDoorSeqMark
import Derived.Test.YtbebifnnnmgihabDoorSeqHeld
import Derived.Test.YtbebifnnnmgihabDoorSeqTo
import Derived.Test.YtbebifnnnmgihabDoorSeqOpen
import Derived.Test.YtbebifnnnmgihabDoorSeqEq
import Derived.Test.YtbebifnnnmgihabDoorSeqSz
import Derived.Test.YtbebifnnnmgihabDoorSeqForm
import Derived.Test.YtbebifnnnmgihabDoorNamI
import Derived.Test.YtbebifnnnmgihabDoorParSz
namespace Go.Proofs.YtbebifnnnmgihabDoor.fnExactNamedSequence
open Go.ChangeShapes Go.WideShapes Go.ChangeAt Go.RowKit
open Go.ChangeMaps (open_string shut_string)
open Go.PlainAid Plain
set_option linter.unusedVariables false

theorem own : ownKnob Tryd.prog.godebug = none := by kernel_rfl
theorem laidOut : laidOutB Tryd.prog = true := by kernel_rfl
theorem gTab : Tryd.prog.globalNamed "internal/strconv.uint64pow10" = some 1 := by kernel_rfl
theorem gTabType : (Tryd.prog.globals[1]?).map (·.type) = some 95 := by kernel_rfl
theorem cellsT : Tryd.prog.cellsOf 95 = 20 := by kernel_rfl
theorem cellsE : Tryd.prog.cellsOf 86 = 1 := by kernel_rfl
/-- What the row's list gives of the table of powers of ten. -/
theorem table {W : World} (h : laidMetH Tryd.prog Rows.fnExactNamedSequenceRow.laid W) : Lib.TabIs Tryd.prog W "internal/strconv.uint64pow10" .u64 Lib.pow10Tab := by
  have h1 : laidMet Tryd.prog Rows.fnExactNamedSequenceRow.laid W := h
  exact Lib.tabIs_of_head gTab gTabType Tryd.underlying95 Tryd.underlying86 cellsE cellsT h1.tail.tail
open Seqs
set_option maxRecDepth 100000 in
set_option maxHeartbeats 4000000 in
theorem walk (w : World) (a0 : ByteArray) (w0 : a0.size ≤ maxLen) (htab : Lib.TabIs Tryd.prog w "internal/strconv.uint64pow10" .u64 Lib.pow10Tab) (hsh : w.ShapedOpen Tryd.prog) :
    Calls Tryd.prog 5 #[.string a0] w fun e w' => e = .returned (.bool true) ∧ Below w.heap.size w w' := by
  have HT0 := Lib.hid htab
  have HTB := Lib.hid (fun (w' : World) (h : Below w.heap.size w w') => var?_below (P := Tryd.prog) (n := "internal/strconv.uint64pow10") h gTab (by
    have h1 := HT0.out
    unfold Lib.TabIs World.var? at h1
    rw [gTab] at h1
    simp only [Option.bind_some] at h1
    rcases Nat.lt_or_ge 1 w.heap.size with h2 | h2
    · exact h2
    · rw [Array.getElem?_eq_none h2] at h1; simp at h1) HT0.out)
  clear htab HT0
  obtain ⟨mx, hmx⟩ := Par.maxlen_cell hsh
  have HMX := Lib.hid hmx
  clear hsh hmx
  by_cases hs0 : a0.size ≤ 1048576
  case neg =>
    have hd := decide_eq_true (show (a0.size : Int) > 1048576 by omega)
    have HB_0 : Hid (Below w.heap.size w w) := Below.refl _ _
    go_enter Tryd.func5, Tryd.ntmps5
    go_wp2
    go_ret
    exact ⟨rfl, Below.refl _ _⟩
  have hdi0 := decide_eq_false (show ¬ (a0.size : Int) > 1048576 by omega)
  have CS := Lib.hid (fun (W : World) (hw : Below w.heap.size w W) => Nam.spec_named a0 W hs0)
  have CI := Lib.hid (fun (W : World) (hw : Below w.heap.size w W) => Nam.impl_named a0 mx W (ParI.old_cellP hw HMX.out) (fun W' h => HTB.out W' (hw.trans (h.mono hw.size))))
  obtain ⟨yb, hyb⟩ : ∃ y, y = parVB (namedT a0.data.toList) := ⟨_, rfl⟩
  obtain ⟨yr, hyr⟩ : ∃ y, y = parVR (namedT a0.data.toList) := ⟨_, rfl⟩
  obtain ⟨yo, hyo⟩ : ∃ y, y = parVO (namedT a0.data.toList) := ⟨_, rfl⟩
  obtain ⟨yk, hyk⟩ : ∃ y, y = parK (namedT a0.data.toList) := ⟨_, rfl⟩
  have hyl : tot yr + yo.length ≤ 1000 := by rw [hyr, hyo]; exact Par.par_size _
  rw [← hyb, ← hyr, ← hyo, ← hyk] at CS CI
  clear hyb hyr hyo hyk
  obtain ⟨Ty, hTy⟩ : ∃ T, T = tot yr + yo.length := ⟨_, rfl⟩
  have HTy := Lib.hid hTy
  have hTyl : Ty ≤ 1000 := by omega
  have hTyd := decide_eq_false (show ¬ (1 : Int) + (Ty : Int) < 0 by omega)
  have hkk : (yk != yk) = false := by simp
  clear hTy hyl
  have HB_0 : Hid (Below w.heap.size w w) := Below.refl _ _
  go_enter Tryd.func5, Tryd.ntmps5
  go_wp2_with fail
  refine (CS.out _ HB_0.out ).mono ?_
  rintro e W1 ⟨vp, rfl, h1, fb1⟩
  have HB_1 := Lib.hid (HB_0.out.trans (fb1.mono HB_0.out.size))
  have Z1 := Lib.hid (fb1.size)
  have Rp_1 := Lib.hid h1
  clear HB_0 fb1 h1
  obtain ⟨anp, cnp, aop, cop, rfl⟩ := Rp_1.out.form
  go_wp2_with fail
  have bx2 : Below W1.heap.size W1 (W1.alloc (Obj.cells #[.int .i64 yb, .slice anp yr.length cnp, .slice aop yo.length cop] 28)) := (Below.refl _ _).alloc (Nat.le_refl _) _
  have cx2 := Cells3.new W1 28 (.int .i64 yb) (.slice anp yr.length cnp) (.slice aop yo.length cop)
  have hz2 : (W1.alloc (Obj.cells #[.int .i64 yb, .slice anp yr.length cnp, .slice aop yo.length cop] 28)).heap.size = W1.heap.size + 1 := size_alloc' _ _
  obtain ⟨W2, hW2⟩ : ∃ W, W = (W1.alloc (Obj.cells #[.int .i64 yb, .slice anp yr.length cnp, .slice aop yo.length cop] 28)) := ⟨_, rfl⟩
  rw [← hW2] at bx2 cx2 hz2 ⊢
  have HB_2 := Lib.hid (HB_1.out.trans (bx2.mono HB_1.out.size))
  have Rp_2 := Lib.hid (Rp_1.out.below bx2)
  have Z2 := Lib.hid (bx2.size)
  have CP_2 := Lib.hid cx2
  have Z3 := Lib.hid hz2
  clear Rp_1 HB_1 bx2 hW2 cx2
  clear hz2
  refine (CI.out _ HB_2.out ).mono ?_
  rintro e W3 ⟨vg, rfl, h3, fb3⟩
  have HB_3 := Lib.hid (HB_2.out.trans (fb3.mono HB_2.out.size))
  have CP_3 := Lib.hid (CP_2.out.below fb3)
  have Rp_3 := Lib.hid (Rp_2.out.below fb3)
  have Z4 := Lib.hid (fb3.size)
  have Rg_3 := Lib.hid h3
  clear CP_2 Rp_2 HB_2 fb3 h3
  obtain ⟨ang, cng, aog, cog, rfl⟩ := Rg_3.out.form
  have kP0 := (CP_3.out.alloc (Obj.cells #[.int .i64 yb, .slice ang yr.length cng, .slice aog yo.length cog] 28)).c0
  have kP1 := (CP_3.out.alloc (Obj.cells #[.int .i64 yb, .slice ang yr.length cng, .slice aog yo.length cog] 28)).c1
  have kP2 := (CP_3.out.alloc (Obj.cells #[.int .i64 yb, .slice ang yr.length cng, .slice aog yo.length cog] 28)).c2
  go_wp2_with fail
  clear kP0 kP1 kP2
  have bx4 : Below W3.heap.size W3 (W3.alloc (Obj.cells #[.int .i64 yb, .slice ang yr.length cng, .slice aog yo.length cog] 28)) := (Below.refl _ _).alloc (Nat.le_refl _) _
  have cx4 := Cells3.new W3 28 (.int .i64 yb) (.slice ang yr.length cng) (.slice aog yo.length cog)
  have hz4 : (W3.alloc (Obj.cells #[.int .i64 yb, .slice ang yr.length cng, .slice aog yo.length cog] 28)).heap.size = W3.heap.size + 1 := size_alloc' _ _
  obtain ⟨W4, hW4⟩ : ∃ W, W = (W3.alloc (Obj.cells #[.int .i64 yb, .slice ang yr.length cng, .slice aog yo.length cog] 28)) := ⟨_, rfl⟩
  rw [← hW4] at bx4 cx4 hz4 ⊢
  have HB_4 := Lib.hid (HB_3.out.trans (bx4.mono HB_3.out.size))
  have CP_4 := Lib.hid (CP_3.out.below bx4)
  have Rp_4 := Lib.hid (Rp_3.out.below bx4)
  have Rg_4 := Lib.hid (Rg_3.out.below bx4)
  have Z5 := Lib.hid (bx4.size)
  have CG_4 := Lib.hid cx4
  have Z6 := Lib.hid hz4
  clear CP_3 Rp_3 Rg_3 HB_3 bx4 hW4 cx4
  clear hz4
  refine (eqS _ _ yb yr yo _ Rg_4.out.lies Rp_4.out.lies).mono ?_
  rintro e W5 ⟨rfl, fb5⟩
  have HB_5 := Lib.hid (HB_4.out.trans (fb5.mono HB_4.out.size))
  have CP_5 := Lib.hid (CP_4.out.below fb5)
  have CG_5 := Lib.hid (CG_4.out.below fb5)
  have Rp_5 := Lib.hid (Rp_4.out.below fb5)
  have Rg_5 := Lib.hid (Rg_4.out.below fb5)
  have Z7 := Lib.hid (fb5.size)
  clear CP_4 CG_4 Rp_4 Rg_4 HB_4 fb5
  have kP0 := CP_5.out.c0
  have kP1 := CP_5.out.c1
  have kP2 := CP_5.out.c2
  have kG0 := CG_5.out.c0
  have kG1 := CG_5.out.c1
  have kG2 := CG_5.out.c2
  go_wp2_with fail
  clear kP0 kP1 kP2 kG0 kG1 kG2
  refine (markS' _ yb yr yo Ty _ _ _ HTy.out Rg_5.out (by omega)).mono ?_
  rintro e W6 ⟨rfl, h6, t6⟩
  have HB_6 := Lib.hid (t6.below HB_5.out (by have := Z1.out; have := Z2.out; have := Z3.out; have := Z4.out; have := Z5.out; have := Z6.out; have := Z7.out; omega))
  have CP_6 := Lib.hid (CP_5.out.touch t6 (by have := Z1.out; have := Z2.out; have := Z3.out; have := Z4.out; have := Z5.out; have := Z6.out; have := Z7.out; omega))
  have CG_6 := Lib.hid (CG_5.out.touch t6 (by have := Z1.out; have := Z2.out; have := Z3.out; have := Z4.out; have := Z5.out; have := Z6.out; have := Z7.out; omega))
  have Rp_6 := Lib.hid (Rp_5.out.touch t6 (by have := Z1.out; have := Z2.out; have := Z3.out; have := Z4.out; have := Z5.out; have := Z6.out; have := Z7.out; omega))
  have Z8 := Lib.hid (t6.size)
  have Rg_6 := Lib.hid h6
  clear CP_5 CG_5 Rp_5 Rg_5 HB_5 t6 h6
  have kP0 := CP_6.out.c0
  have kP1 := CP_6.out.c1
  have kP2 := CP_6.out.c2
  have kG0 := CG_6.out.c0
  have kG1 := CG_6.out.c1
  have kG2 := CG_6.out.c2
  go_wp2_with fail
  clear kP0 kP1 kP2 kG0 kG1 kG2
  refine (heldS' _ yb yr yo Ty _ HTy.out Rg_6.out.lies (by omega)).mono ?_
  rintro e W7 ⟨rfl, fb7⟩
  have HB_7 := Lib.hid (HB_6.out.trans (fb7.mono HB_6.out.size))
  have CP_7 := Lib.hid (CP_6.out.below fb7)
  have CG_7 := Lib.hid (CG_6.out.below fb7)
  have Rp_7 := Lib.hid (Rp_6.out.below fb7)
  have Rg_7 := Lib.hid (Rg_6.out.below fb7)
  have Z9 := Lib.hid (fb7.size)
  clear CP_6 CG_6 Rp_6 Rg_6 HB_6 fb7
  have kP0 := CP_7.out.c0
  have kP1 := CP_7.out.c1
  have kP2 := CP_7.out.c2
  have kG0 := CG_7.out.c0
  have kG1 := CG_7.out.c1
  have kG2 := CG_7.out.c2
  go_wp2_with fail
  clear kP0 kP1 kP2 kG0 kG1 kG2
  refine (CI.out _ HB_7.out ).mono ?_
  rintro e W8 ⟨vh, rfl, h8, fb8⟩
  have HB_8 := Lib.hid (HB_7.out.trans (fb8.mono HB_7.out.size))
  have CP_8 := Lib.hid (CP_7.out.below fb8)
  have CG_8 := Lib.hid (CG_7.out.below fb8)
  have Rp_8 := Lib.hid (Rp_7.out.below fb8)
  have Rg_8 := Lib.hid (Rg_7.out.below fb8)
  have Z10 := Lib.hid (fb8.size)
  have Rh_8 := Lib.hid h8
  clear CP_7 CG_7 Rp_7 Rg_7 HB_7 fb8 h8
  obtain ⟨anh, cnh, aoh, coh, rfl⟩ := Rh_8.out.form
  have kP0 := (CP_8.out.alloc (Obj.cells #[.int .i64 yb, .slice anh yr.length cnh, .slice aoh yo.length coh] 28)).c0
  have kP1 := (CP_8.out.alloc (Obj.cells #[.int .i64 yb, .slice anh yr.length cnh, .slice aoh yo.length coh] 28)).c1
  have kP2 := (CP_8.out.alloc (Obj.cells #[.int .i64 yb, .slice anh yr.length cnh, .slice aoh yo.length coh] 28)).c2
  have kG0 := (CG_8.out.alloc (Obj.cells #[.int .i64 yb, .slice anh yr.length cnh, .slice aoh yo.length coh] 28)).c0
  have kG1 := (CG_8.out.alloc (Obj.cells #[.int .i64 yb, .slice anh yr.length cnh, .slice aoh yo.length coh] 28)).c1
  have kG2 := (CG_8.out.alloc (Obj.cells #[.int .i64 yb, .slice anh yr.length cnh, .slice aoh yo.length coh] 28)).c2
  go_wp2_with fail
  clear kP0 kP1 kP2 kG0 kG1 kG2
  have bx9 : Below W8.heap.size W8 (W8.alloc (Obj.cells #[.int .i64 yb, .slice anh yr.length cnh, .slice aoh yo.length coh] 28)) := (Below.refl _ _).alloc (Nat.le_refl _) _
  have cx9 := Cells3.new W8 28 (.int .i64 yb) (.slice anh yr.length cnh) (.slice aoh yo.length coh)
  have hz9 : (W8.alloc (Obj.cells #[.int .i64 yb, .slice anh yr.length cnh, .slice aoh yo.length coh] 28)).heap.size = W8.heap.size + 1 := size_alloc' _ _
  obtain ⟨W9, hW9⟩ : ∃ W, W = (W8.alloc (Obj.cells #[.int .i64 yb, .slice anh yr.length cnh, .slice aoh yo.length coh] 28)) := ⟨_, rfl⟩
  rw [← hW9] at bx9 cx9 hz9 ⊢
  have HB_9 := Lib.hid (HB_8.out.trans (bx9.mono HB_8.out.size))
  have CP_9 := Lib.hid (CP_8.out.below bx9)
  have CG_9 := Lib.hid (CG_8.out.below bx9)
  have Rp_9 := Lib.hid (Rp_8.out.below bx9)
  have Rg_9 := Lib.hid (Rg_8.out.below bx9)
  have Rh_9 := Lib.hid (Rh_8.out.below bx9)
  have Z11 := Lib.hid (bx9.size)
  have CH_9 := Lib.hid cx9
  have Z12 := Lib.hid hz9
  clear CP_8 CG_8 Rp_8 Rg_8 Rh_8 HB_8 bx9 hW9 cx9
  clear hz9
  refine (eqS _ _ yb yr yo _ Rh_9.out.lies Rp_9.out.lies).mono ?_
  rintro e W10 ⟨rfl, fb10⟩
  have HB_10 := Lib.hid (HB_9.out.trans (fb10.mono HB_9.out.size))
  have CP_10 := Lib.hid (CP_9.out.below fb10)
  have CG_10 := Lib.hid (CG_9.out.below fb10)
  have CH_10 := Lib.hid (CH_9.out.below fb10)
  have Rp_10 := Lib.hid (Rp_9.out.below fb10)
  have Rg_10 := Lib.hid (Rg_9.out.below fb10)
  have Rh_10 := Lib.hid (Rh_9.out.below fb10)
  have Z13 := Lib.hid (fb10.size)
  clear CP_9 CG_9 CH_9 Rp_9 Rg_9 Rh_9 HB_9 fb10
  clear Rp_10 Rh_10 CP_10 CH_10
  have kG0 := CG_10.out.c0
  have kG1 := CG_10.out.c1
  have kG2 := CG_10.out.c2
  go_wp2_with fail
  clear kG0 kG1 kG2
  refine (heldS' _ yb yr yo Ty _ HTy.out Rg_10.out.lies (by omega)).mono ?_
  rintro e W11 ⟨rfl, fb11⟩
  have HB_11 := Lib.hid (HB_10.out.trans (fb11.mono HB_10.out.size))
  have CG_11 := Lib.hid (CG_10.out.below fb11)
  have Rg_11 := Lib.hid (Rg_10.out.below fb11)
  have Z14 := Lib.hid (fb11.size)
  clear CG_10 Rg_10 HB_10 fb11
  clear Rg_11 CG_11
  go_wp2
  go_ret
  exact ⟨rfl, HB_11.out⟩


/-- What the walk gives, for every argument and every world that holds the tables. -/
theorem contract (H : Type) (enc : TypeId × Value → H) (W : World) (base : Nat) (args : Array Value) (ds gs : List (DataW H)) (before : List MemPlace)
    (hval : ∀ (j : Nat) t v, Tryd.f5.params[j]? = some t → args[j]? = some v → Value.okWide Tryd.prog W .any base t v)
    (hW : DataW.Whole enc Tryd.prog Tryd.f5.params.toList Rows.fnExactNamedSequenceSpec.vars false W args.toList ds gs before) (hL : laidMetH Tryd.prog Rows.fnExactNamedSequenceRow.laid W) (hshape : W.ShapedOpen Tryd.prog) :
    Calls Tryd.prog 5 args W fun e W' => ∃ v, e = .returned v ∧ Rows.fnExactNamedSequenceSpec.post enc Tryd.prog Tryd.f5 false true false false W args v W' := by
  have hW' := hW
  obtain ⟨p, q, hA0, hV, rfl, hfz, hnd⟩ := hW
  have hA : DataW.TrodAll enc Tryd.prog W 0 (fun _ => true) true Tryd.f5.params.toList args.toList ds p := hA0
  rw [Tryd.params5] at hA hval
  obtain ⟨v0, vs0, d0, ds0, p0, q0, hargs, rfl, rfl, h0, r0⟩ := trodAll_cons hA
  obtain ⟨rfl, rfl, rfl⟩ := trodAll_nil r0
  obtain rfl : args = #[v0] := by cases args; simp_all
  obtain ⟨rfl, rfl⟩ := trodVars_none hV
  obtain ⟨a0, rfl, rfl, rfl, w0⟩ := open_string Tryd.underlying9 (hval 0 9 v0 rfl rfl) h0
  clear hA0
  simp only [List.append_nil] at hW'
  refine (walk W a0 w0 (table hL) hshape).mono fun e W' ⟨he, hg⟩ => ?_
  subst he
  exact ⟨_, rfl, _, _, _, [], [], [], hW', trodAll_mk1 (shut_bool Tryd.underlying4 _), (trodAll_cons_mk (shut_string Tryd.underlying9 w0) trodAll_mk0), rfl, hg.frame _, fun h => by cases h⟩

/-- A world for the witness: the settled one, the tables holding what their initialisers lay. -/
noncomputable def laidWorld (os : Os) : World :=
  { World.holding Tryd.prog os ⟨#[], #[], []⟩ with heap := ((((((World.holding Tryd.prog os ⟨#[], #[], []⟩).heap.modify 4 fun | .cells _ t frozen => .cells #[.int .u8 0, .int .u8 1, .int .u8 28, .int .u8 2, .int .u8 29, .int .u8 14, .int .u8 24, .int .u8 3, .int .u8 30, .int .u8 22, .int .u8 20, .int .u8 15, .int .u8 25, .int .u8 17, .int .u8 4, .int .u8 8, .int .u8 31, .int .u8 27, .int .u8 13, .int .u8 23, .int .u8 21, .int .u8 19, .int .u8 16, .int .u8 7, .int .u8 26, .int .u8 12, .int .u8 18, .int .u8 6, .int .u8 11, .int .u8 5, .int .u8 10, .int .u8 9] t frozen | o => o).modify 5 fun | .cells _ t frozen => .cells #[.int .u8 0, .int .u8 1, .int .u8 56, .int .u8 2, .int .u8 57, .int .u8 49, .int .u8 28, .int .u8 3, .int .u8 61, .int .u8 58, .int .u8 42, .int .u8 50, .int .u8 38, .int .u8 29, .int .u8 17, .int .u8 4, .int .u8 62, .int .u8 47, .int .u8 59, .int .u8 36, .int .u8 45, .int .u8 43, .int .u8 51, .int .u8 22, .int .u8 53, .int .u8 39, .int .u8 33, .int .u8 30, .int .u8 24, .int .u8 18, .int .u8 12, .int .u8 5, .int .u8 63, .int .u8 55, .int .u8 48, .int .u8 27, .int .u8 60, .int .u8 41, .int .u8 37, .int .u8 16, .int .u8 46, .int .u8 35, .int .u8 44, .int .u8 21, .int .u8 52, .int .u8 32, .int .u8 23, .int .u8 11, .int .u8 54, .int .u8 26, .int .u8 40, .int .u8 15, .int .u8 34, .int .u8 20, .int .u8 31, .int .u8 10, .int .u8 25, .int .u8 14, .int .u8 19, .int .u8 9, .int .u8 13, .int .u8 8, .int .u8 7, .int .u8 6] t frozen | o => o).modify 1 fun | .cells _ t frozen => .cells #[.int .u64 1, .int .u64 10, .int .u64 100, .int .u64 1000, .int .u64 10000, .int .u64 100000, .int .u64 1000000, .int .u64 10000000, .int .u64 100000000, .int .u64 1000000000, .int .u64 10000000000, .int .u64 100000000000, .int .u64 1000000000000, .int .u64 10000000000000, .int .u64 100000000000000, .int .u64 1000000000000000, .int .u64 10000000000000000, .int .u64 100000000000000000, .int .u64 1000000000000000000, .int .u64 10000000000000000000] t frozen | o => o).modify 3 fun | .cells _ t frozen => .cells #[.int .u8 128, .int .u8 191, .int .u8 160, .int .u8 191, .int .u8 128, .int .u8 159, .int .u8 144, .int .u8 191, .int .u8 128, .int .u8 143, .int .u8 0, .int .u8 0, .int .u8 0, .int .u8 0, .int .u8 0, .int .u8 0, .int .u8 0, .int .u8 0, .int .u8 0, .int .u8 0, .int .u8 0, .int .u8 0, .int .u8 0, .int .u8 0, .int .u8 0, .int .u8 0, .int .u8 0, .int .u8 0, .int .u8 0, .int .u8 0, .int .u8 0, .int .u8 0] t frozen | o => o).modify 2 fun | .cells _ t frozen => .cells #[.int .u8 240, .int .u8 240, .int .u8 240, .int .u8 240, .int .u8 240, .int .u8 240, .int .u8 240, .int .u8 240, .int .u8 240, .int .u8 240, .int .u8 240, .int .u8 240, .int .u8 240, .int .u8 240, .int .u8 240, .int .u8 240, .int .u8 240, .int .u8 240, .int .u8 240, .int .u8 240, .int .u8 240, .int .u8 240, .int .u8 240, .int .u8 240, .int .u8 240, .int .u8 240, .int .u8 240, .int .u8 240, .int .u8 240, .int .u8 240, .int .u8 240, .int .u8 240, .int .u8 240, .int .u8 240, .int .u8 240, .int .u8 240, .int .u8 240, .int .u8 240, .int .u8 240, .int .u8 240, .int .u8 240, .int .u8 240, .int .u8 240, .int .u8 240, .int .u8 240, .int .u8 240, .int .u8 240, .int .u8 240, .int .u8 240, .int .u8 240, .int .u8 240, .int .u8 240, .int .u8 240, .int .u8 240, .int .u8 240, .int .u8 240, .int .u8 240, .int .u8 240, .int .u8 240, .int .u8 240, .int .u8 240, .int .u8 240, .int .u8 240, .int .u8 240, .int .u8 240, .int .u8 240, .int .u8 240, .int .u8 240, .int .u8 240, .int .u8 240, .int .u8 240, .int .u8 240, .int .u8 240, .int .u8 240, .int .u8 240, .int .u8 240, .int .u8 240, .int .u8 240, .int .u8 240, .int .u8 240, .int .u8 240, .int .u8 240, .int .u8 240, .int .u8 240, .int .u8 240, .int .u8 240, .int .u8 240, .int .u8 240, .int .u8 240, .int .u8 240, .int .u8 240, .int .u8 240, .int .u8 240, .int .u8 240, .int .u8 240, .int .u8 240, .int .u8 240, .int .u8 240, .int .u8 240, .int .u8 240, .int .u8 240, .int .u8 240, .int .u8 240, .int .u8 240, .int .u8 240, .int .u8 240, .int .u8 240, .int .u8 240, .int .u8 240, .int .u8 240, .int .u8 240, .int .u8 240, .int .u8 240, .int .u8 240, .int .u8 240, .int .u8 240, .int .u8 240, .int .u8 240, .int .u8 240, .int .u8 240, .int .u8 240, .int .u8 240, .int .u8 240, .int .u8 240, .int .u8 240, .int .u8 240, .int .u8 240, .int .u8 240, .int .u8 241, .int .u8 241, .int .u8 241, .int .u8 241, .int .u8 241, .int .u8 241, .int .u8 241, .int .u8 241, .int .u8 241, .int .u8 241, .int .u8 241, .int .u8 241, .int .u8 241, .int .u8 241, .int .u8 241, .int .u8 241, .int .u8 241, .int .u8 241, .int .u8 241, .int .u8 241, .int .u8 241, .int .u8 241, .int .u8 241, .int .u8 241, .int .u8 241, .int .u8 241, .int .u8 241, .int .u8 241, .int .u8 241, .int .u8 241, .int .u8 241, .int .u8 241, .int .u8 241, .int .u8 241, .int .u8 241, .int .u8 241, .int .u8 241, .int .u8 241, .int .u8 241, .int .u8 241, .int .u8 241, .int .u8 241, .int .u8 241, .int .u8 241, .int .u8 241, .int .u8 241, .int .u8 241, .int .u8 241, .int .u8 241, .int .u8 241, .int .u8 241, .int .u8 241, .int .u8 241, .int .u8 241, .int .u8 241, .int .u8 241, .int .u8 241, .int .u8 241, .int .u8 241, .int .u8 241, .int .u8 241, .int .u8 241, .int .u8 241, .int .u8 241, .int .u8 241, .int .u8 241, .int .u8 2, .int .u8 2, .int .u8 2, .int .u8 2, .int .u8 2, .int .u8 2, .int .u8 2, .int .u8 2, .int .u8 2, .int .u8 2, .int .u8 2, .int .u8 2, .int .u8 2, .int .u8 2, .int .u8 2, .int .u8 2, .int .u8 2, .int .u8 2, .int .u8 2, .int .u8 2, .int .u8 2, .int .u8 2, .int .u8 2, .int .u8 2, .int .u8 2, .int .u8 2, .int .u8 2, .int .u8 2, .int .u8 2, .int .u8 2, .int .u8 19, .int .u8 3, .int .u8 3, .int .u8 3, .int .u8 3, .int .u8 3, .int .u8 3, .int .u8 3, .int .u8 3, .int .u8 3, .int .u8 3, .int .u8 3, .int .u8 3, .int .u8 35, .int .u8 3, .int .u8 3, .int .u8 52, .int .u8 4, .int .u8 4, .int .u8 4, .int .u8 68, .int .u8 241, .int .u8 241, .int .u8 241, .int .u8 241, .int .u8 241, .int .u8 241, .int .u8 241, .int .u8 241, .int .u8 241, .int .u8 241, .int .u8 241] t frozen | o => o) }
theorem laid_met (os : Os) : laidMet Tryd.prog Rows.fnExactNamedSequenceRow.laid ((laidWorld os).forCall (fun _ _ => 0) ⟨#[], #[.string ⟨#[]⟩], []⟩).memory :=
  laidMet_of_run' 8 (by kernel_rfl) (by kernel_rfl)
theorem reads (os : Os) {H : Type} (enc : TypeId × Value → H) : ∃ places, DataW.whole enc Tryd.prog ((laidWorld os).forCall (fun _ _ => 0) ⟨#[], #[.string ⟨#[]⟩], []⟩).memory Tryd.f5.params.toList Rows.fnExactNamedSequenceSpec.vars false (#[.string ⟨#[]⟩] : Array Value).toList 8 = some ([.lit (.string [])], [], places) :=
  ⟨[], by kernel_rfl⟩

set_option maxRecDepth 100000 in
theorem lifted (os : Os) (started : os.Started) (H : Type) (enc : TypeId × Value → H) (F : Stop.Interp) :
    ReturnsInHanded {} Tryd.checked os 5 .any ((OpenSpec.ofChange Rows.fnExactNamedSequenceSpec).preRow enc Tryd.prog Tryd.f5 Rows.fnExactNamedSequenceRow.domain false Rows.fnExactNamedSequenceRow.laid) (((OpenSpec.ofChange Rows.fnExactNamedSequenceSpec).at F).post enc Tryd.prog Tryd.f5 false true false false) := by
  obtain ⟨places, hx⟩ := reads os enc
  refine returnsInHanded_of_row (C := Tryd.checked) (s := OpenSpec.ofChange Rows.fnExactNamedSequenceSpec) own started (by kernel_rfl) Tryd.func5
    (witness_row_at (enc := enc) (C := Tryd.checked) false (laidWorld os) #[.string ⟨#[]⟩] rfl (by kernel_rfl) (by kernel_rfl) (by kernel_rfl)
      (OpenSpec.preRow_of_cond 8 hx (by kernel_rfl) (fun k hk => by cases hk) (by kernel_rfl) (laid_met os))) ?_
  intro W base args ds gs before hval hW x1 x2 x3 hL x4 x5
  exact contract H enc W base args ds gs before hval hW hL x4

theorem said : Rows.FnExactNamedSequenceSaid :=
  OpenClaim.holds_of_cond 5 Tryd.f5 rfl rfl rfl rfl rfl rfl rfl ⟨rfl, rfl, rfl, rfl, rfl⟩ rfl rfl rfl rfl rfl (by kernel_rfl) Tryd.func5 (by kernel_rfl)
    (of_decide_eq_true (by kernel_rfl)) (by unfold Func.isWrapper; first | (rw [if_pos (by decide +kernel)]; kernel_rfl) | (rw [if_neg (by decide +kernel)]; exact ⟨rfl, rfl⟩))
    (fun os started H enc _ F => by rw [OpenClaim.pre_eq_preRow]; exact lifted os started H enc F)
/-- No parameter wants a stand-in; the program's own looks are off. -/
theorem plain (f : FuncId) (fn : Func) (hf : Tryd.pinned.checked.prog.funcNamed "loop.example/g02079/laws.FnExactNamedSequence" = some f) (hfn : Tryd.pinned.checked.prog.funcs[f]? = some fn) :
    false = Tryd.pinned.checked.prog.looks [] ∧ ∀ (j : Nat) t, fn.params[j]? = some t → Tryd.pinned.checked.prog.wantsStandIn t = false := by
  obtain rfl : f = 5 := Option.some.inj ((show Tryd.prog.funcNamed "loop.example/g02079/laws.FnExactNamedSequence" = some 5 by kernel_rfl).symm.trans hf) |>.symm
  obtain rfl : fn = Tryd.f5 := (Option.some.inj (Tryd.func5.symm.trans hfn)).symm
  refine ⟨by kernel_rfl, fun j t ht => ?_⟩
  rw [Tryd.params5] at ht
  obtain rfl : t = 9 := by simpa using Array.mem_of_getElem? ht
  exact (show Tryd.prog.wantsStandIn 9 = false by kernel_rfl)
/-- The card. -/
theorem card : Rows.FnExactNamedSequenceCardSaid :=
  Claim7.holds_tied_plain_at .later [] _ _ _ _ said (fun _ h => by cases h) (by kernel_rfl) (fun _ h => by cases h) fnExactNamedSequence_row_tie rfl ⟨rfl, rfl⟩ (by kernel_rfl) rfl plain (by kernel_rfl)
#print axioms card
end Go.Proofs.YtbebifnnnmgihabDoor.fnExactNamedSequence
