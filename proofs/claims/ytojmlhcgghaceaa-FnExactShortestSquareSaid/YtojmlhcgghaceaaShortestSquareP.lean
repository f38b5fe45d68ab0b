/- The law FnExactShortestSquare answers true for every argument: the program's ShortestSquare returns what the model's returns, writes into no argument and hands back memory of its own. Conditions: none beyond the row's own. -/
import Derived.Test.YtojmlhcgghaceaaRows
import Derived.WalkKit
import Derived.ProofKit
import Derived.OpenShut
import Derived.ShutString
import Derived.ChangeOld
import Derived.Below
import Derived.PlainAid
import Derived.Lib.Hide
import Derived.Deep.RegionHeld3
import Derived.Deep.DeepCutAuto
import Derived.Outline
import Derived.Test.YtojmlhcgghaceaaInts
import Derived.Test.YtojmlhcgghaceaaSeqSz
import Derived.Test.YtojmlhcgghaceaaSeqOpen
import Derived.Test.YtojmlhcgghaceaaPowD
import Derived.Test.YtojmlhcgghaceaaSeqMark2
namespace Go.Proofs.Ytojmlhcgghaceaa.fnExactShortestSquare
open Go.ChangeShapes Go.WideShapes Go.ChangeAt Go.RowKit
open Go.ChangeMaps (open_string shut_string)
open Go.PlainAid Plain
set_option linter.unusedVariables false

theorem own : ownKnob Try.prog.godebug = none := by kernel_rfl
theorem laidOut : laidOutB Try.prog = true := by kernel_rfl
open Seqs
set_option maxRecDepth 100000 in
set_option maxHeartbeats 4000000 in
theorem walk (w : World) (v0 : Value) (xs0 : List Int) (l0 : Lies (Value.int .i64) w v0 xs0) :
    Calls Try.prog 9 #[v0] w fun e w' => e = .returned (.bool true) ∧ Below w.heap.size w w' := by
  have ARG0 := Lib.hid l0
  obtain ⟨il0, ia0, ic0, rfl, _, _⟩ := l0
  by_cases hs0 : xs0.length ≤ 1048576
  case neg =>
    have hd := decide_eq_true (show (xs0.length : Int) > 1048576 by omega)
    have HB_0 : Hid (Below w.heap.size w w) := Below.refl _ _
    go_enter Try.func9, Try.ntmps9
    go_wp2
    go_ret
    exact ⟨rfl, Below.refl _ _⟩
  have hdi0 := decide_eq_false (show ¬ (xs0.length : Int) > 1048576 by omega)
  have CS := Lib.hid (fun (W : World) (u0 : Value) (l0 : Fac.LiesC W u0 xs0) => Fac.spec_short u0 xs0 W l0.lies)
  have CI := Lib.hid (fun (W : World) (u0 : Value) (l0 : Fac.LiesC W u0 xs0) => Fac.impl_short u0 xs0 W l0)
  obtain ⟨ya, hya⟩ : ∃ y, y = ((mnE (sqV xs0)).1 : Int) := ⟨_, rfl⟩
  obtain ⟨yc, hyc⟩ : ∃ y, y = ((mnE (sqV xs0)).2 : Int) := ⟨_, rfl⟩
  obtain ⟨yk, hyk⟩ : ∃ y, y = decide (0 < (sqV xs0).length) := ⟨_, rfl⟩
  rw [← hya, ← hyc, ← hyk] at CS CI
  clear hya hyc hyk
  have hkk : (yk != yk) = false := by simp
  have HB_0 : Hid (Below w.heap.size w w) := Below.refl _ _
  go_enter Try.func9, Try.ntmps9
  go_wp2_with fail
  refine (Ints.copied _ xs0 _ (ARG0.out.below HB_0.out) hs0).mono ?_
  rintro e W1 ⟨vp0, rfl, h1, fb1⟩
  have HB_1 := Lib.hid (HB_0.out.trans (fb1.mono HB_0.out.size))
  have Z1 := Lib.hid (fb1.size)
  have Rp0_1 := Lib.hid (OwnI.of_gives h1)
  clear HB_0 fb1 h1
  go_wp2_with fail
  refine (CS.out _ _ (Fac.LiesC.of_has Rp0_1.out.has)).mono ?_
  rintro e W2 ⟨rfl, fb2⟩
  have HB_2 := Lib.hid (HB_1.out.trans (fb2.mono HB_1.out.size))
  have Rp0_2 := Lib.hid (Rp0_1.out.below fb2)
  have Z2 := Lib.hid (fb2.size)
  clear Rp0_1 HB_1 fb2
  clear Rp0_2
  go_wp2_with fail
  have bx3 : Below W2.heap.size W2 (W2.alloc (Obj.cells #[.int .i64 ya, .int .i64 yc, .int .i64 (2 * yc)] 35)) := (Below.refl _ _).alloc (Nat.le_refl _) _
  have cx3 := Cells3.new W2 35 (.int .i64 ya) (.int .i64 yc) (.int .i64 (2 * yc))
  have hz3 : (W2.alloc (Obj.cells #[.int .i64 ya, .int .i64 yc, .int .i64 (2 * yc)] 35)).heap.size = W2.heap.size + 1 := size_alloc' _ _
  obtain ⟨W3, hW3⟩ : ∃ W, W = (W2.alloc (Obj.cells #[.int .i64 ya, .int .i64 yc, .int .i64 (2 * yc)] 35)) := ⟨_, rfl⟩
  rw [← hW3] at bx3 cx3 hz3 ⊢
  have HB_3 := Lib.hid (HB_2.out.trans (bx3.mono HB_2.out.size))
  have Z3 := Lib.hid (bx3.size)
  have CP_3 := Lib.hid cx3
  have Z4 := Lib.hid hz3
  clear HB_2 bx3 hW3 cx3
  clear hz3
  refine (Ints.copied _ xs0 _ (ARG0.out.below HB_3.out) hs0).mono ?_
  rintro e W4 ⟨vx0, rfl, h4, fb4⟩
  have HB_4 := Lib.hid (HB_3.out.trans (fb4.mono HB_3.out.size))
  have CP_4 := Lib.hid (CP_3.out.below fb4)
  have Z5 := Lib.hid (fb4.size)
  have Rx0_4 := Lib.hid (OwnI.of_gives h4)
  clear CP_3 HB_3 fb4 h4
  have kP0 := CP_4.out.c0
  have kP1 := CP_4.out.c1
  have kP2 := CP_4.out.c2
  go_wp2_with fail
  clear kP0 kP1 kP2
  refine (CI.out _ _ (Fac.LiesC.of_has Rx0_4.out.has)).mono ?_
  rintro e W5 ⟨rfl, fb5⟩
  have HB_5 := Lib.hid (HB_4.out.trans (fb5.mono HB_4.out.size))
  have CP_5 := Lib.hid (CP_4.out.below fb5)
  have Rx0_5 := Lib.hid (Rx0_4.out.below fb5)
  have Z6 := Lib.hid (fb5.size)
  clear CP_4 Rx0_4 HB_4 fb5
  have kP0 := (CP_5.out.alloc (Obj.cells #[.int .i64 ya, .int .i64 yc, .int .i64 (2 * yc)] 35)).c0
  have kP1 := (CP_5.out.alloc (Obj.cells #[.int .i64 ya, .int .i64 yc, .int .i64 (2 * yc)] 35)).c1
  have kP2 := (CP_5.out.alloc (Obj.cells #[.int .i64 ya, .int .i64 yc, .int .i64 (2 * yc)] 35)).c2
  go_wp2_with fail
  clear kP0 kP1 kP2
  have bx6 : Below W5.heap.size W5 (W5.alloc (Obj.cells #[.int .i64 ya, .int .i64 yc, .int .i64 (2 * yc)] 35)) := (Below.refl _ _).alloc (Nat.le_refl _) _
  have cx6 := Cells3.new W5 35 (.int .i64 ya) (.int .i64 yc) (.int .i64 (2 * yc))
  have hz6 : (W5.alloc (Obj.cells #[.int .i64 ya, .int .i64 yc, .int .i64 (2 * yc)] 35)).heap.size = W5.heap.size + 1 := size_alloc' _ _
  obtain ⟨W6, hW6⟩ : ∃ W, W = (W5.alloc (Obj.cells #[.int .i64 ya, .int .i64 yc, .int .i64 (2 * yc)] 35)) := ⟨_, rfl⟩
  rw [← hW6] at bx6 cx6 hz6 ⊢
  have HB_6 := Lib.hid (HB_5.out.trans (bx6.mono HB_5.out.size))
  have CP_6 := Lib.hid (CP_5.out.below bx6)
  have Rx0_6 := Lib.hid (Rx0_5.out.below bx6)
  have Z7 := Lib.hid (bx6.size)
  have CG_6 := Lib.hid cx6
  have Z8 := Lib.hid hz6
  clear CP_5 Rx0_5 HB_5 bx6 hW6 cx6
  clear hz6
  refine (Fac.eqP1 ya yc (2 * yc) _).mono ?_
  rintro e W7 ⟨rfl, fb7⟩
  have HB_7 := Lib.hid (HB_6.out.trans (fb7.mono HB_6.out.size))
  have CP_7 := Lib.hid (CP_6.out.below fb7)
  have CG_7 := Lib.hid (CG_6.out.below fb7)
  have Rx0_7 := Lib.hid (Rx0_6.out.below fb7)
  have Z9 := Lib.hid (fb7.size)
  clear CP_6 CG_6 Rx0_6 HB_6 fb7
  clear CP_7 CG_7
  go_wp2_with fail
  refine (Ints.copied _ xs0 _ (ARG0.out.below HB_7.out) hs0).mono ?_
  rintro e W8 ⟨vy0, rfl, h8, fb8⟩
  have HB_8 := Lib.hid (HB_7.out.trans (fb8.mono HB_7.out.size))
  have Rx0_8 := Lib.hid (Rx0_7.out.below fb8)
  have Z10 := Lib.hid (fb8.size)
  have Ry0_8 := Lib.hid (OwnI.of_gives h8)
  clear Rx0_7 HB_7 fb8 h8
  go_wp2_with fail
  refine (Ints.eq_yes _ _ xs0 _ Rx0_8.out.lies Ry0_8.out.lies).mono ?_
  rintro e W9 ⟨rfl, fb9⟩
  have HB_9 := Lib.hid (HB_8.out.trans (fb9.mono HB_8.out.size))
  have Rx0_9 := Lib.hid (Rx0_8.out.below fb9)
  have Ry0_9 := Lib.hid (Ry0_8.out.below fb9)
  have Z11 := Lib.hid (fb9.size)
  clear Rx0_8 Ry0_8 HB_8 fb9
  clear Rx0_9 Ry0_9
  go_wp2
  go_ret
  exact ⟨rfl, HB_9.out⟩


set_option maxRecDepth 100000 in
theorem lifted (os : Os) (started : os.Started) (H : Type) (enc : TypeId × Value → H) :
    ReturnsInHanded {} Try.checked os 9 .any (Rows.fnExactShortestSquareSpec.pre6 enc Try.prog Try.f9 Rows.fnExactShortestSquareRow.domain false) (Rows.fnExactShortestSquareSpec.post enc Try.prog Try.f9 false true false false) := by
  refine returnsInHanded_of_change (C := Try.checked) own started (by kernel_rfl) Try.func9
    (ChangeSpec.witness6 (enc := enc) (C := Try.checked) false ⟨#[], #[.slice none 0 0], []⟩ 8 (by kernel_rfl) (by kernel_rfl) (by kernel_rfl) (by kernel_rfl)) ?_
  intro W base args ds gs before hval0 hW hcnd _
  have hval : ∀ (j : Nat) t v, Try.f9.params[j]? = some t → args[j]? = some v → Value.okWide Try.prog W .any base t v := hval0
  have hW' := hW
  obtain ⟨p, q, hA0, hV, rfl, hfz, hnd⟩ := hW
  have hA : DataW.TrodAll enc Try.prog W 0 (fun _ => true) true Try.f9.params.toList args.toList ds p := hA0
  rw [Try.params9] at hA hval
  obtain ⟨v0, vs0, d0, ds0, p0, q0, hargs, rfl, rfl, h0, r0⟩ := trodAll_cons hA
  obtain ⟨rfl, rfl, rfl⟩ := trodAll_nil r0
  obtain rfl : args = #[v0] := by cases args; simp_all
  obtain ⟨rfl, rfl⟩ := trodVars_none hV
  have k0 := h0
  have lt0 : ∀ x ∈ p0, x.block < W.heap.size := by obtain ⟨m, hm⟩ := k0; exact DataW.trod_lt m _ _ _ hm
  obtain ⟨xs0, l0⟩ := Seqs.open_list h0 (okWide_slice Try.underlying22 (hval 0 22 v0 rfl rfl))
  clear hA0 hval0
  refine (walk W v0 xs0 l0).mono fun e W' ⟨he, hg⟩ => ?_
  subst he
  exact ⟨_, rfl, _, _, _, [], _, [], hW', trodAll_mk1 (shut_bool Try.underlying4 _), (trodAll_cons_mk (Below.trod laidOut (by kernel_rfl) (of_decide_eq_true (by kernel_rfl)) k0 hg lt0) trodAll_mk0), rfl, hg.frame _, fun h => by cases h⟩

theorem over : Rows.fnExactShortestSquareRow.holds Try.pinned (OpenSpec.ofChange Rows.fnExactShortestSquareSpec) :=
  OpenClaim.holds_of_wide 9 Try.f9 rfl rfl rfl rfl rfl rfl rfl ⟨rfl, rfl, rfl, rfl, rfl⟩ rfl rfl rfl rfl rfl (by kernel_rfl) Try.func9 (by kernel_rfl)
    (of_decide_eq_true (by kernel_rfl)) (by unfold Func.isWrapper; first | (rw [if_pos (by decide +kernel)]; kernel_rfl) | (rw [if_neg (by decide +kernel)]; exact ⟨rfl, rfl⟩))
    (fun os started H enc _ => lifted os started H enc)
/-- The statement. -/
theorem proved : Rows.FnExactShortestSquareSaid := over
#print axioms proved
end Go.Proofs.Ytojmlhcgghaceaa.fnExactShortestSquare
