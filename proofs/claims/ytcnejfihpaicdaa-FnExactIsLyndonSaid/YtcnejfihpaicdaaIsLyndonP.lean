/- The law FnExactIsLyndon answers true for every argument: the program's IsLyndon returns what the model's returns, writes into no argument and hands back memory of its own. Conditions: none beyond the row's own. -/
import Derived.Test.YtcnejfihpaicdaaRows
import Derived.WalkKit
import Derived.ProofKit
import Derived.OpenShut
import Derived.ShutString
import Derived.ChangeOld
import Derived.Below
import Derived.PlainAid
import Derived.Lib.Hide
import Derived.Deep.RegionHeld3
import Derived.Deep.DeepCutAuto
import Derived.Outline
import Derived.Test.YtcnejfihpaicdaaInts
import Derived.Test.YtcnejfihpaicdaaSeqSz
import Derived.Test.YtcnejfihpaicdaaSeqOpen
import Derived.Test.YtcnejfihpaicdaaLynS
import Derived.Test.YtcnejfihpaicdaaSeqMark2
namespace Go.Proofs.Ytcnejfihpaicdaa.fnExactIsLyndon
open Go.ChangeShapes Go.WideShapes Go.ChangeAt Go.RowKit
open Go.ChangeMaps (open_string shut_string)
open Go.PlainAid Plain
set_option linter.unusedVariables false

theorem own : ownKnob Try.prog.godebug = none := by kernel_rfl
theorem laidOut : laidOutB Try.prog = true := by kernel_rfl
open Seqs
set_option maxRecDepth 100000 in
set_option maxHeartbeats 4000000 in
theorem walk (w : World) (v0 : Value) (xs0 : List Int) (l0 : Lies (Value.int .i64) w v0 xs0) :
    Calls Try.prog 3 #[v0] w fun e w' => e = .returned (.bool true) ∧ Below w.heap.size w w' := by
  have ARG0 := Lib.hid l0
  obtain ⟨il0, ia0, ic0, rfl, _, _⟩ := l0
  by_cases hs0 : xs0.length ≤ 1048576
  case neg =>
    have hd := decide_eq_true (show (xs0.length : Int) > 1048576 by omega)
    have HB_0 : Hid (Below w.heap.size w w) := Below.refl _ _
    go_enter Try.func3, Try.ntmps3
    go_wp2
    go_ret
    exact ⟨rfl, Below.refl _ _⟩
  have hdi0 := decide_eq_false (show ¬ (xs0.length : Int) > 1048576 by omega)
  have CS := Lib.hid (fun (W : World) (u0 : Value) (l0 : Fac.LiesC W u0 xs0) => Lynd.spec_lyn u0 xs0 W l0)
  have CI := Lib.hid (fun (W : World) (u0 : Value) (l0 : Fac.LiesC W u0 xs0) => Lynd.impl_lyn u0 xs0 W l0.lies (by omega))
  obtain ⟨y, hy⟩ : ∃ y, y = lyB xs0 := ⟨_, rfl⟩
  rw [← hy] at CS CI
  clear hy
  have HB_0 : Hid (Below w.heap.size w w) := Below.refl _ _
  go_enter Try.func3, Try.ntmps3
  go_wp2_with fail
  refine (Ints.copied _ xs0 _ (ARG0.out.below HB_0.out) hs0).mono ?_
  rintro e W1 ⟨vp0, rfl, h1, fb1⟩
  have HB_1 := Lib.hid (HB_0.out.trans (fb1.mono HB_0.out.size))
  have Z1 := Lib.hid (fb1.size)
  have Rp0_1 := Lib.hid (OwnI.of_gives h1)
  clear HB_0 fb1 h1
  go_wp2_with fail
  refine (CS.out _ _ (Fac.LiesC.of_has Rp0_1.out.has)).mono ?_
  rintro e W2 ⟨rfl, fb2⟩
  have HB_2 := Lib.hid (HB_1.out.trans (fb2.mono HB_1.out.size))
  have Rp0_2 := Lib.hid (Rp0_1.out.below fb2)
  have Z2 := Lib.hid (fb2.size)
  clear Rp0_1 HB_1 fb2
  clear Rp0_2
  go_wp2_with fail
  refine (Ints.copied _ xs0 _ (ARG0.out.below HB_2.out) hs0).mono ?_
  rintro e W3 ⟨vx0, rfl, h3, fb3⟩
  have HB_3 := Lib.hid (HB_2.out.trans (fb3.mono HB_2.out.size))
  have Z3 := Lib.hid (fb3.size)
  have Rx0_3 := Lib.hid (OwnI.of_gives h3)
  clear HB_2 fb3 h3
  go_wp2_with fail
  refine (CI.out _ _ (Fac.LiesC.of_has Rx0_3.out.has)).mono ?_
  rintro e W4 ⟨rfl, fb4⟩
  have HB_4 := Lib.hid (HB_3.out.trans (fb4.mono HB_3.out.size))
  have Rx0_4 := Lib.hid (Rx0_3.out.below fb4)
  have Z4 := Lib.hid (fb4.size)
  clear Rx0_3 HB_3 fb4
  go_wp2_with fail
  refine (Ints.copied _ xs0 _ (ARG0.out.below HB_4.out) hs0).mono ?_
  rintro e W5 ⟨vy0, rfl, h5, fb5⟩
  have HB_5 := Lib.hid (HB_4.out.trans (fb5.mono HB_4.out.size))
  have Rx0_5 := Lib.hid (Rx0_4.out.below fb5)
  have Z5 := Lib.hid (fb5.size)
  have Ry0_5 := Lib.hid (OwnI.of_gives h5)
  clear Rx0_4 HB_4 fb5 h5
  go_wp2_with fail
  refine (Ints.eq_yes _ _ xs0 _ Rx0_5.out.lies Ry0_5.out.lies).mono ?_
  rintro e W6 ⟨rfl, fb6⟩
  have HB_6 := Lib.hid (HB_5.out.trans (fb6.mono HB_5.out.size))
  have Rx0_6 := Lib.hid (Rx0_5.out.below fb6)
  have Ry0_6 := Lib.hid (Ry0_5.out.below fb6)
  have Z6 := Lib.hid (fb6.size)
  clear Rx0_5 Ry0_5 HB_5 fb6
  clear Rx0_6 Ry0_6
  go_wp2
  go_ret
  exact ⟨rfl, HB_6.out⟩


set_option maxRecDepth 100000 in
theorem lifted (os : Os) (started : os.Started) (H : Type) (enc : TypeId × Value → H) :
    ReturnsInHanded {} Try.checked os 3 .any (Rows.fnExactIsLyndonSpec.pre6 enc Try.prog Try.f3 Rows.fnExactIsLyndonRow.domain false) (Rows.fnExactIsLyndonSpec.post enc Try.prog Try.f3 false true false false) := by
  refine returnsInHanded_of_change (C := Try.checked) own started (by kernel_rfl) Try.func3
    (ChangeSpec.witness6 (enc := enc) (C := Try.checked) false ⟨#[], #[.slice none 0 0], []⟩ 8 (by kernel_rfl) (by kernel_rfl) (by kernel_rfl) (by kernel_rfl)) ?_
  intro W base args ds gs before hval0 hW hcnd _
  have hval : ∀ (j : Nat) t v, Try.f3.params[j]? = some t → args[j]? = some v → Value.okWide Try.prog W .any base t v := hval0
  have hW' := hW
  obtain ⟨p, q, hA0, hV, rfl, hfz, hnd⟩ := hW
  have hA : DataW.TrodAll enc Try.prog W 0 (fun _ => true) true Try.f3.params.toList args.toList ds p := hA0
  rw [Try.params3] at hA hval
  obtain ⟨v0, vs0, d0, ds0, p0, q0, hargs, rfl, rfl, h0, r0⟩ := trodAll_cons hA
  obtain ⟨rfl, rfl, rfl⟩ := trodAll_nil r0
  obtain rfl : args = #[v0] := by cases args; simp_all
  obtain ⟨rfl, rfl⟩ := trodVars_none hV
  have k0 := h0
  have lt0 : ∀ x ∈ p0, x.block < W.heap.size := by obtain ⟨m, hm⟩ := k0; exact DataW.trod_lt m _ _ _ hm
  obtain ⟨xs0, l0⟩ := Seqs.open_list h0 (okWide_slice Try.underlying22 (hval 0 22 v0 rfl rfl))
  clear hA0 hval0
  refine (walk W v0 xs0 l0).mono fun e W' ⟨he, hg⟩ => ?_
  subst he
  exact ⟨_, rfl, _, _, _, [], _, [], hW', trodAll_mk1 (shut_bool Try.underlying4 _), (trodAll_cons_mk (Below.trod laidOut (by kernel_rfl) (of_decide_eq_true (by kernel_rfl)) k0 hg lt0) trodAll_mk0), rfl, hg.frame _, fun h => by cases h⟩

theorem over : Rows.fnExactIsLyndonRow.holds Try.pinned (OpenSpec.ofChange Rows.fnExactIsLyndonSpec) :=
  OpenClaim.holds_of_wide 3 Try.f3 rfl rfl rfl rfl rfl rfl rfl ⟨rfl, rfl, rfl, rfl, rfl⟩ rfl rfl rfl rfl rfl (by kernel_rfl) Try.func3 (by kernel_rfl)
    (of_decide_eq_true (by kernel_rfl)) (by unfold Func.isWrapper; first | (rw [if_pos (by decide +kernel)]; kernel_rfl) | (rw [if_neg (by decide +kernel)]; exact ⟨rfl, rfl⟩))
    (fun os started H enc _ => lifted os started H enc)
/-- The statement. -/
theorem proved : Rows.FnExactIsLyndonSaid := over
#print axioms proved
end Go.Proofs.Ytcnejfihpaicdaa.fnExactIsLyndon
