/- Contracts of MirrorWord of both and of the program's IsPalindrome. No conditions beyond those that each states. -/
import Derived.Test.YtgbgcaaekpgapabPalS
namespace Go.Proofs.Ytgbgcaaekpgapab
open Go.ChangeShapes Go.WideShapes Go.ChangeAt Go.RowKit
open Go.PlainAid Plain
set_option linter.unusedVariables false
namespace Fac
open Seqs
theorem spec_mir (v : Value) (u : List Int) (w : World) (h : Lies (Value.int .i64) w v u) (hs : u.length ≤ 1048576) :
    Calls Try.prog 13 #[v] w (Gives (Value.int .i64) 3 u.reverse w) := by
  have HC := Lib.hid (Digits.spec_rev v u w h hs)
  obtain ⟨pa, pc, rfl⟩ := lies_shape h
  clear h
  go_enter Try.func13, Try.ntmps13
  go_wp2_with fail
  refine HC.out.mono ?_
  rintro e W1 ⟨vr, rfl, hv, b1⟩
  have HV := Lib.hid hv
  have HB := Lib.hid b1
  clear hv b1
  go_wp2
  go_ret
  exact ⟨_, rfl, HV.out, HB.out⟩
theorem impl_mir (v : Value) (u : List Int) (w : World) (h : Lies (Value.int .i64) w v u) (hs : u.length ≤ 1048576) :
    Calls Try.prog 14 #[v] w (Gives (Value.int .i64) 3 u.reverse w) := by
  have HC := Lib.hid (Digits.impl_rev v u w h hs)
  obtain ⟨pa, pc, rfl⟩ := lies_shape h
  clear h
  go_enter Try.func14, Try.ntmps14
  go_wp2_with fail
  refine HC.out.mono ?_
  rintro e W1 ⟨vr, rfl, hv, b1⟩
  have HV := Lib.hid hv
  have HB := Lib.hid b1
  clear hv b1
  go_wp2
  go_ret
  exact ⟨_, rfl, HV.out, HB.out⟩
theorem impl_pal (v : Value) (u : List Int) (w : World) (h : Lies (Value.int .i64) w v u) (hs : u.length ≤ 1048576) :
    Calls Try.prog 11 #[v] w fun e w' => e = .returned (.bool (palB u)) ∧ Below w.heap.size w w' := by
  have HC := Lib.hid (impl_mir v u w h hs)
  obtain ⟨pa, pc, rfl⟩ := lies_shape h
  have HU := Lib.hid h
  have HP : Hid (decide (u = u.reverse) = palB u) := rfl
  clear h
  go_enter Try.func11, Try.ntmps11
  go_wp2_with fail
  refine HC.out.mono ?_
  rintro e W1 ⟨vr, rfl, hv, b1⟩
  have HS := Lib.hid (equal_ints _ _ _ _ _ (HU.out.below b1) hv.lies)
  have HB := Lib.hid b1
  obtain ⟨c, hc⟩ : ∃ c, c = decide (u = u.reverse) := ⟨_, rfl⟩
  rw [← hc] at HS
  rw [← hc] at HP
  clear hc hv b1
  go_wp2_with fail
  refine HS.out.mono ?_
  rintro e W2 ⟨rfl, n, rfl⟩
  go_wp2
  go_ret
  exact ⟨ret_b HP.out, below_drewN HB.out n⟩
end Fac
end Go.Proofs.Ytgbgcaaekpgapab
