/- Contracts of the model's IsPalindrome and LongestPalindrome. No conditions beyond those that each states. -/
import Derived.Test.YtgbgcaaekpgapabPalVal
import Derived.Test.YtgbgcaaekpgapabBorS
import Derived.Test.YtgbgcaaekpgapabSeqEqual
import Derived.Test.YtgbgcaaekpgapabDigits4
namespace Go.Proofs.Ytgbgcaaekpgapab
open Go.ChangeShapes Go.WideShapes Go.ChangeAt Go.RowKit
open Go.PlainAid Plain
set_option linter.unusedVariables false
namespace Fac
open Seqs
theorem spec_pal (v : Value) (u : List Int) (w : World) (h : Lies (Value.int .i64) w v u) (hs : u.length ≤ 1048576) :
    Calls Try.prog 9 #[v] w fun e w' => e = .returned (.bool (palB u)) ∧ Below w.heap.size w w' := by
  have HC := Lib.hid (Digits.spec_rev v u w h hs)
  obtain ⟨pa, pc, rfl⟩ := lies_shape h
  have HU := Lib.hid h
  have HP : Hid (decide (u = u.reverse) = palB u) := rfl
  clear h
  go_enter Try.func9, Try.ntmps9
  go_wp2_with fail
  refine HC.out.mono ?_
  rintro e W1 ⟨vr, rfl, hv, b1⟩
  have HS := Lib.hid (same_ints _ _ _ _ _ (HU.out.below b1) hv.lies)
  have HB := Lib.hid b1
  obtain ⟨c, hc⟩ : ∃ c, c = decide (u = u.reverse) := ⟨_, rfl⟩
  rw [← hc] at HS
  rw [← hc] at HP
  clear hc hv b1
  go_wp2_with fail
  refine HS.out.mono ?_
  rintro e W2 ⟨rfl, n, rfl⟩
  go_wp2
  go_ret
  exact ⟨ret_b HP.out, below_drewN HB.out n⟩
end Fac
end Go.Proofs.Ytgbgcaaekpgapab
