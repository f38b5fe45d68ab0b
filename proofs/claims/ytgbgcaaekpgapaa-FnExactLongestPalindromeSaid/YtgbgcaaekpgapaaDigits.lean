/- Contracts of the functions on digits, of the program and of the model. No conditions beyond those that each states. -/
import Derived.Test.YtgbgcaaekpgapaaRows
import Derived.WalkKit
import Derived.ProofKit
import Derived.OpenShut
import Derived.PlainAid
import Derived.Lib.Hide
import Derived.BigQuiet
import Derived.Deep.QuietTactic
import Derived.WalkSmall
import Derived.IntWalk
import Derived.Test.YtgbgcaaekpgapaaPlain
import Derived.Test.YtgbgcaaekpgapaaKit
import Derived.Test.YtgbgcaaekpgapaaCommon
import Derived.Test.YtgbgcaaekpgapaaLists
import Derived.Test.YtgbgcaaekpgapaaInts
import Derived.Test.YtgbgcaaekpgapaaDigitsVal
import Derived.Test.YtgbgcaaekpgapaaShelf
import Derived.Lib.OwnBridge
namespace Go.Proofs.Ytgbgcaaekpgapaa
open Go.ChangeShapes Go.WideShapes Go.ChangeAt Go.RowKit
open Go.PlainAid Plain
set_option linter.unusedVariables false
namespace Digits

theorem pow_next (b i : Nat) : ((b ^ i : Nat) : Int) * (b : Int) = ((b ^ (i + 1) : Nat) : Int) := by rw [Nat.pow_succ, Int.natCast_mul]
theorem ret_i {a b : Int} (h : a = b) : Ending.returned (.int .i64 a) = Ending.returned (.int .i64 b) := by rw [h]
/-- The power, 0 where base or exponent is out of range. -/
def powV (b k : Int) : Int := if 2 ≤ b ∧ b ≤ 4 ∧ 0 ≤ k ∧ k ≤ 16 then ((b.toNat ^ k.toNat : Nat) : Int) else 0
/-- slices.Reverse of a slice of the call's own. -/
theorem reverse_has (v : Value) (xs : List Int) (w : World) (base : Nat) (h : Has (Value.int .i64) 3 w base v xs) :
    Calls Try.prog 27 #[v] w fun e w' => e = .returned (.tuple #[]) ∧ Has (Value.int .i64) 3 w' base v xs.reverse ∧ w.grownBy w' v.ownBlock := by
  obtain ⟨a, cap, rfl, hform⟩ := h.form
  cases hx : xs with
  | nil =>
    refine (Try.slices_Reverse_int_empty a cap w).mono ?_
    rintro e w' ⟨rfl, rfl⟩
    subst hx
    exact ⟨rfl, h, World.grownBy.refl _ _⟩
  | cons y ys =>
    obtain ⟨g, rfl⟩ := hform (by rw [hx]; simp)
    rw [← hx]
    obtain ⟨g', cap', he, _, _, _, _, _, hH⟩ := Lib.holds_of_ownsRow (enc := Value.int .i64) h (by simp)
    injection he with e1 _ e3
    injection e1 with e1
    injection e1 with e1
    subst e1; subst e3
    refine (Try.slices_Reverse_int g 0 cap xs w hH h.small).mono ?_
    rintro e w' ⟨rfl, q, rfl⟩
    refine ⟨rfl, ?_, ?_⟩
    · have := Lib.ownsRow_putRow (enc := Value.int .i64) (q := q) (ys := xs.reverse) h (by simp) (Nat.le_refl _)
      rw [List.take_of_length_le (by simp)] at this
      show World.ownsRow _ _ _ _ _ _ _
      rw [List.length_reverse]
      exact this
    · refine ⟨rfl, rfl, rfl, by simp [Sort.putRow, Sort.mapBlock, Sort.ahead], fun k hk hne => ?_⟩
      have hgk : g ≠ k := fun e => hne (by rw [e]; rfl)
      simp [Sort.putRow, Sort.mapBlock, Sort.ahead, Array.getElem?_modify, hgk]
end Digits
end Go.Proofs.Ytgbgcaaekpgapaa
