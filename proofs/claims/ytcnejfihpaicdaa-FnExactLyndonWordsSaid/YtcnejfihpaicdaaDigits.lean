/- Contracts of the functions on digits, of the program and of the model. No conditions beyond those that each states. -/
import Derived.Test.YtcnejfihpaicdaaRows
import Derived.WalkKit
import Derived.ProofKit
import Derived.OpenShut
import Derived.PlainAid
import Derived.Lib.Hide
import Derived.BigQuiet
import Derived.Deep.QuietTactic
import Derived.WalkSmall
import Derived.IntWalk
import Derived.Test.YtcnejfihpaicdaaPlain
import Derived.Test.YtcnejfihpaicdaaKit
import Derived.Test.YtcnejfihpaicdaaCommon
import Derived.Test.YtcnejfihpaicdaaLists
import Derived.Test.YtcnejfihpaicdaaInts
import Derived.Test.YtcnejfihpaicdaaDigitsVal
import Derived.Test.YtcnejfihpaicdaaShelf
import Derived.Lib.OwnBridge
namespace Go.Proofs.Ytcnejfihpaicdaa
open Go.ChangeShapes Go.WideShapes Go.ChangeAt Go.RowKit
open Go.PlainAid Plain
set_option linter.unusedVariables false
namespace Digits

theorem pow_next (b i : Nat) : ((b ^ i : Nat) : Int) * (b : Int) = ((b ^ (i + 1) : Nat) : Int) := by rw [Nat.pow_succ, Int.natCast_mul]
theorem ret_i {a b : Int} (h : a = b) : Ending.returned (.int .i64 a) = Ending.returned (.int .i64 b) := by rw [h]
/-- The power, 0 where base or exponent is out of range. -/
def powV (b k : Int) : Int := if 2 ≤ b ∧ b ≤ 4 ∧ 0 ≤ k ∧ k ≤ 16 then ((b.toNat ^ k.toNat : Nat) : Int) else 0
/-- slices.Clone of any slice. -/
theorem clone_lies (v : Value) (xs : List Int) (w : World) (h : Lies (Value.int .i64) w v xs) (hs : xs.length ≤ 1048576) :
    Calls Try.prog 36 #[v] w (Gives (Value.int .i64) 3 xs w) := by
  obtain ⟨hl, a, cap, rfl, hn, hc⟩ := h
  cases a with
  | none =>
    have hy : xs = [] := by
      cases xs with
      | nil => rfl
      | cons y l => obtain ⟨_, _, h', _⟩ := hc 0 y rfl; cases h'
    subst hy
    refine (Try.slices_Clone_int_nil _ _ w).mono ?_
    rintro e w' ⟨rfl, rfl⟩
    exact ⟨_, rfl, World.ownsRow_nil _ _ _ _, Below.refl _ _⟩
  | some ad =>
    cases hx : xs with
    | nil =>
      refine (Try.slices_Clone_int_zero ad cap w).mono ?_
      rintro e w' ⟨v', rfl, ho, _, hb⟩
      exact ⟨_, rfl, ho, hb⟩
    | cons y ys =>
      obtain ⟨b, off, he, _⟩ := hc 0 y (by rw [hx]; rfl)
      obtain rfl := Option.some.inj he
      rw [← hx]
      refine (Try.slices_Clone_int b off xs.length cap xs w (Nat.le_refl _) (by omega) ?_).mono ?_
      · intro j hj
        obtain ⟨b', off', he', hcell⟩ := hc j _ (List.getElem?_eq_getElem hj)
        injection he' with he'
        injection he' with e1 e2
        subst e1; subst e2
        rw [hcell]
        simp [List.getD, hj]
      · rintro e w' ⟨v', rfl, ho, _, hb⟩
        rw [List.take_length] at ho
        exact ⟨_, rfl, ho, hb⟩
end Digits
end Go.Proofs.Ytcnejfihpaicdaa
