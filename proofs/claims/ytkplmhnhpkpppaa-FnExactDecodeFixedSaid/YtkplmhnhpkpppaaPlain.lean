/- Plain facts on numbers and bytes that the proofs of this folder share: the number that the first bytes of a string encode, and 'or' of numbers whose bits do not meet. No conditions beyond those that each fact states. -/
import Derived.WalkKit
import Derived.PlainAid
import Derived.Laws.BitsLemmas
namespace Go.Proofs.Ytkplmhnhpkpppaa.Plain
open Go.PlainAid

theorem wraps_i64 (n : Int) (h₀ : 0 ≤ n) (h₁ : n < 2 ^ 63) : IntKind.i64.wrap n = n := by rw [IntKind.wrap_i64]; omega
theorem or8 (x y : Int) (h₀ : 0 ≤ x) (hx : x ≤ 9007199254740991) (hy₀ : 0 ≤ y) (hy : y ≤ 255) : bits .or .i64 (x * 256) y = x * 256 + y :=
  bits_join .i64 63 (by decide) wraps_i64 8 (x * 256) y (by omega) (by omega) (by omega) hy₀ (by omega) (by omega)

/-- The number that the first k bytes of s encode, the most significant one first. -/
def pv (s : ByteArray) : Nat → Int
  | 0 => 0
  | k + 1 => pv s k * 256 + bt s k
theorem pv_succ (s : ByteArray) (k : Nat) : pv s (k + 1) = pv s k * 256 + bt s k := rfl
theorem pv_bd (s : ByteArray) : ∀ k : Nat, 0 ≤ pv s k ∧ pv s k < 256 ^ k
  | 0 => ⟨Int.le_refl _, by show (0 : Int) < 1; omega⟩
  | k + 1 => by
    have ih := pv_bd s k
    have h1 := bt_nonneg s k
    have h2 := bt_le s k
    rw [pv_succ, Int.pow_succ]
    omega
theorem pow_le (k : Nat) (h : k ≤ 6) : (256 : Int) ^ k ≤ 281474976710656 := by
  have : k = 0 ∨ k = 1 ∨ k = 2 ∨ k = 3 ∨ k = 4 ∨ k = 5 ∨ k = 6 := by omega
  rcases this with rfl | rfl | rfl | rfl | rfl | rfl | rfl <;> decide
theorem pv_small (s : ByteArray) (k : Nat) (h : k ≤ 6) : 0 ≤ pv s k ∧ pv s k ≤ 281474976710655 := by
  have := pv_bd s k
  have := pow_le k h
  omega
end Go.Proofs.Ytkplmhnhpkpppaa.Plain
