/- Contracts of DigitsOf and DigitSum, of the program and of the model. No conditions beyond those that each states. -/
import Derived.Test.YtojmlhcgghaceaaDigits
namespace Go.Proofs.Ytojmlhcgghaceaa
open Go.ChangeShapes Go.WideShapes Go.ChangeAt Go.RowKit
open Go.PlainAid Plain
set_option linter.unusedVariables false
namespace Digits
open Ints

/-- The digits, none where number or base is out of range. -/
def digV (n b : Int) : List Int := if 2 ≤ b ∧ b ≤ 4 ∧ 0 ≤ n ∧ n < powV b 16 then digs n.toNat b.toNat else []
theorem powV_in (b : Nat) (h1 : 2 ≤ b) (h2 : b ≤ 4) : powV b 16 = ((b ^ 16 : Nat) : Int) := by
  rw [powV, if_pos (by omega)]
  rfl
theorem digV_in (n b : Nat) (h1 : 2 ≤ b) (h2 : b ≤ 4) (h3 : n < b ^ 16) : digV n b = digs n b := by
  rw [digV, if_pos ⟨by omega, by omega, by omega, by rw [powV_in b h1 h2]; exact Int.ofNat_lt.2 h3⟩]
  rfl
theorem has_empty (w : World) : Has (Value.int .i64) 3 (w.alloc (.cells #[] 3)) w.heap.size (.slice (some ⟨w.heap.size, 0, none⟩) 0 0) [] := Has.lit (enc := Value.int .i64) (e := 3) w [] (Nat.le_refl _) (by simp)
theorem gives_empty (w : World) : Gives (Value.int .i64) 3 [] w (.returned (.slice (some ⟨w.heap.size, 0, none⟩) 0 0)) (w.alloc (.cells #[] 3)) :=
  ⟨_, rfl, has_empty w, (Below.refl _ _).alloc (Nat.le_refl _) _⟩
theorem gives_nil (w : World) : Gives (Value.int .i64) 3 [] w (.returned (.slice none 0 0)) w := ⟨_, rfl, World.ownsRow_nil _ _ _ _, Below.refl _ _⟩
theorem powV_out (b : Int) (h : ¬ (2 ≤ b ∧ b ≤ 4)) : powV b 16 = 0 := if_neg (by omega)
theorem digV_len (n b : Int) : (digV n b).length ≤ 16 := by
  unfold digV
  split
  · exact digs_len _ _
  · simp
theorem digV_mem (n b : Int) : ∀ x ∈ digV n b, 0 ≤ x ∧ x < 4 := by
  unfold digV
  split
  · intro x hx
    have := digs_mem _ _ (by omega) x hx
    omega
  · intro x hx; cases hx
end Digits
end Go.Proofs.Ytojmlhcgghaceaa
