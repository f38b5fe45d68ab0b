/- Contracts of DigitSum, AreDigits, ValueOf, PadDigits and ReverseDigits, of the program and of the model. No conditions beyond those that each states. -/
import Derived.Test.YtojmlhcgghaceaaDigits2
namespace Go.Proofs.Ytojmlhcgghaceaa
open Go.ChangeShapes Go.WideShapes Go.ChangeAt Go.RowKit
open Go.PlainAid Plain
set_option linter.unusedVariables false
namespace Digits
open Ints

theorem ret_b {a b : Bool} (h : a = b) : Ending.returned (.bool a) = Ending.returned (.bool b) := by rw [h]
/-- The number of some digits, -1 where they are none. -/
def valV (b : Int) (xs : List Int) : Int := if areD b xs = true then valD b.toNat xs else -1
theorem valV_yes {b : Nat} {xs : List Int} (h : areD b xs = true) : valV b xs = valD b xs := by rw [valV, if_pos h]; rfl
theorem valV_no {b : Int} {xs : List Int} (h : areD b xs = false) : valV b xs = -1 := by rw [valV, if_neg (by simp [h])]
theorem val_bounds {b : Nat} {xs : List Int} (h : areD b xs = true) (i : Nat) (hi : i < xs.length) : (0 ≤ valD b (xs.take i) ∧ valD b (xs.take i) ≤ 4294967296) ∧ (0 ≤ valD b (xs.take i) * (b : Int) ∧ valD b (xs.take i) * (b : Int) ≤ 4294967296) ∧ 0 ≤ xs[i] ∧ xs[i] ≤ 4 := by
  obtain ⟨h1, h2, h3, h4⟩ := areD_out h
  have ha := valD_bd b (by omega) i xs (by omega) h4
  have hp := pow_bd b i (by omega) (by omega) (by omega)
  have hb := valD_bd b (by omega) (i + 1) xs (by omega) h4
  have hq := pow_bd b (i + 1) (by omega) (by omega) (by omega)
  have hx := h4 xs[i] (List.getElem_mem _)
  rw [List.take_succ_eq_append_getElem hi, valD_snoc] at hb
  have : 0 ≤ valD b (xs.take i) * (b : Int) := Int.mul_nonneg ha.1 (by omega)
  omega
end Digits
end Go.Proofs.Ytojmlhcgghaceaa
