/- Contracts of DigitSum, AreDigits, ValueOf, PadDigits and ReverseDigits, of the program and of the model. No conditions beyond those that each states. -/
import Derived.Test.YthnmighlgifoeaaDigits2
namespace Go.Proofs.Ythnmighlgifoeaa
open Go.ChangeShapes Go.WideShapes Go.ChangeAt Go.RowKit
open Go.PlainAid Plain
set_option linter.unusedVariables false
namespace Digits
open Ints

theorem ret_b {a b : Bool} (h : a = b) : Ending.returned (.bool a) = Ending.returned (.bool b) := by rw [h]
theorem spec_are (v : Value) (xs : List Int) (b : Int) (w : World) (h : Lies (Value.int .i64) w v xs) :
    Calls Try.prog 86 #[v, .int .i64 b] w fun e w' => e = .returned (.bool (areD b xs)) ∧ w = w' := by
  obtain ⟨hl, a, ca, rfl, _, hc⟩ := h
  have HC := Lib.hid hc
  clear hc
  go_enter Try.func86, Try.ntmps86
  go_wp2
  go_loop [5] (fun i' => ∃ i : Nat, i ≤ xs.length ∧ i' = .int .i64 i ∧ Hid (∀ j, (hj : j < xs.length) → j < i → 0 ≤ xs[j] ∧ xs[j] < b)) (fun i' => xs.length - (intOf i').toNat)
  case atStart => exact ⟨0, Nat.zero_le _, rfl, fun j hj h => by omega⟩
  case round =>
    obtain ⟨i, hi, rfl, HI⟩ := hrel
    by_cases hlt : i < xs.length
    · obtain ⟨q, r, rfl, hc2⟩ := HC.out i _ (List.getElem?_eq_getElem hlt)
      obtain ⟨x, hx⟩ : ∃ x, x = xs[i] := ⟨_, rfl⟩
      have HX := Lib.hid hx
      rw [← hx] at hc2
      clear hx
      by_cases h0 : x < 0
      · have HE := Lib.hid (areD_at (b := b) i hlt (by rw [← HX.out]; exact .inl h0))
        have hd := decide_eq_true h0
        go_wp2
        go_ret
        exact ⟨ret_b HE.out.symm, rfl⟩
      · by_cases h1 : b ≤ x
        · have HE := Lib.hid (areD_at (b := b) i hlt (by rw [← HX.out]; exact .inr h1))
          have hd := decide_eq_false h0
          have hd1 := decide_eq_true h1
          go_wp2
          go_ret
          exact ⟨ret_b HE.out.symm, rfl⟩
        · have HN : Hid (∀ j, (hj : j < xs.length) → j < i + 1 → 0 ≤ xs[j] ∧ xs[j] < b) := fun j hj h => by
            by_cases e : j = i
            · subst e; rw [← HX.out]; omega
            · exact HI.out j hj (by omega)
          have hd := decide_eq_false h0
          have hd1 := decide_eq_false h1
          go_wp2
          go_round
          case rel => exact ⟨i + 1, by omega, by go_num, HN⟩
          case measure => simp [intOf]; omega
    · by_cases hb : 2 ≤ b ∧ b ≤ 4
      · obtain ⟨hb1, hb2⟩ := hb
        by_cases h16 : xs.length ≤ 16
        · have HE := Lib.hid (areD_yes hb1 hb2 h16 (mem_of_all (fun j hj => HI.out j hj (by omega))))
          have hd := decide_eq_true (show (xs.length : Int) ≤ 16 by omega)
          go_wp2_with (go_at_call 35; refine (l1In_yes _ _ _ _ hb1 hb2).mono ?_; rintro e w' ⟨rfl, rfl⟩)
          go_ret
          exact ⟨ret_b HE.out.symm, rfl⟩
        · have HE := Lib.hid (areD_long (b := b) (xs := xs) (by omega))
          have hd := decide_eq_false (show ¬ (xs.length : Int) ≤ 16 by omega)
          go_wp2_with (go_at_call 35; refine (l1In_yes _ _ _ _ hb1 hb2).mono ?_; rintro e w' ⟨rfl, rfl⟩)
          go_ret
          exact ⟨ret_b HE.out.symm, rfl⟩
      · have hb3 : b < 2 ∨ 4 < b := by omega
        have HE := Lib.hid (areD_base xs hb3)
        have HB := Lib.hid hb3
        clear hb hb3
        go_wp2_with (go_at_call 35; refine (l1In_no _ _ _ _ HB.out).mono ?_; rintro e w' ⟨rfl, rfl⟩)
        go_ret
        exact ⟨ret_b HE.out.symm, rfl⟩
/-- The number of some digits, -1 where they are none. -/
def valV (b : Int) (xs : List Int) : Int := if areD b xs = true then valD b.toNat xs else -1
theorem valV_yes {b : Nat} {xs : List Int} (h : areD b xs = true) : valV b xs = valD b xs := by rw [valV, if_pos h]; rfl
theorem valV_no {b : Int} {xs : List Int} (h : areD b xs = false) : valV b xs = -1 := by rw [valV, if_neg (by simp [h])]
theorem val_bounds {b : Nat} {xs : List Int} (h : areD b xs = true) (i : Nat) (hi : i < xs.length) : (0 ≤ valD b (xs.take i) ∧ valD b (xs.take i) ≤ 4294967296) ∧ (0 ≤ valD b (xs.take i) * (b : Int) ∧ valD b (xs.take i) * (b : Int) ≤ 4294967296) ∧ 0 ≤ xs[i] ∧ xs[i] ≤ 4 := by
  obtain ⟨h1, h2, h3, h4⟩ := areD_out h
  have ha := valD_bd b (by omega) i xs (by omega) h4
  have hp := pow_bd b i (by omega) (by omega) (by omega)
  have hb := valD_bd b (by omega) (i + 1) xs (by omega) h4
  have hq := pow_bd b (i + 1) (by omega) (by omega) (by omega)
  have hx := h4 xs[i] (List.getElem_mem _)
  rw [List.take_succ_eq_append_getElem hi, valD_snoc] at hb
  have : 0 ≤ valD b (xs.take i) * (b : Int) := Int.mul_nonneg ha.1 (by omega)
  omega
end Digits
end Go.Proofs.Ythnmighlgifoeaa
