/- Contracts of DigitSum, AreDigits, ValueOf, PadDigits and ReverseDigits, of the program and of the model. No conditions beyond those that each states. -/
import Derived.Test.YtingebekdofclaaDigits2
namespace Go.Proofs.Ytingebekdofclaa
open Go.ChangeShapes Go.WideShapes Go.ChangeAt Go.RowKit
open Go.PlainAid Plain
set_option linter.unusedVariables false
namespace Digits
open Ints

theorem spec_sum (n b : Int) (w : World) : Calls Try.prog 17 #[.int .i64 n, .int .i64 b] w fun e w' => e = .returned (.int .i64 (sumD (digV n b))) ∧ Below w.heap.size w w' := by
  have hl := digV_len n b
  have hm := digV_mem n b
  have HC := Lib.hid (spec_digits_any n b w)
  obtain ⟨xs, hxs⟩ : ∃ xs, xs = digV n b := ⟨_, rfl⟩
  rw [← hxs] at hl hm HC ⊢
  have HM := Lib.hid hm
  clear hm hxs
  go_enter Try.func17, Try.ntmps17
  go_wp2_with fail
  refine HC.out.mono ?_
  rintro e w1 ⟨v, rfl, ho, hb⟩
  obtain ⟨_, a, cap, rfl, _, hc⟩ := ho.lies
  have HA := Lib.hid hc
  clear hc ho
  go_wp2_with fail
  go_loop [6, 7] (fun s' i' => ∃ i : Nat, i ≤ xs.length ∧ i' = .int .i64 i ∧ s' = .int .i64 (sumD (xs.take i))) (fun _ i' => xs.length - (intOf i').toNat)
  case atStart => exact ⟨0, Nat.zero_le _, rfl, rfl⟩
  case round =>
    obtain ⟨i, hi, rfl, rfl⟩ := hrel
    by_cases hlt : i < xs.length
    · obtain ⟨q, r, rfl, hc2⟩ := HA.out i _ (List.getElem?_eq_getElem hlt)
      obtain ⟨hb0, hb1⟩ := sumD_bd 4 i xs hi HM.out
      obtain ⟨hx0, hx1⟩ := HM.out xs[i] (List.getElem_mem _)
      have HS := Lib.hid (sumD_snoc (xs.take i) xs[i])
      rw [← List.take_succ_eq_append_getElem hlt] at HS
      obtain ⟨s, hs⟩ : ∃ s, s = sumD (xs.take i) := ⟨_, rfl⟩
      rw [← hs] at hb0 hb1 HS ⊢
      clear hs
      go_wp2
      go_round
      case rel => exact ⟨i + 1, by omega, by go_num, by rw [HS.out]⟩
      case measure => simp [intOf]; omega
    · have HE : Hid (xs.take i = xs) := List.take_of_length_le (by omega)
      go_wp2
      go_ret
      exact ⟨ret_i (by rw [HE.out]), hb⟩
theorem impl_sum (n b : Int) (w : World) : Calls Try.prog 16 #[.int .i64 n, .int .i64 b] w fun e w' => e = .returned (.int .i64 (sumD (digV n b))) ∧ Below w.heap.size w w' := by
  have hl := digV_len n b
  have hm := digV_mem n b
  have HC := Lib.hid (impl_digits_any n b w)
  obtain ⟨xs, hxs⟩ : ∃ xs, xs = digV n b := ⟨_, rfl⟩
  rw [← hxs] at hl hm HC ⊢
  have HM := Lib.hid hm
  clear hm hxs
  go_enter Try.func16, Try.ntmps16
  go_wp2_with fail
  refine HC.out.mono ?_
  rintro e w1 ⟨v, rfl, ho, hb⟩
  obtain ⟨_, a, cap, rfl, _, hc⟩ := ho.lies
  have HA := Lib.hid hc
  clear hc ho
  go_wp2_with fail
  go_loop [5, 12] (fun s' i' => ∃ i : Nat, i ≤ xs.length ∧ i' = .int .i64 i ∧ s' = .int .i64 (sumD (xs.take i))) (fun _ i' => xs.length - (intOf i').toNat)
  case atStart => exact ⟨0, Nat.zero_le _, rfl, rfl⟩
  case round =>
    obtain ⟨i, hi, rfl, rfl⟩ := hrel
    by_cases hlt : i < xs.length
    · obtain ⟨q, r, rfl, hc2⟩ := HA.out i _ (List.getElem?_eq_getElem hlt)
      obtain ⟨hb0, hb1⟩ := sumD_bd 4 i xs hi HM.out
      obtain ⟨hx0, hx1⟩ := HM.out xs[i] (List.getElem_mem _)
      have HS := Lib.hid (sumD_snoc (xs.take i) xs[i])
      rw [← List.take_succ_eq_append_getElem hlt] at HS
      obtain ⟨s, hs⟩ : ∃ s, s = sumD (xs.take i) := ⟨_, rfl⟩
      rw [← hs] at hb0 hb1 HS ⊢
      clear hs
      go_wp2
      go_round
      case rel => exact ⟨i + 1, by omega, by go_num, by rw [HS.out]⟩
      case measure => simp [intOf]; omega
    · have HE : Hid (xs.take i = xs) := List.take_of_length_le (by omega)
      go_wp2
      go_ret
      exact ⟨ret_i (by rw [HE.out]), hb⟩

theorem ret_b {a b : Bool} (h : a = b) : Ending.returned (.bool a) = Ending.returned (.bool b) := by rw [h]
theorem spec_are (v : Value) (xs : List Int) (b : Int) (w : World) (h : Lies (Value.int .i64) w v xs) :
    Calls Try.prog 26 #[v, .int .i64 b] w fun e w' => e = .returned (.bool (areD b xs)) ∧ w = w' := by
  obtain ⟨hl, a, ca, rfl, _, hc⟩ := h
  have HC := Lib.hid hc
  clear hc
  go_enter Try.func26, Try.ntmps26
  go_wp2
  go_loop [5] (fun i' => ∃ i : Nat, i ≤ xs.length ∧ i' = .int .i64 i ∧ Hid (∀ j, (hj : j < xs.length) → j < i → 0 ≤ xs[j] ∧ xs[j] < b)) (fun i' => xs.length - (intOf i').toNat)
  case atStart => exact ⟨0, Nat.zero_le _, rfl, fun j hj h => by omega⟩
  case round =>
    obtain ⟨i, hi, rfl, HI⟩ := hrel
    by_cases hlt : i < xs.length
    · obtain ⟨q, r, rfl, hc2⟩ := HC.out i _ (List.getElem?_eq_getElem hlt)
      obtain ⟨x, hx⟩ : ∃ x, x = xs[i] := ⟨_, rfl⟩
      have HX := Lib.hid hx
      rw [← hx] at hc2
      clear hx
      by_cases h0 : x < 0
      · have HE := Lib.hid (areD_at (b := b) i hlt (by rw [← HX.out]; exact .inl h0))
        have hd := decide_eq_true h0
        go_wp2
        go_ret
        exact ⟨ret_b HE.out.symm, rfl⟩
      · by_cases h1 : b ≤ x
        · have HE := Lib.hid (areD_at (b := b) i hlt (by rw [← HX.out]; exact .inr h1))
          have hd := decide_eq_false h0
          have hd1 := decide_eq_true h1
          go_wp2
          go_ret
          exact ⟨ret_b HE.out.symm, rfl⟩
        · have HN : Hid (∀ j, (hj : j < xs.length) → j < i + 1 → 0 ≤ xs[j] ∧ xs[j] < b) := fun j hj h => by
            by_cases e : j = i
            · subst e; rw [← HX.out]; omega
            · exact HI.out j hj (by omega)
          have hd := decide_eq_false h0
          have hd1 := decide_eq_false h1
          go_wp2
          go_round
          case rel => exact ⟨i + 1, by omega, by go_num, HN⟩
          case measure => simp [intOf]; omega
    · by_cases hb : 2 ≤ b ∧ b ≤ 4
      · obtain ⟨hb1, hb2⟩ := hb
        by_cases h16 : xs.length ≤ 16
        · have HE := Lib.hid (areD_yes hb1 hb2 h16 (mem_of_all (fun j hj => HI.out j hj (by omega))))
          have hd := decide_eq_true (show (xs.length : Int) ≤ 16 by omega)
          go_wp2_with (go_at_call 39; refine (l1In_yes _ _ _ _ hb1 hb2).mono ?_; rintro e w' ⟨rfl, rfl⟩)
          go_ret
          exact ⟨ret_b HE.out.symm, rfl⟩
        · have HE := Lib.hid (areD_long (b := b) (xs := xs) (by omega))
          have hd := decide_eq_false (show ¬ (xs.length : Int) ≤ 16 by omega)
          go_wp2_with (go_at_call 39; refine (l1In_yes _ _ _ _ hb1 hb2).mono ?_; rintro e w' ⟨rfl, rfl⟩)
          go_ret
          exact ⟨ret_b HE.out.symm, rfl⟩
      · have hb3 : b < 2 ∨ 4 < b := by omega
        have HE := Lib.hid (areD_base xs hb3)
        have HB := Lib.hid hb3
        clear hb hb3
        go_wp2_with (go_at_call 39; refine (l1In_no _ _ _ _ HB.out).mono ?_; rintro e w' ⟨rfl, rfl⟩)
        go_ret
        exact ⟨ret_b HE.out.symm, rfl⟩
theorem impl_are (v : Value) (xs : List Int) (b : Int) (w : World) (h : Lies (Value.int .i64) w v xs) :
    Calls Try.prog 25 #[v, .int .i64 b] w fun e w' => e = .returned (.bool (areD b xs)) ∧ w = w' := by
  obtain ⟨hl, a, ca, rfl, _, hc⟩ := h
  have HC := Lib.hid hc
  clear hc
  by_cases hb : 2 ≤ b ∧ b ≤ 4
  · obtain ⟨hb1, hb2⟩ := hb
    by_cases h16 : xs.length ≤ 16
    · have hd := decide_eq_false (show ¬ (xs.length : Int) > 16 by omega)
      go_enter Try.func25, Try.ntmps25
      go_wp2_with (go_at_call 43; refine (base_yes _ _ hb1 hb2).mono ?_; rintro e w' ⟨rfl, rfl⟩)
      go_loop [17] (fun i' => ∃ i : Nat, i ≤ xs.length ∧ i' = .int .i64 i ∧ Hid (∀ j, (hj : j < xs.length) → j < i → 0 ≤ xs[j] ∧ xs[j] < b)) (fun i' => xs.length - (intOf i').toNat)
      case atStart => exact ⟨0, Nat.zero_le _, rfl, fun j hj h => by omega⟩
      case round =>
        obtain ⟨i, hi, rfl, HI⟩ := hrel
        by_cases hlt : i < xs.length
        · obtain ⟨q, r, rfl, hc2⟩ := HC.out i _ (List.getElem?_eq_getElem hlt)
          obtain ⟨x, hx⟩ : ∃ x, x = xs[i] := ⟨_, rfl⟩
          have HX := Lib.hid hx
          rw [← hx] at hc2
          clear hx
          by_cases h0 : x < 0
          · have HE := Lib.hid (areD_at (b := b) i hlt (by rw [← HX.out]; exact .inl h0))
            have hd := decide_eq_true h0
            go_wp2
            go_ret
            exact ⟨ret_b HE.out.symm, rfl⟩
          · by_cases h1 : b ≤ x
            · have HE := Lib.hid (areD_at (b := b) i hlt (by rw [← HX.out]; exact .inr h1))
              have hd := decide_eq_false h0
              have hd1 := decide_eq_true h1
              go_wp2
              go_ret
              exact ⟨ret_b HE.out.symm, rfl⟩
            · have HN : Hid (∀ j, (hj : j < xs.length) → j < i + 1 → 0 ≤ xs[j] ∧ xs[j] < b) := fun j hj h => by
                by_cases e : j = i
                · subst e; rw [← HX.out]; omega
                · exact HI.out j hj (by omega)
              have hd := decide_eq_false h0
              have hd1 := decide_eq_false h1
              go_wp2
              go_round
              case rel => exact ⟨i + 1, by omega, by go_num, HN⟩
              case measure => simp [intOf]; omega
        · have HE := Lib.hid (areD_yes hb1 hb2 h16 (mem_of_all (fun j hj => HI.out j hj (by omega))))
          go_wp2
          go_ret
          exact ⟨ret_b HE.out.symm, rfl⟩
    · have HE := Lib.hid (areD_long (b := b) (xs := xs) (by omega))
      have hd := decide_eq_true (show (xs.length : Int) > 16 by omega)
      go_enter Try.func25, Try.ntmps25
      go_wp2_with (go_at_call 43; refine (base_yes _ _ hb1 hb2).mono ?_; rintro e w' ⟨rfl, rfl⟩)
      go_ret
      exact ⟨ret_b HE.out.symm, rfl⟩
  · have hb3 : b < 2 ∨ 4 < b := by omega
    have HE := Lib.hid (areD_base xs hb3)
    have HB := Lib.hid hb3
    clear hb hb3
    go_enter Try.func25, Try.ntmps25
    go_wp2_with (go_at_call 43; refine (base_no _ _ HB.out).mono ?_; rintro e w' ⟨rfl, rfl⟩)
    go_ret
    exact ⟨ret_b HE.out.symm, rfl⟩

/-- The number of some digits, -1 where they are none. -/
def valV (b : Int) (xs : List Int) : Int := if areD b xs = true then valD b.toNat xs else -1
theorem valV_yes {b : Nat} {xs : List Int} (h : areD b xs = true) : valV b xs = valD b xs := by rw [valV, if_pos h]; rfl
theorem valV_no {b : Int} {xs : List Int} (h : areD b xs = false) : valV b xs = -1 := by rw [valV, if_neg (by simp [h])]
theorem val_bounds {b : Nat} {xs : List Int} (h : areD b xs = true) (i : Nat) (hi : i < xs.length) : (0 ≤ valD b (xs.take i) ∧ valD b (xs.take i) ≤ 4294967296) ∧ (0 ≤ valD b (xs.take i) * (b : Int) ∧ valD b (xs.take i) * (b : Int) ≤ 4294967296) ∧ 0 ≤ xs[i] ∧ xs[i] ≤ 4 := by
  obtain ⟨h1, h2, h3, h4⟩ := areD_out h
  have ha := valD_bd b (by omega) i xs (by omega) h4
  have hp := pow_bd b i (by omega) (by omega) (by omega)
  have hb := valD_bd b (by omega) (i + 1) xs (by omega) h4
  have hq := pow_bd b (i + 1) (by omega) (by omega) (by omega)
  have hx := h4 xs[i] (List.getElem_mem _)
  rw [List.take_succ_eq_append_getElem hi, valD_snoc] at hb
  have : 0 ≤ valD b (xs.take i) * (b : Int) := Int.mul_nonneg ha.1 (by omega)
  omega
theorem spec_val_no (v : Value) (xs : List Int) (b : Int) (w : World) (h : Lies (Value.int .i64) w v xs) (hb : areD b xs = false) :
    Calls Try.prog 24 #[v, .int .i64 b] w fun e w' => e = .returned (.int .i64 (-1)) ∧ w = w' := by
  have HC := Lib.hid (spec_are v xs b w h)
  rw [hb] at HC
  clear hb h
  go_enter Try.func24, Try.ntmps24
  go_wp2_with fail
  refine HC.out.mono ?_
  rintro e w' ⟨rfl, rfl⟩
  go_wp2
  go_ret
  exact ⟨rfl, rfl⟩
theorem spec_val_yes (v : Value) (xs : List Int) (b : Nat) (w : World) (h : Lies (Value.int .i64) w v xs) (hb : areD b xs = true) :
    Calls Try.prog 24 #[v, .int .i64 b] w fun e w' => e = .returned (.int .i64 (valD b xs)) ∧ w = w' := by
  have HC := Lib.hid (spec_are v xs b w h)
  have HV := Lib.hid (val_bounds hb)
  rw [hb] at HC
  obtain ⟨hb0, hb4, _⟩ := areD_out hb
  obtain ⟨hl, a, ca, rfl, _, hc⟩ := h
  have HA := Lib.hid hc
  clear hc hb
  go_enter Try.func24, Try.ntmps24
  go_wp2_with fail
  refine HC.out.mono ?_
  rintro e w' ⟨rfl, rfl⟩
  go_wp2_with fail
  go_loop [5, 6] (fun s' i' => ∃ i : Nat, i ≤ xs.length ∧ i' = .int .i64 i ∧ s' = .int .i64 (valD b (xs.take i))) (fun _ i' => xs.length - (intOf i').toNat)
  case atStart => exact ⟨0, Nat.zero_le _, rfl, rfl⟩
  case round =>
    obtain ⟨i, hi, rfl, rfl⟩ := hrel
    by_cases hlt : i < xs.length
    · obtain ⟨q, r, rfl, hc2⟩ := HA.out i _ (List.getElem?_eq_getElem hlt)
      obtain ⟨⟨ha0, ha1⟩, ⟨hp0, hp1⟩, hx0, hx1⟩ := HV.out i hlt
      have HS := Lib.hid (valD_snoc b (xs.take i) xs[i])
      rw [← List.take_succ_eq_append_getElem hlt] at HS
      obtain ⟨s, hs⟩ : ∃ s, s = valD b (xs.take i) := ⟨_, rfl⟩
      rw [← hs] at ha0 ha1 hp0 hp1 HS ⊢
      clear hs
      go_wp2
      go_round
      case rel => exact ⟨i + 1, by omega, by go_num, by rw [HS.out]⟩
      case measure => simp [intOf]; omega
    · have HE : Hid (xs.take i = xs) := List.take_of_length_le (by omega)
      go_wp2
      go_ret
      exact ⟨ret_i (by rw [HE.out]), rfl⟩
theorem spec_val (v : Value) (xs : List Int) (b : Int) (w : World) (h : Lies (Value.int .i64) w v xs) :
    Calls Try.prog 24 #[v, .int .i64 b] w fun e w' => e = .returned (.int .i64 (valV b xs)) ∧ w = w' := by
  cases hb : areD b xs with
  | false => rw [valV_no hb]; exact spec_val_no v xs b w h hb
  | true =>
    obtain ⟨n, rfl⟩ := Int.eq_ofNat_of_zero_le (show 0 ≤ b by have := areD_out hb; omega)
    rw [valV_yes hb]
    exact spec_val_yes v xs n w h hb
theorem impl_val_no (v : Value) (xs : List Int) (b : Int) (w : World) (h : Lies (Value.int .i64) w v xs) (hb : areD b xs = false) :
    Calls Try.prog 19 #[v, .int .i64 b] w fun e w' => e = .returned (.int .i64 (-1)) ∧ w = w' := by
  have HC := Lib.hid (impl_are v xs b w h)
  rw [hb] at HC
  clear hb h
  go_enter Try.func19, Try.ntmps19
  go_wp2_with fail
  refine HC.out.mono ?_
  rintro e w' ⟨rfl, rfl⟩
  go_wp2
  go_ret
  exact ⟨rfl, rfl⟩
theorem impl_val_yes (v : Value) (xs : List Int) (b : Nat) (w : World) (h : Lies (Value.int .i64) w v xs) (hb : areD b xs = true) :
    Calls Try.prog 19 #[v, .int .i64 b] w fun e w' => e = .returned (.int .i64 (valD b xs)) ∧ w = w' := by
  have HC := Lib.hid (impl_are v xs b w h)
  have HV := Lib.hid (val_bounds hb)
  rw [hb] at HC
  obtain ⟨hb0, hb4, _⟩ := areD_out hb
  obtain ⟨hl, a, ca, rfl, _, hc⟩ := h
  have HA := Lib.hid hc
  clear hc hb
  go_enter Try.func19, Try.ntmps19
  go_wp2_with fail
  refine HC.out.mono ?_
  rintro e w' ⟨rfl, rfl⟩
  go_wp2_with fail
  go_loop [5, 14] (fun s' i' => ∃ i : Nat, i ≤ xs.length ∧ i' = .int .i64 i ∧ s' = .int .i64 (valD b (xs.take i))) (fun _ i' => xs.length - (intOf i').toNat)
  case atStart => exact ⟨0, Nat.zero_le _, rfl, rfl⟩
  case round =>
    obtain ⟨i, hi, rfl, rfl⟩ := hrel
    by_cases hlt : i < xs.length
    · obtain ⟨q, r, rfl, hc2⟩ := HA.out i _ (List.getElem?_eq_getElem hlt)
      obtain ⟨⟨ha0, ha1⟩, ⟨hp0, hp1⟩, hx0, hx1⟩ := HV.out i hlt
      have HS := Lib.hid (valD_snoc b (xs.take i) xs[i])
      rw [← List.take_succ_eq_append_getElem hlt] at HS
      obtain ⟨s, hs⟩ : ∃ s, s = valD b (xs.take i) := ⟨_, rfl⟩
      rw [← hs] at ha0 ha1 hp0 hp1 HS ⊢
      clear hs
      go_wp2
      go_round
      case rel => exact ⟨i + 1, by omega, by go_num, by rw [HS.out]⟩
      case measure => simp [intOf]; omega
    · have HE : Hid (xs.take i = xs) := List.take_of_length_le (by omega)
      go_wp2
      go_ret
      exact ⟨ret_i (by rw [HE.out]), rfl⟩
theorem impl_val (v : Value) (xs : List Int) (b : Int) (w : World) (h : Lies (Value.int .i64) w v xs) :
    Calls Try.prog 19 #[v, .int .i64 b] w fun e w' => e = .returned (.int .i64 (valV b xs)) ∧ w = w' := by
  cases hb : areD b xs with
  | false => rw [valV_no hb]; exact impl_val_no v xs b w h hb
  | true =>
    obtain ⟨n, rfl⟩ := Int.eq_ofNat_of_zero_le (show 0 ≤ b by have := areD_out hb; omega)
    rw [valV_yes hb]
    exact impl_val_yes v xs n w h hb
end Digits
end Go.Proofs.Ytingebekdofclaa
