/- Contracts of the look-up of a rune among the sixteen hexadecimal digits: for every valid rune it answers what the digit is worth, or -1; what was in memory stays as it was. -/
import Derived.Test.YtkplmhnhpkpppaaRows
import Derived.WalkKit
import Derived.ProofKit
import Derived.OpenShut
import Derived.ShutString
import Derived.PlainAid
import Derived.Lib.Hide
import Derived.BigQuiet
import Derived.Deep.QuietTactic
import Derived.WalkSpells
import Derived.WalkLawsBesides
import Derived.Lib.OthersKept
import Derived.Test.YtkplmhnhpkpppaaPlain
import Derived.Test.YtkplmhnhpkpppaaKit
import Derived.Test.YtkplmhnhpkpppaaHexVal
import Derived.Test.YtkplmhnhpkpppaaShelf
import Derived.Test.YtkplmhnhpkpppaaHexEnc
namespace Go.Proofs.Ytkplmhnhpkpppaa
open Go.ChangeShapes Go.WideShapes Go.ChangeAt Go.RowKit
open Go.ChangeMaps (open_string shut_string)
open Go.PlainAid Plain
set_option linter.unusedVariables false
namespace HexRune
theorem ret_int {a b : Int} (h : a = b) : Ending.returned (.int .i64 a) = Ending.returned (.int .i64 b) := by rw [h]

set_option maxRecDepth 100000 in
/-- The look-up of the replacement rune: it goes through the sixteen letters. -/
theorem rune_bad (w : World) :
    Calls Try.prog 26 #[.string HEX, .int .i32 65533] w fun e w' => e = .returned (.int .i64 (-1)) ∧ Below w.heap.size w w' := by
  have hbx := get_bt HEX
  have hsz := hex_size
  go_enter Try.func26, Try.ntmps26
  go_wp2
  go_loopw [] (fun wr => ∃ k : Nat, k ≤ 16 ∧ wr = w.iter HEX k) (fun wr => 16 - wr.iterPos w.heap.size)
  case atStart => exact ⟨0, by omega, rfl⟩
  case round =>
    obtain ⟨k, hk, rfl⟩ := hrel
    by_cases hlt : k < 16
    · have hl := hex_low ⟨k, hlt⟩
      simp only at hl
      obtain ⟨hl1, hl0⟩ := hl
      have hnx := fun ty => run_next_ascii (P := Try.prog) w HEX k ty (by rw [hsz]; exact hlt) (by have := hbx k (by rw [hsz]; exact hlt); omega)
      go_wp2
      go_roundw
      case rel => exact ⟨k + 1, by omega, rfl⟩
      case measure => rw [World.iterPos_iter, World.iterPos_iter]; omega
    · have hnx := fun ty => run_next_end (P := Try.prog) w HEX k ty (by rw [hsz]; exact hlt)
      go_wp2
      go_ret
      exact ⟨rfl, (Below.refl _ _).alloc (Nat.le_refl _) _⟩

/-- A rune from 128 on that is not the replacement rune: its last byte is none of the sixteen letters. -/
theorem high_facts (r : Int) (hv : Lib.validRune r = true) (h128 : 128 ≤ r) : ∃ n : Nat, (Utf8.encode r).size = n + 1 ∧ 1 ≤ n ∧ n ≤ 3 ∧ 128 ≤ bt (Utf8.encode r) n := by
  have hv' : Utf8.valid r = true := by
    simp only [Lib.validRune, decide_eq_true_eq] at hv
    simp only [Utf8.valid, Bool.and_eq_true, Bool.or_eq_true, decide_eq_true_eq]
    omega
  obtain ⟨h1, h2, h3⟩ := encode_facts r hv' h128
  refine ⟨(Utf8.encode r).size - 1, by omega, by omega, by omega, ?_⟩
  unfold bt
  rw [dif_pos (by omega)]
  have := h3 (by omega)
  omega
set_option maxRecDepth 100000 in
theorem rune_high (r : Int) (w : World) (hv : Lib.validRune r = true) (h128 : 128 ≤ r) (hne : r < 65533 ∨ 65533 < r) :
    Calls Try.prog 26 #[.string HEX, .int .i32 r] w fun e w' => e = .returned (.int .i64 (-1)) ∧ ∃ n, w' = w.drewN n := by
  have hbx := get_bt HEX
  have hbe := get_bt (Utf8.encode r)
  have hsz := hex_size
  obtain ⟨n, hn, hn1, hn3, hlast⟩ := high_facts r hv h128
  have hl := hex_low ⟨n, by omega⟩
  simp only at hl
  obtain ⟨hl1, hl0⟩ := hl
  have hr : (r == 65533) = false := by simp; omega
  clear hne
  go_enter Try.func26, Try.ntmps26
  go_wp2_with (go_at_call 28; refine (Try.utf8_ValidRune _ _).mono ?_; rw [hv]; rintro e w' ⟨rfl, rfl⟩)
  go_step3
  go_wp2_with fail
  refine wp_loop_rounds 1 ?_
  rw [rounds_succ]
  go_wp2_with fail
  go_step3
  go_wp2_with fail
  go_quiet (fail)
  go_wp2_with fail
  have e1 : IntKind.i64.wrap ((n : Int) + 1) = (n : Int) + 1 := IntWalk.i64_in _ (by omega)
  have e2 : (0 : Int) ≤ (n : Int) + 1 := by omega
  have e3 : ((n : Int) + 1).toNat = n + 1 := by omega
  go_quiet ((go_at_call 27; exact still_again (fun W => Try.strings_IndexByte _ _ W)))
  clear e1 e2 e3
  have ht := hex_tail n hn3 _ hlast (bt_le _ _)
  go_wp2
  rw [Exit.noGoto_ret]
  go_wp2
  rw [Exit.noGoto_ret]
  go_ret
  exact ⟨rfl, _, rfl⟩
/-- The look-up, for every valid rune. -/
theorem rune_any (r : Int) (w : World) (hv : Lib.validRune r = true) (h128 : 128 ≤ r) :
    Calls Try.prog 26 #[.string HEX, .int .i32 r] w fun e w' => e = .returned (.int .i64 (-1)) ∧ Below w.heap.size w w' := by
  by_cases h : r = 65533
  · subst h
    exact rune_bad w
  · exact (rune_high r w hv h128 (by omega)).mono fun e w' ⟨he, n, hn⟩ => ⟨he, by rw [hn]; exact below_drewN (Below.refl _ _) n⟩
theorem digit_high (r : Int) (w : World) (hv : Lib.validRune r = true) (h128 : 128 ≤ r) :
    Calls Try.prog 25 #[.int .i32 r] w fun e w' => e = .returned (.int .i64 (-1)) ∧ Below w.heap.size w w' := by
  go_enter Try.func25, Try.ntmps25
  go_wp2_with (go_at_call 26; refine (rune_any r _ hv h128).mono ?_; rintro e w1 ⟨rfl, hb1⟩)
  go_ret
  exact ⟨rfl, hb1⟩
theorem digit_ascii (r : Int) (w : World) (h0 : 0 ≤ r) (h1 : r < 128) :
    Calls Try.prog 25 #[.int .i32 r] w fun e w' => e = .returned (.int .i64 (hexv r)) ∧ w = w' := by
  have HX := Lib.hid (hex_index r h0 h1)
  go_enter Try.func25, Try.ntmps25
  go_wp2_with (go_at_call 26; refine (Try.strings_IndexRune_ascii HEX r _ h0 h1).mono ?_; rw [HX.out]; rintro e w1 ⟨rfl, rfl⟩)
  go_ret
  exact ⟨rfl, rfl⟩
theorem model_digit (b : Int) (w : World) (h0 : 0 ≤ b) (h1 : b ≤ 255) :
    Calls Try.prog 24 #[.int .u8 b] w fun e w' => e = .returned (.int .i64 (hexv b)) ∧ w = w' := by
  go_enter Try.func24, Try.ntmps24
  go_wp2
  go_loop [3] (fun i => ∃ k : Nat, k ≤ 16 ∧ i = .int .i64 k ∧ Hid (∀ j : Nat, j < k → hexd (j : Int) ≠ b)) (fun i => 16 - (intOf i).toNat)
  case atStart => exact ⟨0, by omega, rfl, fun j hj => by omega⟩
  case round =>
    obtain ⟨k, hk, rfl, hno⟩ := hrel
    by_cases hlt : k < 16
    · by_cases he : hexd (k : Int) = b
      · have HE := Lib.hid (hexv_found k hlt b he)
        have hq : (hexd (k : Int) == b) = true := by simp [he]
        clear he
        go_wp2_with (go_at_call 23; refine (HexEnc.digit _ _ (by omega) (by omega)).mono ?_; rintro e w' ⟨rfl, rfl⟩)
        go_ret
        exact ⟨ret_int HE.out.symm, rfl⟩
      · have HN : Hid (∀ j : Nat, j < k + 1 → hexd (j : Int) ≠ b) := fun j hj => by
          by_cases e : j = k
          · subst e; exact he
          · exact hno.out j (by omega)
        have hq : (hexd (k : Int) == b) = false := by simp [he]
        clear he hno
        go_wp2_with (go_at_call 23; refine (HexEnc.digit _ _ (by omega) (by omega)).mono ?_; rintro e w' ⟨rfl, rfl⟩)
        go_round
        case rel => exact ⟨k + 1, by omega, by go_num, HN⟩
        case measure => simp [intOf]; omega
    · have HE := Lib.hid (hexv_none b (fun j hj => hno.out j (by omega)))
      clear hno
      go_wp2
      go_ret
      exact ⟨ret_int HE.out.symm, rfl⟩
end HexRune
end Go.Proofs.Ytkplmhnhpkpppaa
