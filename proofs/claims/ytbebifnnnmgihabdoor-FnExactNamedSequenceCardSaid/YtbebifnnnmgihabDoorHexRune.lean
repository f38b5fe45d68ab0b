/- Contracts of the look-up of a rune among the sixteen hexadecimal digits: for every valid rune it answers what the digit is worth, or -1; what was in memory stays as it was. -/
import Derived.Test.YtbebifnnnmgihabDoorRows
import Derived.WalkKit
import Derived.ProofKit
import Derived.OpenShut
import Derived.ShutString
import Derived.PlainAid
import Derived.Lib.Hide
import Derived.BigQuiet
import Derived.Deep.QuietTactic
import Derived.WalkSpells
import Derived.WalkLawsBesides
import Derived.Lib.OthersKept
import Derived.Test.YtbebifnnnmgihabDoorPlain
import Derived.Test.YtbebifnnnmgihabDoorKit
import Derived.Test.YtbebifnnnmgihabDoorHexVal
import Derived.Test.YtbebifnnnmgihabDoorShelf
import Derived.Test.YtbebifnnnmgihabDoorHexEnc
namespace Go.Proofs.YtbebifnnnmgihabDoor
open Go.ChangeShapes Go.WideShapes Go.ChangeAt Go.RowKit
open Go.ChangeMaps (open_string shut_string)
open Go.PlainAid Plain
set_option linter.unusedVariables false
namespace HexRune
theorem ret_int {a b : Int} (h : a = b) : Ending.returned (.int .i64 a) = Ending.returned (.int .i64 b) := by rw [h]

set_option maxRecDepth 100000 in
/-- The look-up of the replacement rune: it goes through the sixteen letters. -/
theorem rune_bad (w : World) :
    Calls Tryd.prog 60 #[.string HEX, .int .i32 65533] w fun e w' => e = .returned (.int .i64 (-1)) ∧ Below w.heap.size w w' := by
  have hbx := get_bt HEX
  have hsz := hex_size
  go_enter Tryd.func60, Tryd.ntmps60
  go_wp2
  go_loopw [] (fun wr => ∃ k : Nat, k ≤ 16 ∧ wr = w.iter HEX k) (fun wr => 16 - wr.iterPos w.heap.size)
  case atStart => exact ⟨0, by omega, rfl⟩
  case round =>
    obtain ⟨k, hk, rfl⟩ := hrel
    by_cases hlt : k < 16
    · have hl := hex_low ⟨k, hlt⟩
      simp only at hl
      obtain ⟨hl1, hl0⟩ := hl
      have hnx := fun ty => run_next_ascii (P := Tryd.prog) w HEX k ty (by rw [hsz]; exact hlt) (by have := hbx k (by rw [hsz]; exact hlt); omega)
      go_wp2
      go_roundw
      case rel => exact ⟨k + 1, by omega, rfl⟩
      case measure => rw [World.iterPos_iter, World.iterPos_iter]; omega
    · have hnx := fun ty => run_next_end (P := Tryd.prog) w HEX k ty (by rw [hsz]; exact hlt)
      go_wp2
      go_ret
      exact ⟨rfl, (Below.refl _ _).alloc (Nat.le_refl _) _⟩

/-- A rune from 128 on that is not the replacement rune: its last byte is none of the sixteen letters. -/
theorem high_facts (r : Int) (hv : Lib.validRune r = true) (h128 : 128 ≤ r) : ∃ n : Nat, (Utf8.encode r).size = n + 1 ∧ 1 ≤ n ∧ n ≤ 3 ∧ 128 ≤ bt (Utf8.encode r) n := by
  have hv' : Utf8.valid r = true := by
    simp only [Lib.validRune, decide_eq_true_eq] at hv
    simp only [Utf8.valid, Bool.and_eq_true, Bool.or_eq_true, decide_eq_true_eq]
    omega
  obtain ⟨h1, h2, h3⟩ := encode_facts r hv' h128
  refine ⟨(Utf8.encode r).size - 1, by omega, by omega, by omega, ?_⟩
  unfold bt
  rw [dif_pos (by omega)]
  have := h3 (by omega)
  omega
set_option maxRecDepth 100000 in
theorem rune_high (r : Int) (w : World) (hv : Lib.validRune r = true) (h128 : 128 ≤ r) (hne : r < 65533 ∨ 65533 < r) :
    Calls Tryd.prog 60 #[.string HEX, .int .i32 r] w fun e w' => e = .returned (.int .i64 (-1)) ∧ ∃ n, w' = w.drewN n := by
  have hbx := get_bt HEX
  have hbe := get_bt (Utf8.encode r)
  have hsz := hex_size
  obtain ⟨n, hn, hn1, hn3, hlast⟩ := high_facts r hv h128
  have hl := hex_low ⟨n, by omega⟩
  simp only at hl
  obtain ⟨hl1, hl0⟩ := hl
  have hr : (r == 65533) = false := by simp; omega
  clear hne
  go_enter Tryd.func60, Tryd.ntmps60
  go_wp2_with (go_at_call 71; refine (Tryd.utf8_ValidRune _ _).mono ?_; rw [hv]; rintro e w' ⟨rfl, rfl⟩)
  go_step3
  go_wp2_with fail
  refine wp_loop_rounds 1 ?_
  rw [rounds_succ]
  go_wp2_with fail
  go_step3
  go_wp2_with fail
  go_quiet (fail)
  go_wp2_with fail
  have e1 : IntKind.i64.wrap ((n : Int) + 1) = (n : Int) + 1 := IntWalk.i64_in _ (by omega)
  have e2 : (0 : Int) ≤ (n : Int) + 1 := by omega
  have e3 : ((n : Int) + 1).toNat = n + 1 := by omega
  go_quiet ((go_at_call 70; exact still_again (fun W => Tryd.strings_IndexByte _ _ W)))
  clear e1 e2 e3
  have ht := hex_tail n hn3 _ hlast (bt_le _ _)
  go_wp2
  rw [Exit.noGoto_ret]
  go_wp2
  rw [Exit.noGoto_ret]
  go_ret
  exact ⟨rfl, _, rfl⟩
/-- The look-up, for every valid rune. -/
theorem rune_any (r : Int) (w : World) (hv : Lib.validRune r = true) (h128 : 128 ≤ r) :
    Calls Tryd.prog 60 #[.string HEX, .int .i32 r] w fun e w' => e = .returned (.int .i64 (-1)) ∧ Below w.heap.size w w' := by
  by_cases h : r = 65533
  · subst h
    exact rune_bad w
  · exact (rune_high r w hv h128 (by omega)).mono fun e w' ⟨he, n, hn⟩ => ⟨he, by rw [hn]; exact below_drewN (Below.refl _ _) n⟩
theorem digit_high (r : Int) (w : World) (hv : Lib.validRune r = true) (h128 : 128 ≤ r) :
    Calls Tryd.prog 51 #[.int .i32 r] w fun e w' => e = .returned (.int .i64 (-1)) ∧ Below w.heap.size w w' := by
  go_enter Tryd.func51, Tryd.ntmps51
  go_wp2_with (go_at_call 60; refine (rune_any r _ hv h128).mono ?_; rintro e w1 ⟨rfl, hb1⟩)
  go_ret
  exact ⟨rfl, hb1⟩
theorem digit_ascii (r : Int) (w : World) (h0 : 0 ≤ r) (h1 : r < 128) :
    Calls Tryd.prog 51 #[.int .i32 r] w fun e w' => e = .returned (.int .i64 (hexv r)) ∧ w = w' := by
  have HX := Lib.hid (hex_index r h0 h1)
  go_enter Tryd.func51, Tryd.ntmps51
  go_wp2_with (go_at_call 60; refine (Tryd.strings_IndexRune_ascii HEX r _ h0 h1).mono ?_; rw [HX.out]; rintro e w1 ⟨rfl, rfl⟩)
  go_ret
  exact ⟨rfl, rfl⟩
end HexRune
end Go.Proofs.YtbebifnnnmgihabDoor
