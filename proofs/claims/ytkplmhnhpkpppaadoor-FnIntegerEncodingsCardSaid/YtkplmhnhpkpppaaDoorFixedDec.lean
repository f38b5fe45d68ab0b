/- Contracts of DecodeFixed in the program and in the model: for every string within the form's reach and every width both return the same pair. -/
import Derived.Test.YtkplmhnhpkpppaaDoorRows
import Derived.WalkKit
import Derived.ProofKit
import Derived.OpenShut
import Derived.ShutString
import Derived.PlainAid
import Derived.Lib.Hide
import Derived.Test.YtkplmhnhpkpppaaDoorPlain
import Derived.Test.YtkplmhnhpkpppaaDoorCommon
namespace Go.Proofs.YtkplmhnhpkpppaaDoor
open Go.ChangeShapes Go.WideShapes Go.ChangeAt Go.RowKit
open Go.ChangeMaps (open_string shut_string)
open Go.PlainAid Plain
set_option linter.unusedVariables false

namespace FixedDec
theorem ret_pair {a b : Int} (h : a = b) : Ending.returned (.tuple #[.int .i64 a, .bool true]) = Ending.returned (.tuple #[.int .i64 b, .bool true]) := by rw [h]

theorem impl_ok (s : ByteArray) (a : Nat) (w : World) (h1 : 1 ≤ a) (h2 : a ≤ 7) (h3 : a ≤ s.size) (hs : s.size ≤ maxLen) :
    Calls Tryd.prog 13 #[.string s, .int .i64 a] w fun e w' => e = .returned (.tuple #[.int .i64 (pv s a), .bool true]) ∧ w = w' := by
  unfold maxLen at hs
  have hd : decide (s.size < a) = false := by simp; omega
  have hbt := get_bt s
  go_enter Tryd.func13, Tryd.ntmps13
  go_wp2_with (go_at_call 25; refine (fix_yes _ _ (by omega) (by omega)).mono ?_; rintro e w' ⟨rfl, rfl⟩)
  go_loop [6, 7] (fun n i => ∃ k : Nat, k ≤ a ∧ i = .int .i64 k ∧ n = .int .i64 (pv s k)) (fun _ i => a - (intOf i).toNat)
  case atStart => exact ⟨0, Nat.zero_le _, rfl, rfl⟩
  case round =>
    obtain ⟨k, hk, rfl, rfl⟩ := hrel
    by_cases hlt : k < a
    · have hp := pv_small s k (by omega)
      have hb0 := bt_nonneg s k
      have hb1 := bt_le s k
      go_wp2
      go_round
      case rel => exact ⟨k + 1, by omega, by go_num, by rw [pv_succ, or8 _ _ (by omega) (by omega) hb0 hb1]⟩
      case measure => simp [intOf]; omega
    · have hka : k = a := by omega
      have HK := Lib.hid hka
      clear hka
      go_wp2
      go_ret2
      exact ⟨ret_pair (by rw [HK.out]), rfl⟩
theorem impl_no (s : ByteArray) (a : Int) (w : World) (h1 : (a < 1 ∨ 7 < a) ∨ s.size < a) (hs : s.size ≤ maxLen) :
    Calls Tryd.prog 13 #[.string s, .int .i64 a] w fun e w' => e = .returned (.tuple #[.int .i64 0, .bool false]) ∧ w = w' := by
  unfold maxLen at hs
  by_cases h2 : a < 1 ∨ 7 < a
  · go_enter Tryd.func13, Tryd.ntmps13
    go_wp2_with (go_at_call 25; refine (fix_no _ _ h2).mono ?_; rintro e w' ⟨rfl, rfl⟩)
    go_ret2
    exact ⟨rfl, rfl⟩
  · have h3 : s.size < a := by omega
    have h4 : 1 ≤ a := by omega
    have h5 : a ≤ 7 := by omega
    clear h1 h2
    go_enter Tryd.func13, Tryd.ntmps13
    go_wp2_with (go_at_call 25; refine (fix_yes _ _ (by omega) (by omega)).mono ?_; rintro e w' ⟨rfl, rfl⟩)
    go_ret2
    exact ⟨rfl, rfl⟩
/-- What DecodeFixed returns. -/
def dfB (s : ByteArray) (a : Int) : Bool := decide (1 ≤ a ∧ a ≤ 7 ∧ a ≤ s.size)
def dfV (s : ByteArray) (a : Int) : Int := if dfB s a = true then pv s a.toNat else 0
theorem impl_any (s : ByteArray) (a : Int) (w : World) (hs : s.size ≤ maxLen) :
    Calls Tryd.prog 13 #[.string s, .int .i64 a] w fun e w' => e = .returned (.tuple #[.int .i64 (dfV s a), .bool (dfB s a)]) ∧ w = w' := by
  by_cases h : 1 ≤ a ∧ a ≤ 7 ∧ a ≤ s.size
  · have hB : dfB s a = true := decide_eq_true h
    have hV : dfV s a = pv s a.toNat := if_pos hB
    rw [hB, hV]
    obtain ⟨n, rfl⟩ : ∃ n : Nat, a = n := ⟨a.toNat, by omega⟩
    exact impl_ok s n w (by omega) (by omega) (by omega) hs
  · have hB : dfB s a = false := decide_eq_false h
    have hV : dfV s a = 0 := if_neg (by rw [hB]; decide)
    rw [hB, hV]
    exact impl_no s a w (by omega) hs
end FixedDec
end Go.Proofs.YtkplmhnhpkpppaaDoor
