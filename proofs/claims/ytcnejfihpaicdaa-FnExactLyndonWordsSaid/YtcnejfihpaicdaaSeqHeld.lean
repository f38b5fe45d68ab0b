/- Contracts of the exact laws' own helpers on sequences, fifth part: asking one for the marks. No conditions beyond those that each states. -/
import Derived.Test.YtcnejfihpaicdaaSeqMark
namespace Go.Proofs.Ytcnejfihpaicdaa
open Go.ChangeShapes Go.WideShapes Go.ChangeAt Go.RowKit
open Go.PlainAid Plain
set_option linter.unusedVariables false
namespace Seqs
open Ints
theorem heldR (v : Value) (rows : List (List Int)) (w : World) (k : Int) (h : LiesR w v (markedR k rows)) (h0 : 0 ≤ k) (h1 : k + tot rows ≤ 9223372036854775807) :
    Calls Try.prog 20 #[v, .int .i64 k] w fun e w' => e = .returned (.int .i64 (k + tot rows)) ∧ w = w' := by
  obtain ⟨a, ca, rfl, hl, hc⟩ := h.row
  rw [markedR_len] at *
  have HC := Lib.hid hc
  clear hc h
  go_enter Try.func20, Try.ntmps20
  go_wp2
  go_loop [1, 5] (fun k' i' => ∃ (i : Nat) (m : Int), i ≤ rows.length ∧ k' = .int .i64 m ∧ Hid (m = k + tot (rows.take i)) ∧ 0 ≤ m ∧ i' = .int .i64 i) (fun _ i' => rows.length - (intOf i').toNat)
  case atStart => exact ⟨0, k, Nat.zero_le _, rfl, (by show k = k + tot []; simp [tot]), h0, rfl⟩
  case round =>
    obtain ⟨i, m, hile, rfl, hm, hm0, rfl⟩ := hrel
    by_cases hlt : i < rows.length
    · obtain ⟨r, hr⟩ : ∃ r, rows[i]? = some r := ⟨_, List.getElem?_eq_getElem hlt⟩
      obtain ⟨b, off, u, rfl, hcell, hlies⟩ := HC.out i _ (markedR_at k rows i r hr)
      have HTK := Lib.hid (tot_take rows i r hr)
      have hle := tot_take_le rows (i + 1)
      have hmle : m + r.length ≤ 9223372036854775807 := by have := HTK.out; have := hm.out; omega
      have HL := Lib.hid hlies
      rw [← hm.out] at HL
      have hd := decide_eq_false (show ¬ m + (r.length : Int) < 0 by omega)
      clear hr hle hlies
      go_wp2_with fail
      refine (Ints.held u r.length _ m HL.out hm0 hmle).mono ?_
      rintro e W1 ⟨rfl, rfl⟩
      go_wp2
      go_round
      case rel => exact ⟨i + 1, m + r.length, by omega, rfl, (by show m + (r.length : Int) = k + tot (rows.take (i + 1)); have := HTK.out; have := hm.out; omega), by omega, by go_num⟩
      case measure => simp [intOf]; omega
    · have HE : Hid (m = k + tot rows) := by
        have := hm.out
        rw [List.take_of_length_le (by omega)] at this
        exact this
      go_wp2
      go_ret
      exact ⟨ret_i HE.out, rfl⟩
theorem markI' (v : Value) (xs : List Int) (w : World) (lo hi : Nat) (h : OwnI w lo hi v xs) (h1 : xs.length ≤ 4194304) :
    Calls Try.prog 18 #[v, .int .i64 1] w fun e w' => e = .returned (.int .i64 (1 + xs.length)) ∧ OwnI w' lo hi v (marks 1 xs.length) ∧ Plain.Touch lo hi w w' :=
  (Ints.mark v xs w lo 1 h.has (by omega) (by omega)).mono fun e w' ⟨h2, h3, h4⟩ => ⟨h2, ⟨h3, h.lt, Nat.le_trans h.le h4.size⟩, Touch.of_wrote (Wrote.of_grown h4) fun x hx q hq => by
    obtain rfl : x = v := by simpa using hx
    exact h.range q hq⟩
end Seqs
end Go.Proofs.Ytcnejfihpaicdaa
