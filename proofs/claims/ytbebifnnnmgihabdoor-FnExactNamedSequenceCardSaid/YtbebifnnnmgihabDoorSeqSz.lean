/- Contracts of the exact laws' own helpers on sequences, first part: the size of one. No conditions beyond those that each states. -/
import Derived.Test.YtbebifnnnmgihabDoorRows
import Derived.WalkKit
import Derived.ProofKit
import Derived.OpenShut
import Derived.PlainAid
import Derived.Lib.Hide
import Derived.BigQuiet
import Derived.Deep.QuietTactic
import Derived.WalkSmall
import Derived.IntWalk
import Derived.Test.YtbebifnnnmgihabDoorPlain
import Derived.Test.YtbebifnnnmgihabDoorKit
import Derived.Test.YtbebifnnnmgihabDoorLists
import Derived.Test.YtbebifnnnmgihabDoorInts
import Derived.Test.YtbebifnnnmgihabDoorSeqs
namespace Go.Proofs.YtbebifnnnmgihabDoor
open Go.ChangeShapes Go.WideShapes Go.ChangeAt Go.RowKit
open Go.PlainAid Plain
set_option linter.unusedVariables false
namespace Seqs

theorem ret_i {a b : Int} (h : a = b) : Ending.returned (.int .i64 a) = Ending.returned (.int .i64 b) := by rw [h]
theorem ret_b {a b : Bool} (h : a = b) : Ending.returned (.bool a) = Ending.returned (.bool b) := by rw [h]
/-- What is left of a size, -1 where nothing is. -/
def szV (left : Int) (n : Nat) : Int := if (n : Int) ≤ left then left - n else -1
theorem szV_yes {left : Int} {n : Nat} (h : (n : Int) ≤ left) : szV left n = left - n := by rw [szV, if_pos h]
theorem szV_no {left : Int} {n : Nat} (h : ¬ (n : Int) ≤ left) : szV left n = -1 := by rw [szV, if_neg h]
theorem szI_yes (v : Value) (xs : List Int) (left : Int) (w : World) (h : Lies (Value.int .i64) w v xs) (h0 : (xs.length : Int) ≤ left) (h1 : left ≤ 1048576) :
    Calls Tryd.prog 18 #[v, .int .i64 left] w fun e w' => e = .returned (.int .i64 (left - xs.length)) ∧ w = w' := by
  obtain ⟨hl, a, ca, rfl, _, hca⟩ := h
  clear hca
  go_enter Tryd.func18, Tryd.ntmps18
  have hd := decide_eq_false (show ¬ left - (xs.length : Int) < 0 by omega)
  go_wp2
  go_ret
  exact ⟨rfl, rfl⟩
theorem szI_no (v : Value) (xs : List Int) (left : Int) (w : World) (h : Lies (Value.int .i64) w v xs) (h2 : 0 ≤ left) (h0 : ¬ (xs.length : Int) ≤ left) (h1 : left ≤ 1048576) :
    Calls Tryd.prog 18 #[v, .int .i64 left] w fun e w' => e = .returned (.int .i64 (-1)) ∧ w = w' := by
  obtain ⟨hl, a, ca, rfl, _, hca⟩ := h
  clear hca
  go_enter Tryd.func18, Tryd.ntmps18
  have hd := decide_eq_true (show left - (xs.length : Int) < 0 by omega)
  go_wp2
  go_ret
  exact ⟨rfl, rfl⟩
theorem szR_no0 (v : Value) (rows : List (List Int)) (left : Int) (w : World) (h : LiesR w v rows) (h2 : 0 ≤ left) (h0 : ¬ (rows.length : Int) ≤ left) (h1 : left ≤ 1048576) :
    Calls Tryd.prog 17 #[v, .int .i64 left] w fun e w' => e = .returned (.int .i64 (-1)) ∧ w = w' := by
  obtain ⟨a, ca, rfl, hl, hc⟩ := h.row
  clear hc h
  go_enter Tryd.func17, Tryd.ntmps17
  have hd := decide_eq_true (show left - (rows.length : Int) < 0 by omega)
  go_wp2
  go_ret
  exact ⟨rfl, rfl⟩
theorem szR (v : Value) (rows : List (List Int)) (left : Int) (w : World) (h : LiesR w v rows) (h2 : 0 ≤ left) (h1 : left ≤ 1048576) :
    Calls Tryd.prog 17 #[v, .int .i64 left] w fun e w' => e = .returned (.int .i64 (szV left (rows.length + tot rows))) ∧ w = w' := by
  by_cases h0 : (rows.length : Int) ≤ left
  · obtain ⟨a, ca, rfl, hl, hc⟩ := h.row
    have HC := Lib.hid hc
    clear hc h
    obtain ⟨n, rfl⟩ : ∃ n : Nat, left = n := ⟨left.toNat, by omega⟩
    go_enter Tryd.func17, Tryd.ntmps17
    have hd := decide_eq_false (show ¬ (n : Int) - (rows.length : Int) < 0 by omega)
    go_wp2
    go_loop [1, 5] (fun l' i' => ∃ i m : Nat, i ≤ rows.length ∧ i' = .int .i64 i ∧ l' = .int .i64 m ∧ Hid (m + (rows.length + tot (rows.take i)) = n) ∧ m ≤ n) (fun _ i' => rows.length - (intOf i').toNat)
    case atStart =>
      obtain ⟨m, hm⟩ : ∃ m : Nat, (n : Int) - (rows.length : Int) = m := ⟨((n : Int) - (rows.length : Int)).toNat, by omega⟩
      exact ⟨0, m, Nat.zero_le _, rfl, by rw [hm], by show m + (rows.length + tot []) = n; simp [tot]; omega, by omega⟩
    case round =>
      obtain ⟨i, m, hi, rfl, rfl, HM, hmn⟩ := hrel
      by_cases hlt : i < rows.length
      · obtain ⟨r, hr⟩ : ∃ r, rows[i]? = some r := ⟨_, List.getElem?_eq_getElem hlt⟩
        obtain ⟨b, off, u, rfl, hcell, hlies⟩ := HC.out i r hr
        have HT := Lib.hid (tot_take rows i r hr)
        have HL := Lib.hid hlies
        clear hlies hr
        by_cases hfit : r.length ≤ m
        · obtain ⟨q, hq⟩ : ∃ q : Nat, (m : Int) - (r.length : Int) = (q : Int) := ⟨m - r.length, by omega⟩
          have HQ := Lib.hid hq
          have hqm : q ≤ m := by omega
          clear hq
          go_wp2_with fail
          refine (szI_yes _ r _ _ HL.out (by omega) (by omega)).mono ?_
          rintro e w' ⟨rfl, rfl⟩
          rw [HQ.out]
          have hdq := decide_eq_false (show ¬ (q : Int) < 0 by omega)
          go_wp2
          go_round
          case rel => exact ⟨i + 1, q, by omega, by go_num, rfl, by show q + (rows.length + tot (rows.take (i + 1))) = n; have := HM.out; have := HT.out; have := HQ.out; omega, by omega⟩
          case measure => simp [intOf]; omega
        · go_wp2_with fail
          refine (szI_no _ r _ _ HL.out (by omega) (by omega) (by omega)).mono ?_
          rintro e w' ⟨rfl, rfl⟩
          go_wp2
          go_ret
          exact ⟨ret_i (by rw [szV_no]; have := HM.out; have := HT.out; have := tot_take_le rows (i + 1); omega), rfl⟩
      · have HE : Hid (m + (rows.length + tot rows) = n) := by
          have := HM.out
          rw [List.take_of_length_le (by omega)] at this
          exact this
        go_wp2
        go_ret
        exact ⟨ret_i (by have := HE.out; rw [szV_yes (by omega)]; omega), rfl⟩
  · rw [szV_no (by omega)]
    exact szR_no0 v rows left w h h2 h0 h1
theorem sz (v : Value) (b : Int) (rows : List (List Int)) (out : List Int) (left : Int) (w : World) (h : LiesS w v b rows out) (h2 : 0 ≤ left) (h1 : left ≤ 1048576) :
    Calls Tryd.prog 6 #[v, .int .i64 left] w fun e w' => e = .returned (.int .i64 (szV left (rows.length + tot rows + out.length))) ∧ Below w.heap.size w w' := by
  obtain ⟨vn, vo, rfl, hn, ho⟩ := h
  by_cases h0 : ((rows.length + tot rows : Nat) : Int) ≤ left
  · obtain ⟨m, hm⟩ : ∃ m : Nat, left - ((rows.length + tot rows : Nat) : Int) = m := ⟨(left - ((rows.length + tot rows : Nat) : Int)).toNat, by omega⟩
    have HS := Lib.hid (szV_yes h0)
    rw [hm] at HS
    have HM := Lib.hid hm
    have hml : (m : Int) ≤ 1048576 := by omega
    clear hm
    have hd := decide_eq_false (show ¬ (m : Int) < 0 by omega)
    by_cases h3 : out.length ≤ m
    · obtain ⟨q, hq⟩ : ∃ q : Nat, (m : Int) - (out.length : Int) = (q : Int) := ⟨m - out.length, by omega⟩
      have HQ := Lib.hid hq
      clear hq
      have hdq := decide_eq_false (show ¬ (q : Int) < 0 by omega)
      go_enter Tryd.func6, Tryd.ntmps6
      go_wp2_with fail
      refine (szR _ rows _ _ (hn.below ((Below.refl _ _).alloc (Nat.le_refl _) _)) h2 h1).mono ?_
      rintro e w' ⟨rfl, rfl⟩
      rw [HS.out]
      go_wp2_with fail
      refine (szI_yes _ out _ _ (ho.below ((Below.refl _ _).alloc (Nat.le_refl _) _)) (by omega) (by omega)).mono ?_
      rintro e w' ⟨rfl, rfl⟩
      rw [HQ.out]
      go_wp2
      go_ret
      exact ⟨ret_i (by have := HM.out; have := HQ.out; rw [szV_yes (by omega)]; omega), (Below.refl _ _).alloc (Nat.le_refl _) _⟩
    · go_enter Tryd.func6, Tryd.ntmps6
      go_wp2_with fail
      refine (szR _ rows _ _ (hn.below ((Below.refl _ _).alloc (Nat.le_refl _) _)) h2 h1).mono ?_
      rintro e w' ⟨rfl, rfl⟩
      rw [HS.out]
      go_wp2_with fail
      refine (szI_no _ out _ _ (ho.below ((Below.refl _ _).alloc (Nat.le_refl _) _)) (by omega) (by omega) (by omega)).mono ?_
      rintro e w' ⟨rfl, rfl⟩
      go_wp2
      go_ret
      exact ⟨ret_i (by have := HM.out; rw [szV_no (by omega)]), (Below.refl _ _).alloc (Nat.le_refl _) _⟩
  · have HS := Lib.hid (szV_no h0)
    go_enter Tryd.func6, Tryd.ntmps6
    go_wp2_with fail
    refine (szR _ rows _ _ (hn.below ((Below.refl _ _).alloc (Nat.le_refl _) _)) h2 h1).mono ?_
    rintro e w' ⟨rfl, rfl⟩
    rw [HS.out]
    go_wp2
    go_ret
    exact ⟨ret_i (by rw [szV_no (by omega)]), (Below.refl _ _).alloc (Nat.le_refl _) _⟩
end Seqs
end Go.Proofs.YtbebifnnnmgihabDoor
