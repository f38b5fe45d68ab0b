/- Contracts of EncodeFixed in the program and in the model: for every int and every width both return the same string; what was in memory stays as it was. -/
import Derived.Test.YtkplmhnhpkpppaaDoorRows
import Derived.WalkKit
import Derived.ProofKit
import Derived.OpenShut
import Derived.ShutString
import Derived.PlainAid
import Derived.Lib.Hide
import Derived.BigQuiet
import Derived.Deep.QuietTactic
import Derived.Test.YtkplmhnhpkpppaaDoorPlain
import Derived.Test.YtkplmhnhpkpppaaDoorKit
import Derived.Test.YtkplmhnhpkpppaaDoorCommon
import Derived.Test.YtkplmhnhpkpppaaDoorFixedVal
namespace Go.Proofs.YtkplmhnhpkpppaaDoor
open Go.ChangeShapes Go.WideShapes Go.ChangeAt Go.RowKit
open Go.ChangeMaps (open_string shut_string)
open Go.PlainAid Plain
set_option linter.unusedVariables false
namespace FixedEnc
theorem ret_str {a b : ByteArray} (h : a = b) : Ending.returned (.string a) = Ending.returned (.string b) := by rw [h]
theorem info5 : (Tryd.prog.info? 5).map (fun i => (i.zero, i.size, i.bytes)) = some (some (.int .u8 0), 1, 1) := by kernel_rfl

theorem spec_in (n : Int) (a : Nat) (w : World) (h0 : 0 ≤ n) (h1 : n ≤ 9223372036854775807) (ha1 : 1 ≤ a) (ha7 : a ≤ 7) :
    Calls Tryd.prog 14 #[.int .i64 n, .int .i64 a] w fun e w' => e = .returned (.string (fixedStr a n)) ∧ Below w.heap.size w w' := by
  have hcv := fun (W : World) (x : Int) => convert_lit (P := Tryd.prog) W 22 5 9 Tryd.underlying22 Tryd.underlying5 Tryd.underlying9 x
  have hz1 := fun (x : Int) => strOfNums_size [x]
  have hst := Lib.hid (fixed_start n a)
  have hd0 : decide (n < 0) = false := by simp; omega
  go_enter Tryd.func14, Tryd.ntmps14
  go_wp2_with (go_at_call 26; refine (l1In_yes _ _ _ _ (by omega) (by omega)).mono ?_; rintro e w' ⟨rfl, rfl⟩)
  go_loopw [0, 5, 6] (fun m' o' i' wr => ∃ (m : Int) (out : List Int) (i : Nat), 0 ≤ m ∧ m ≤ 9223372036854775807 ∧ i ≤ a ∧ m' = .int .i64 m ∧ o' = .string (strOfNums out) ∧ i' = .int .i64 i ∧ Below w.heap.size w wr ∧ Hid (FixedAt n a (a - i) m out)) (fun _ _ i' _ => a - (intOf i').toNat)
  case atStart => exact ⟨n, [], 0, h0, h1, by omega, rfl, rfl, rfl, Below.refl _ _, hst.out⟩
  case round =>
    obtain ⟨m, out, i, hm0, hm1, hi, rfl, rfl, rfl, hbel, hat⟩ := hrel
    by_cases hlt : i < a
    · have hsz : (strOfNums out).size ≤ 7 := by rw [strOfNums_size]; have := hat.out.1; omega
      have HS := Lib.hid (fixed_step (r := a - (i + 1)) (by rw [show a - (i + 1) + 1 = a - i from by omega]; exact hat.out))
      clear hat
      go_wp2
      go_roundw
      case rel => exact ⟨m / 256, m % 256 :: out, i + 1, by omega, by omega, by omega, rfl, by rw [strOfNums_append]; rfl, by go_num, hbel.alloc hbel.size _, HS⟩
      case measure => simp [intOf]; omega
    · have hia : i = a := by omega
      have hE := fixed_end (by rw [show (0 : Nat) = a - i from by omega]; exact hat.out)
      by_cases hp : 0 < m
      · have HE := Lib.hid (show fixedStr a n = ⟨#[]⟩ from fixedStr_no (by rw [← hE.2]; exact hp))
        clear hE hat hia
        go_wp2
        go_ret
        exact ⟨ret_str HE.out.symm, hbel⟩
      · have HE := Lib.hid (show fixedStr a n = strOfNums out from by rw [hE.1]; exact fixedStr_yes (by rw [← hE.2]; exact hp))
        clear hE hat hia
        go_wp2
        go_ret
        exact ⟨ret_str HE.out.symm, hbel⟩

theorem impl_in (n : Int) (a : Nat) (w : World) (h0 : 0 ≤ n) (h1 : n ≤ 9223372036854775807) (ha1 : 1 ≤ a) (ha7 : a ≤ 7) (hfit : ¬ 0 < dn a n) :
    Calls Tryd.prog 12 #[.int .i64 n, .int .i64 a] w fun e w' => e = .returned (.string (fixedStr a n)) ∧ Below w.heap.size w w' := by
  obtain ⟨i0, hi, hz0, hz1, hz2⟩ := info_parts info5
  have hst := Lib.hid (fixed_start n a)
  have hd0 : decide (n < 0) = false := by simp; omega
  have hsh : (n / 2 ^ (8 * a) != 0) = false := by
    have := dn_nonneg a n h0
    rw [dn_eq] at this hfit
    simp; omega
  have HF := Lib.hid (fixedStr_yes hfit)
  clear hfit
  go_enter Tryd.func12, Tryd.ntmps12
  go_wp2_with (first | (go_at_call 25; refine (fix_yes _ _ (by omega) (by omega)).mono ?_; rintro e w' ⟨rfl, rfl⟩) | (at_make; refine wpList_make_full w rfl _ _ 22 rfl w.heap.size 5 i0 (.int .u8 0) 1 Tryd.underlying22 hi hz0 hz1 .i64 .i64 _ _ a rfl rfl rfl rfl (by rw [hz2]; omega) (by unfold maxLen; omega) (Nat.le_refl _) ?_; intro w1 hown hgrow))
  have hown0 : w1.ownsRow w.heap.size 5 1 (.slice (some ⟨w.heap.size, 0, none⟩) a a) a ((List.replicate a (0 : Int) ++ []).map (Value.int .u8)) := by rw [← zeros_made a]; exact hown
  have hbel0 : Below w.heap.size w w1 := (Below.refl _ _).grown hgrow (Nat.le_refl _) (fun k hk => by cases hk)
  clear hown hgrow
  go_loopw [0, 6] (fun m' i' wr => ∃ (m : Int) (out : List Int) (q : Int), 0 ≤ m ∧ m ≤ 9223372036854775807 ∧ -1 ≤ q ∧ q < a ∧ m' = .int .i64 m ∧ i' = .int .i64 q ∧ wr.ownsRow w.heap.size 5 1 (.slice (some ⟨w.heap.size, 0, none⟩) a a) a ((List.replicate (q + 1).toNat (0 : Int) ++ out).map (Value.int .u8)) ∧ Below w.heap.size w wr ∧ Hid (FixedAt n a (q + 1).toNat m out)) (fun _ i' _ => (intOf i' + 1).toNat)
  case atStart => exact ⟨n, [], (a : Int) - 1, h0, h1, by omega, by omega, rfl, by go_num, by rw [show ((a : Int) - 1 + 1).toNat = a from by omega]; exact hown0, hbel0, by rw [show ((a : Int) - 1 + 1).toNat = a from by omega]; exact hst.out⟩
  case round =>
    obtain ⟨m, out, q, hm0, hm1, hq0, hq1, rfl, rfl, hown, hbel, hat⟩ := hrel
    by_cases hq : 0 ≤ q
    · obtain ⟨t, rfl⟩ := Int.eq_ofNat_of_zero_le hq
      have HS := Lib.hid (fixed_step (r := t) hat.out)
      have hown' : wr.ownsRow w.heap.size 5 1 (.slice (some ⟨w.heap.size, 0, none⟩) a a) a ((List.replicate (t + 1) (0 : Int) ++ out).map (Value.int .u8)) := hown
      have hcell : wr.cell? ⟨w.heap.size, t, none⟩ = some (.int .u8 0) := (hown'.cellAt t (by omega)).trans (zeros_at t out)
      have hfr := hown'.frozenAt t
      have HW := Lib.hid (hown'.stored t (.int .u8 (m % 256))).1
      rw [zeros_set] at HW
      clear hat hown hown'
      go_wp2
      go_roundw
      case rel => exact ⟨m / 256, m % 256 :: out, (t : Int) - 1, by omega, by omega, by omega, by omega, rfl, by go_num, by rw [show ((t : Int) - 1 + 1).toNat = t from by omega]; exact HW.out, hbel.setCell (Nat.le_refl _) _, by rw [show ((t : Int) - 1 + 1).toNat = t from by omega]; exact HS⟩
      case measure => simp [intOf]
    · obtain rfl : q = -1 := by omega
      have HE := Lib.hid (show fixedStr a n = strOfNums out from by rw [HF.out, ← (fixed_end hat.out).1])
      have hcv := convert_owned (P := Tryd.prog) wr 22 5 9 Tryd.underlying22 Tryd.underlying5 Tryd.underlying9 w.heap.size _ a out hown
      clear hat hown
      go_wp2
      go_ret
      exact ⟨ret_str HE.out.symm, hbel⟩
theorem impl_over (n : Int) (a : Nat) (w : World) (h0 : 0 ≤ n) (h1 : n ≤ 9223372036854775807) (ha1 : 1 ≤ a) (ha7 : a ≤ 7) (hfit : 0 < dn a n) :
    Calls Tryd.prog 12 #[.int .i64 n, .int .i64 a] w fun e w' => e = .returned (.string (fixedStr a n)) ∧ w = w' := by
  have hd0 : decide (n < 0) = false := by simp; omega
  have hsh : (n / 2 ^ (8 * a) != 0) = true := by
    rw [dn_eq] at hfit
    simp; omega
  have HF := Lib.hid (fixedStr_no hfit)
  clear hfit
  go_enter Tryd.func12, Tryd.ntmps12
  go_wp2_with (go_at_call 25; refine (fix_yes _ _ (by omega) (by omega)).mono ?_; rintro e w' ⟨rfl, rfl⟩)
  go_ret
  exact ⟨ret_str HF.out.symm, rfl⟩
theorem impl_out (n : Int) (a : Int) (w : World) (h : (a < 1 ∨ 7 < a) ∨ n < 0) :
    Calls Tryd.prog 12 #[.int .i64 n, .int .i64 a] w fun e w' => e = .returned (.string ⟨#[]⟩) ∧ w = w' := by
  by_cases h2 : a < 1 ∨ 7 < a
  · go_enter Tryd.func12, Tryd.ntmps12
    go_wp2_with (go_at_call 25; refine (fix_no _ _ h2).mono ?_; rintro e w' ⟨rfl, rfl⟩)
    go_ret
    exact ⟨rfl, rfl⟩
  · have h3 : n < 0 := by omega
    have h4 : 1 ≤ a := by omega
    have h5 : a ≤ 7 := by omega
    have hd0 : decide (n < 0) = true := by simp; omega
    clear h h2
    go_enter Tryd.func12, Tryd.ntmps12
    go_wp2_with (go_at_call 25; refine (fix_yes _ _ (by omega) (by omega)).mono ?_; rintro e w' ⟨rfl, rfl⟩)
    go_ret
    exact ⟨rfl, rfl⟩
theorem spec_out (n : Int) (a : Int) (w : World) (h : (a < 1 ∨ 7 < a) ∨ n < 0) :
    Calls Tryd.prog 14 #[.int .i64 n, .int .i64 a] w fun e w' => e = .returned (.string ⟨#[]⟩) ∧ w = w' := by
  by_cases h2 : a < 1 ∨ 7 < a
  · go_enter Tryd.func14, Tryd.ntmps14
    go_wp2_with (go_at_call 26; refine (l1In_no _ _ _ _ h2).mono ?_; rintro e w' ⟨rfl, rfl⟩)
    go_ret
    exact ⟨rfl, rfl⟩
  · have h3 : n < 0 := by omega
    have h4 : 1 ≤ a := by omega
    have h5 : a ≤ 7 := by omega
    have hd0 : decide (n < 0) = true := by simp; omega
    clear h h2
    go_enter Tryd.func14, Tryd.ntmps14
    go_wp2_with (go_at_call 26; refine (l1In_yes _ _ _ _ (by omega) (by omega)).mono ?_; rintro e w' ⟨rfl, rfl⟩)
    go_ret
    exact ⟨rfl, rfl⟩
/-- The program's EncodeFixed, whether the number fits or not. -/
theorem impl_any (n : Int) (a : Nat) (w : World) (h0 : 0 ≤ n) (h1 : n ≤ 9223372036854775807) (ha1 : 1 ≤ a) (ha7 : a ≤ 7) :
    Calls Tryd.prog 12 #[.int .i64 n, .int .i64 a] w fun e w' => e = .returned (.string (fixedStr a n)) ∧ Below w.heap.size w w' := by
  by_cases h : 0 < dn a n
  · exact (impl_over n a w h0 h1 ha1 ha7 h).mono fun e w' ⟨he, hw⟩ => ⟨he, by rw [← hw]; exact Below.refl _ _⟩
  · exact impl_in n a w h0 h1 ha1 ha7 h
end FixedEnc
end Go.Proofs.YtkplmhnhpkpppaaDoor
