/- Contracts of FormatInt in the program and in the model: for every int both return the decimal numeral; what was in memory stays as it was. The program's asks that the library's table of powers of ten hold its numbers. -/
import Derived.Test.YtbebifnnnmgihabDoorRows
import Derived.WalkKit
import Derived.ProofKit
import Derived.OpenShut
import Derived.ShutString
import Derived.PlainAid
import Derived.Lib.Hide
import Derived.Test.YtbebifnnnmgihabDoorPlain
import Derived.Test.YtbebifnnnmgihabDoorKit
import Derived.Test.YtbebifnnnmgihabDoorIntVal
import Derived.Test.YtbebifnnnmgihabDoorShelf
namespace Go.Proofs.YtbebifnnnmgihabDoor
open Go.ChangeShapes Go.WideShapes Go.ChangeAt Go.RowKit
open Go.ChangeMaps (open_string shut_string)
open Go.PlainAid Plain
set_option linter.unusedVariables false
namespace IntFmt
theorem ret_str {a b : ByteArray} (h : a = b) : Ending.returned (.string a) = Ending.returned (.string b) := by rw [h]
/-- New blocks and draws change nothing below. -/
theorem grown_below (w : World) (k : Nat) (os : Array Obj) : Below w.heap.size w (Go.Sort.grow (w.drewN k) os) :=
  ⟨rfl, rfl, rfl, by simp [Go.Sort.grow], fun i hi => by
    show (w.heap ++ os)[i]? = w.heap[i]?
    rw [Array.getElem?_append_left hi]⟩

theorem impl_any (n : Int) (w : World) (h0 : -9223372036854775808 ≤ n) (h1 : n ≤ 9223372036854775807) (htab : Lib.TabIs Tryd.prog w "internal/strconv.uint64pow10" .u64 Lib.pow10Tab) :
    Calls Tryd.prog 26 #[.int .i64 n] w fun e w' => e = .returned (.string (itoaS n)) ∧ Below w.heap.size w w' := by
  have HT := Lib.hid htab
  have H0 := Lib.hid h0
  have H1 := Lib.hid h1
  clear htab h0 h1
  go_enter Tryd.func26, Tryd.ntmps26
  go_wp2_with (go_at_call 47; refine (Tryd.strconv_Itoa _ H0.out H1.out _ HT.out).mono ?_; rintro e w1 ⟨rfl, k, os, rfl⟩)
  go_ret
  exact ⟨rfl, grown_below _ _ _⟩

theorem spec_pos (u : Nat) (w : World) (h0 : 1 ≤ u) (h1 : (u : Int) ≤ 9223372036854775807) :
    Calls Tryd.prog 20 #[.int .i64 u] w fun e w' => e = .returned (.string (itoaS u)) ∧ Below w.heap.size w w' := by
  have hcv := fun (W : World) (x : Int) => convert_lit (P := Tryd.prog) W 44 5 9 Tryd.underlying44 Tryd.underlying5 Tryd.underlying9 x
  have hz1 := fun (x : Int) => strOfNums_size [x]
  have hst := Lib.hid (dec_start u h0)
  have hn0 : ((u : Int) == 0) = false := by simp; omega
  have hd0 : decide ((u : Int) < 0) = false := by simp
  have HU := Lib.hid (itoaS_nonneg u)
  go_enter Tryd.func20, Tryd.ntmps20
  go_wp2
  go_loopw [0, 3] (fun m' o' wr => ∃ (m : Nat) (out : List Int), m' = .int .i64 m ∧ o' = .string (strOfNums out) ∧ Below w.heap.size w wr ∧ Hid (DecAt u m out)) (fun m' _ _ => (intOf m').toNat)
  case atStart => exact ⟨u, [], rfl, rfl, Below.refl _ _, hst.out⟩
  case round =>
    obtain ⟨m, out, rfl, rfl, hbel, hat⟩ := hrel
    by_cases hm : 1 ≤ m
    · have hmu : m ≤ u := hat.out.1
      have hsz : (strOfNums out).size ≤ 20 := by rw [strOfNums_size]; exact dec_out hat.out (by omega)
      have HS := Lib.hid (dec_step hat.out hm)
      have hne : ((m : Int) != 0) = true := by simp; omega
      clear hat
      go_wp2
      go_roundw
      case rel => exact ⟨m / 10, (48 + ((m % 10 : Nat) : Int)) :: out, by go_num, by rw [strOfNums_append]; simp, hbel.alloc hbel.size _, HS⟩
      case measure => simp [intOf]; omega
    · obtain rfl : m = 0 := by omega
      have HE := Lib.hid (dec_end hat.out)
      clear hat
      go_wp2
      go_ret
      exact ⟨ret_str (by rw [HE.out, HU.out]), hbel⟩

theorem neg_mod (m : Nat) : (-(m : Int)).tmod 10 = -((m % 10 : Nat) : Int) := by rw [Int.neg_tmod]; congr 1
theorem neg_div (m : Nat) : (-(m : Int)).tdiv 10 = -((m / 10 : Nat) : Int) := by rw [Int.neg_tdiv]; congr 1
theorem spec_neg (u : Nat) (w : World) (h0 : 1 ≤ u) (h1 : (u : Int) ≤ 9223372036854775808) :
    Calls Tryd.prog 20 #[.int .i64 (-(u : Int))] w fun e w' => e = .returned (.string (itoaS (-(u : Int)))) ∧ Below w.heap.size w w' := by
  have hcv := fun (W : World) (x : Int) => convert_lit (P := Tryd.prog) W 44 5 9 Tryd.underlying44 Tryd.underlying5 Tryd.underlying9 x
  have hz1 := fun (x : Int) => strOfNums_size [x]
  have hst := Lib.hid (dec_start u h0)
  have hn0 : (-(u : Int) == 0) = false := by simp; omega
  have hd0 : decide (-(u : Int) < 0) = true := by simp; omega
  have HU := Lib.hid (itoaS_neg u h0)
  have H1 := Lib.hid h1
  clear h1
  go_enter Tryd.func20, Tryd.ntmps20
  go_wp2
  go_loopw [0, 3] (fun m' o' wr => ∃ (m : Nat) (out : List Int), m' = .int .i64 (-(m : Int)) ∧ o' = .string (strOfNums out) ∧ Below w.heap.size w wr ∧ Hid (DecAt u m out)) (fun m' _ _ => (-(intOf m')).toNat)
  case atStart => exact ⟨u, [], rfl, rfl, Below.refl _ _, hst.out⟩
  case round =>
    obtain ⟨m, out, rfl, rfl, hbel, hat⟩ := hrel
    by_cases hm : 1 ≤ m
    · have hmu : m ≤ u := hat.out.1
      have hsz : (strOfNums out).size ≤ 20 := by rw [strOfNums_size]; exact dec_out hat.out (by have := H1.out; omega)
      have HS := Lib.hid (dec_step hat.out hm)
      have hne : (-(m : Int) != 0) = true := by simp; omega
      have e1 := neg_mod m
      have e2 := neg_div m
      clear hat
      by_cases hd : 1 ≤ m % 10
      · have hdd : decide (-((m % 10 : Nat) : Int) < 0) = true := by simp; omega
        go_wp2
        go_roundw
        case rel =>
          have H2 := H1.out
          exact ⟨m / 10, (48 + ((m % 10 : Nat) : Int)) :: out, by rw [IntWalk.wrap64_in _ ⟨by omega, by omega⟩]; simp, by rw [strOfNums_append]; simp, hbel.alloc hbel.size _, HS⟩
        case measure =>
          have H2 := H1.out
          simp only [intOf]
          rw [IntWalk.wrap64_in _ ⟨by omega, by omega⟩]
          omega
      · have hdd : decide (-((m % 10 : Nat) : Int) < 0) = false := by simp; omega
        have hz0 : (m : Int) % 10 = 0 := by omega
        have HZ := Lib.hid hz0
        clear hz0
        go_wp2
        go_roundw
        case rel =>
          have H2 := H1.out
          exact ⟨m / 10, (48 + ((m % 10 : Nat) : Int)) :: out, by rw [IntWalk.wrap64_in _ ⟨by omega, by omega⟩]; simp, by rw [strOfNums_append]; simp [HZ.out], hbel.alloc hbel.size _, HS⟩
        case measure =>
          have H2 := H1.out
          simp only [intOf]
          rw [IntWalk.wrap64_in _ ⟨by omega, by omega⟩]
          omega
    · obtain rfl : m = 0 := by omega
      have hsz : (strOfNums out).size ≤ 20 := by rw [strOfNums_size]; exact dec_out hat.out (by have := H1.out; omega)
      have HE := Lib.hid (dec_end hat.out)
      clear hat
      go_wp2
      go_ret
      exact ⟨ret_str (by rw [HU.out, ← HE.out]; exact strOfNums_append [45] out), hbel⟩
theorem spec_zero (w : World) :
    Calls Tryd.prog 20 #[.int .i64 0] w fun e w' => e = .returned (.string (itoaS 0)) ∧ Below w.heap.size w w' := by
  have h0 : itoaS 0 = ⟨#[48]⟩ := by
    have := itoaS_nonneg 0
    rw [ds_small 0 (by decide)] at this
    exact this
  have HU := Lib.hid h0
  clear h0
  go_enter Tryd.func20, Tryd.ntmps20
  go_wp2
  go_ret
  exact ⟨ret_str HU.out.symm, Below.refl _ _⟩
theorem spec_any (n : Int) (w : World) (h0 : -9223372036854775808 ≤ n) (h1 : n ≤ 9223372036854775807) :
    Calls Tryd.prog 20 #[.int .i64 n] w fun e w' => e = .returned (.string (itoaS n)) ∧ Below w.heap.size w w' := by
  rcases Int.lt_trichotomy n 0 with h | rfl | h
  · obtain ⟨u, rfl⟩ : ∃ u : Nat, n = -(u : Int) := ⟨n.natAbs, by omega⟩
    exact spec_neg u w (by omega) (by omega)
  · exact spec_zero w
  · obtain ⟨u, rfl⟩ := Int.eq_ofNat_of_zero_le (Int.le_of_lt h)
    exact spec_pos u w (by omega) h1
end IntFmt
end Go.Proofs.YtbebifnnnmgihabDoor
