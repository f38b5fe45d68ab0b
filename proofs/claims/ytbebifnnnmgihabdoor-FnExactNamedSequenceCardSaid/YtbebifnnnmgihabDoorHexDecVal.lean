/- Plain facts on the decoding of hexadecimal digits: what a text decodes to, and how far a loop over it has come. No conditions beyond those that each fact states. -/
import Derived.Test.YtbebifnnnmgihabDoorHexVal
import Derived.Lib.Small
namespace Go.Proofs.YtbebifnnnmgihabDoor.Plain
open Go.PlainAid

/-- The value of a pair of digits; what the first j-th byte holds when i digits are read. -/
def hpair (s : ByteArray) (j : Nat) : Int := 16 * hexv (bt s (2 * j)) + hexv (bt s (2 * j + 1))
def cellv (s : ByteArray) (i j : Nat) : Int := if 2 * j + 1 < i then hpair s j else if 2 * j < i then hexv (bt s (2 * j)) else 0
def hrow (s : ByteArray) (n i : Nat) : List Int := (List.range n).map (cellv s i)
def hout (s : ByteArray) (k : Nat) : List Int := (List.range k).map (hpair s)
/-- Are the first i bytes digits that EncodeHex writes? -/
def allHex (s : ByteArray) : Nat → Bool
  | 0 => true
  | i + 1 => allHex s i && decide (0 ≤ hexv (bt s i))
theorem allHex_all (s : ByteArray) : ∀ n : Nat, allHex s n = true → ∀ i, i < n → 0 ≤ hexv (bt s i)
  | 0, _, i, hi => by omega
  | n + 1, h, i, hi => by
    simp only [allHex, Bool.and_eq_true, decide_eq_true_eq] at h
    by_cases e : i = n
    · subst e; exact h.2
    · exact allHex_all s n h.1 i (by omega)
theorem allHex_step {s : ByteArray} {i : Nat} (h : allHex s i = true) (hv : 0 ≤ hexv (bt s i)) : allHex s (i + 1) = true := by simp [allHex, h, hv]
def dhOk (s : ByteArray) : Bool := decide (s.size % 2 = 0) && allHex s s.size
def dhStr (s : ByteArray) : ByteArray := if dhOk s = true then strOfNums (hout s (s.size / 2)) else ⟨#[]⟩
theorem dh_odd {s : ByteArray} (h : s.size % 2 = 1) : dhOk s = false ∧ dhStr s = ⟨#[]⟩ := by
  have e : dhOk s = false := by simp [dhOk, h]
  exact ⟨e, by rw [dhStr, e, if_neg (by decide)]⟩
theorem dh_bad {s : ByteArray} (i : Nat) (hi : i < s.size) (h : hexv (bt s i) < 0) : dhOk s = false ∧ dhStr s = ⟨#[]⟩ := by
  have e : dhOk s = false := by
    cases ha : allHex s s.size with
    | false => simp [dhOk, ha]
    | true => have := allHex_all s _ ha i hi; omega
  exact ⟨e, by rw [dhStr, e, if_neg (by decide)]⟩
theorem dh_good {s : ByteArray} (h : s.size % 2 = 0) (ha : allHex s s.size = true) : dhOk s = true ∧ dhStr s = strOfNums (hout s (s.size / 2)) := by
  have e : dhOk s = true := by simp [dhOk, h, ha]
  exact ⟨e, by rw [dhStr, if_pos e]⟩
theorem hout_length (s : ByteArray) (k : Nat) : (hout s k).length = k := by simp [hout]
theorem hout_succ (s : ByteArray) (k : Nat) : hout s (k + 1) = hout s k ++ [hpair s k] := by simp [hout, List.range_succ]
theorem hrow_start (s : ByteArray) (n : Nat) : hrow s n 0 = List.replicate n 0 := by
  apply List.ext_getElem
  · simp [hrow]
  · intro i h1 h2
    simp [hrow, cellv]
theorem hrow_end (s : ByteArray) (n : Nat) : hrow s n (2 * n) = hout s n := by
  apply List.ext_getElem
  · simp [hrow, hout]
  · intro i h1 h2
    have hi : i < n := by simpa [hrow] using h1
    simp only [hrow, hout, List.getElem_map, List.getElem_range, cellv]
    rw [if_pos (by omega)]
theorem hrow_at (s : ByteArray) (n i j : Nat) (h : j < n) : ((hrow s n i).map (Value.int .u8))[j]? = some (.int .u8 (cellv s i j)) := by
  simp [hrow, h]
theorem cellv_step (s : ByteArray) (i : Nat) : cellv s i (i / 2) * 16 + hexv (bt s i) = cellv s (i + 1) (i / 2) := by
  unfold cellv hpair
  by_cases h : i % 2 = 0
  · rw [if_neg (by omega), if_neg (by omega), if_neg (by omega), if_pos (by omega), show 2 * (i / 2) = i from by omega]
    omega
  · rw [if_neg (by omega), if_pos (by omega), if_pos (by omega), show 2 * (i / 2) + 1 = i from by omega]
    omega
theorem cellv_bd (s : ByteArray) (i : Nat) (h : allHex s i = true) : 0 ≤ cellv s i (i / 2) ∧ cellv s i (i / 2) ≤ 15 := by
  unfold cellv
  rw [if_neg (by omega)]
  by_cases h2 : 2 * (i / 2) < i
  · rw [if_pos h2]
    exact ⟨allHex_all s i h _ h2, (hexv_bd _).2⟩
  · rw [if_neg h2]
    omega
theorem hrow_set (s : ByteArray) (n i : Nat) : ((hrow s n i).map (Value.int .u8)).set (i / 2) (.int .u8 (cellv s (i + 1) (i / 2))) = (hrow s n (i + 1)).map (Value.int .u8) := by
  apply List.ext_getElem
  · simp [hrow]
  · intro j h1 h2
    have hj : j < n := by simpa [hrow] using h2
    rw [List.getElem_set]
    by_cases e : i / 2 = j
    · rw [if_pos e]
      subst e
      simp [hrow]
    · rw [if_neg e]
      simp only [hrow, List.getElem_map, List.getElem_range]
      have : cellv s i j = cellv s (i + 1) j := by
        unfold cellv
        by_cases a : 2 * j + 1 < i
        · rw [if_pos a, if_pos (by omega)]
        · rw [if_neg a, if_neg (show ¬ 2 * j < i by omega), if_neg (show ¬ 2 * j + 1 < i + 1 by omega), if_neg (show ¬ 2 * j < i + 1 by omega)]
      rw [this]
theorem or4_u8 (x v : Int) (h0 : 0 ≤ x) (h1 : x ≤ 15) (hv0 : 0 ≤ v) (hv1 : v ≤ 15) : bits .or .u8 (x * 16) v = x * 16 + v :=
  bits_join .u8 8 (by decide) wraps_u8 4 (x * 16) v (by omega) (by omega) (by omega) hv0 (by omega) (by omega)
theorem decode_valid (s : ByteArray) (i : Nat) : Lib.validRune ((Utf8.decode s i).1 : Int) = true := by
  rw [Lib.decode_at]
  unfold Lib.decodeN Lib.validRune
  rw [decide_eq_true_eq]
  have h0 := (s.get! i).toNat_lt
  have h1 := (s.get! (i + 1)).toNat_lt
  split
  · simp; omega
  · split
    · split <;> simp <;> omega
    · split
      · split <;> simp <;> omega
      · split
        · split <;> simp <;> omega
        · simp
end Go.Proofs.YtbebifnnnmgihabDoor.Plain
