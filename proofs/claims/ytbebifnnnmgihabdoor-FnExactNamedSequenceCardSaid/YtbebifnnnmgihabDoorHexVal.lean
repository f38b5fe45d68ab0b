/- Plain facts on hexadecimal digits. No conditions beyond those that each fact states. -/
import Derived.Test.YtbebifnnnmgihabDoorPlain
import Derived.Test.YtbebifnnnmgihabDoorBytes
import Derived.Lib.Bytealg
import Derived.Lib.DecodeN
import Derived.Laws.Runes
namespace Go.Proofs.YtbebifnnnmgihabDoor.Plain
open Go.PlainAid

/-- The sixteen digits; the digit of a number from 0 to 15. -/
def HEX : ByteArray := ⟨#[48, 49, 50, 51, 52, 53, 54, 55, 56, 57, 97, 98, 99, 100, 101, 102]⟩
def hexd (n : Int) : Int := bt HEX n.toNat
theorem hexd_bd (n : Int) : 0 ≤ hexd n ∧ hexd n ≤ 255 := ⟨bt_nonneg _ _, bt_le _ _⟩
/-- What EncodeHex writes for the first k bytes of s. -/
def hexl (s : ByteArray) : Nat → List Int
  | 0 => []
  | k + 1 => hexl s k ++ [hexd (bt s k / 16), hexd (bt s k % 16)]
theorem hexl_length (s : ByteArray) : ∀ k : Nat, (hexl s k).length = 2 * k
  | 0 => rfl
  | k + 1 => by simp [hexl, hexl_length s k]; omega
theorem and15 (x : Int) (h0 : 0 ≤ x) (h1 : x ≤ 255) : bits .and .u8 x 15 = x % 16 := Go.u8_and15 x h0 (by omega)
theorem hex_size : HEX.size = 16 := rfl

/-- What a digit is worth; -1 if it is none that EncodeHex writes. -/
def hexv (b : Int) : Int := if 48 ≤ b ∧ b ≤ 57 then b - 48 else if 97 ≤ b ∧ b ≤ 102 then b - 87 else -1
theorem hexv_bd (b : Int) : -1 ≤ hexv b ∧ hexv b ≤ 15 := by unfold hexv; split <;> (try split) <;> omega
theorem hexv_high (b : Int) (h : 128 ≤ b) : hexv b = -1 := by unfold hexv; rw [if_neg (by omega), if_neg (by omega)]
theorem hex_index_all : ∀ b : Fin 128, Lib.indexByte HEX.data.toList (UInt8.ofNat b.val) = hexv (b.val : Int) := by decide +kernel
theorem hex_index (r : Int) (h0 : 0 ≤ r) (h1 : r < 128) : Lib.indexByte HEX.data.toList r.toNat.toUInt8 = hexv r := by
  have := hex_index_all ⟨r.toNat, by omega⟩
  rw [show ((r.toNat : Nat) : Int) = r from by omega] at this
  exact this
theorem hexd_all : ∀ k : Fin 16, hexd (k.val : Int) = (if k.val < 10 then 48 + (k.val : Int) else 87 + (k.val : Int)) := by decide +kernel
theorem hexd_at (k : Nat) (h : k < 16) : hexd (k : Int) = if k < 10 then 48 + (k : Int) else 87 + (k : Int) := hexd_all ⟨k, h⟩
theorem hexv_found (k : Nat) (h : k < 16) (b : Int) (e : hexd (k : Int) = b) : hexv b = k := by
  rw [hexd_at k h] at e
  subst e
  unfold hexv
  by_cases h1 : k < 10
  · rw [if_pos h1, if_pos (by omega)]; omega
  · rw [if_neg h1, if_neg (by omega), if_pos (by omega)]; omega
theorem hexv_none (b : Int) (h : ∀ k : Nat, k < 16 → hexd (k : Int) ≠ b) : hexv b = -1 := by
  unfold hexv
  by_cases h1 : 48 ≤ b ∧ b ≤ 57
  · exact absurd (by rw [hexd_at _ (by omega), if_pos (by omega)]; omega) (h (b - 48).toNat (by omega))
  · rw [if_neg h1]
    by_cases h2 : 97 ≤ b ∧ b ≤ 102
    · exact absurd (by rw [hexd_at _ (by omega), if_neg (by omega)]; omega) (h (b - 87).toNat (by omega))
    · rw [if_neg h2]
/-- A letter of the sixteen is below 128, and no byte from 128 on is among them. -/
theorem hex_low : ∀ k : Fin 16, bt HEX k.val ≤ 127 ∧ 0 ≤ bt HEX k.val := by decide +kernel
theorem index_none : ∀ (l : List UInt8) (c : UInt8), (∀ b ∈ l, b ≠ c) → Lib.indexByte l c = -1
  | [], _, _ => rfl
  | b :: l, c, h => by
    rw [Lib.indexByte, if_neg (by simpa using h b (by simp)), index_none l c (fun b hb => h b (by simp [hb]))]
    rfl
theorem hex_tail_low : ∀ n : Fin 4, ∀ b ∈ List.take (15 - n.val) (List.drop (n.val + 1) HEX.data.toList), b.toNat < 128 := by decide +kernel
theorem hex_tail (n : Nat) (h : n ≤ 3) (c : Int) (hc : 128 ≤ c) (hc2 : c ≤ 255) : Lib.indexByte (List.take (15 - n) (List.drop (n + 1) HEX.data.toList)) (UInt8.ofNat c.toNat) < 0 := by
  rw [index_none _ _ (fun b hb e => ?_)]
  · decide
  · have h1 := hex_tail_low ⟨n, by omega⟩ b hb
    rw [e] at h1
    have h2 : (UInt8.ofNat c.toNat).toNat = c.toNat % 256 := UInt8.toNat_ofNat'
    omega
theorem decode_high (s : ByteArray) (i : Nat) (h : i < s.size) (hb : 128 ≤ bt s i) : 128 ≤ (Utf8.decode s i).1 := by
  have e : (s.get! i).toNat = (s[i]'h).toNat := by
    congr 1
    simp [ByteArray.get!, getElem!_pos, h]
    rfl
  unfold bt at hb
  rw [dif_pos h] at hb
  rw [Lib.decode_at, e]
  unfold Lib.decodeN
  rw [if_neg (by omega)]
  split
  · split <;> simp; omega
  · split
    · split <;> simp; omega
    · split
      · split <;> simp; omega
      · simp
end Go.Proofs.YtbebifnnnmgihabDoor.Plain
