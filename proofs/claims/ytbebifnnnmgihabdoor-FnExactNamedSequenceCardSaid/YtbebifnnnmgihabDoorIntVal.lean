/- Plain facts on decimal numerals as lists of numbers: their digits one by one, and how far a writer of them has come. No conditions beyond those that each fact states. -/
import Derived.Lib.ItoaMem
import Derived.Lib.LazyBuf
import Derived.Test.YtbebifnnnmgihabDoorBytes
import Derived.Test.YtbebifnnnmgihabDoorFixedVal
namespace Go.Proofs.YtbebifnnnmgihabDoor.Plain
open Go.PlainAid

/-- The decimal digits of u as numbers; a number's numeral as a string. -/
def ds (u : Nat) : List Int := (Lib.decDigits u).map fun b => (b.toNat : Int)
def itoaS (n : Int) : ByteArray := ⟨(Lib.itoa n).toArray⟩
theorem ds_small (u : Nat) (h : u < 10) : ds u = [48 + (u : Int)] := by
  unfold ds
  rw [Lib.decDigits_one h]
  have : (UInt8.ofNat (48 + u)).toNat = (48 + u) % 256 := UInt8.toNat_ofNat'
  simp only [List.map_cons, List.map_nil, List.cons.injEq, and_true]
  omega
theorem ds_big (u : Nat) (h : ¬ u < 10) : ds u = ds (u / 10) ++ [48 + ((u % 10 : Nat) : Int)] := by
  unfold ds
  rw [Lib.decDigits, dif_neg h]
  have : (UInt8.ofNat (48 + u % 10)).toNat = (48 + u % 10) % 256 := UInt8.toNat_ofNat'
  simp only [List.map_append, List.map_cons, List.map_nil, List.append_cancel_left_eq, List.cons.injEq, and_true]
  omega
theorem itoaS_nonneg (u : Nat) : itoaS (u : Int) = strOfNums (ds u) := by
  unfold itoaS ds
  rw [Lib.itoa_nonneg, Lib.Lz.strOfNums_map]
theorem itoaS_neg (u : Nat) (h : 1 ≤ u) : itoaS (-(u : Int)) = strOfNums (45 :: ds u) := by
  unfold itoaS ds
  rw [Lib.itoa_neg u h, ← Lib.Lz.strOfNums_map]
  rfl
theorem ds_length : ∀ (k u : Nat), u < 10 ^ (k + 1) → 1 ≤ (ds u).length ∧ (ds u).length ≤ k + 1
  | 0, u, h => by rw [ds_small u (by simpa using h)]; simp
  | k + 1, u, h => by
    by_cases h1 : u < 10
    · rw [ds_small u h1]; simp
    · rw [ds_big u h1]
      have := ds_length k (u / 10) (by rw [Nat.pow_succ] at h; omega)
      simp
      omega
theorem ds_length20 (u : Nat) (h : u ≤ 9223372036854775808) : 1 ≤ (ds u).length ∧ (ds u).length ≤ 20 :=
  ds_length 19 u (by have : (10 : Nat) ^ (19 + 1) = 100000000000000000000 := by decide
                     omega)
/-- Where the writing of u's digits stands, the last one first: out is written, m is left. -/
def DecAt (u m : Nat) (out : List Int) : Prop := m ≤ u ∧ ((m = 0 ∧ out = ds u) ∨ (1 ≤ m ∧ ds m ++ out = ds u))
theorem dec_start (u : Nat) (h : 1 ≤ u) : DecAt u u [] := ⟨Nat.le_refl _, .inr ⟨h, by simp⟩⟩
theorem dec_step {u m : Nat} {out : List Int} (h : DecAt u m out) (h1 : 1 ≤ m) : DecAt u (m / 10) ((48 + ((m % 10 : Nat) : Int)) :: out) := by
  obtain ⟨hle, h | ⟨_, h⟩⟩ := h
  · omega
  · refine ⟨by omega, ?_⟩
    by_cases h2 : m < 10
    · refine .inl ⟨by omega, ?_⟩
      rw [← h, ds_small m h2, show m % 10 = m from by omega]
      rfl
    · refine .inr ⟨by omega, ?_⟩
      rw [← h, ds_big m h2]
      simp
theorem dec_out {u m : Nat} {out : List Int} (h : DecAt u m out) (hu : u ≤ 9223372036854775808) : out.length ≤ 20 := by
  have := ds_length20 u hu
  obtain ⟨_, ⟨_, h⟩ | ⟨_, h⟩⟩ := h
  · rw [h]; omega
  · rw [← h] at this; simp at this; omega
theorem dec_end {u : Nat} {out : List Int} (h : DecAt u 0 out) : out = ds u := by
  obtain ⟨_, ⟨_, h⟩ | ⟨h0, _⟩⟩ := h
  · exact h
  · omega
end Go.Proofs.YtbebifnnnmgihabDoor.Plain
