/- Plain facts on strings of bytes as lists of numbers: when two are equal, and what a part of a string reads as. No conditions beyond those that each fact states. -/
import Derived.Lib.Bytes
import Derived.Test.YtfpdikohlafpiaaGreatPlain
namespace Go.Proofs.YtfpdikohlafpiaaGreat.Plain
open Go.PlainAid

/-- All numbers of a list are bytes. -/
def AreBytes (l : List Int) : Prop := ∀ x ∈ l, 0 ≤ x ∧ x ≤ 255
theorem u8_toNat (x : Int) (h : 0 ≤ x ∧ x ≤ 255) : ((UInt8.ofNat x.toNat).toNat : Int) = x := by
  have : (UInt8.ofNat x.toNat).toNat = x.toNat % 256 := UInt8.toNat_ofNat'
  omega
theorem bytesOf_inj : ∀ (A B : List Int), AreBytes A → AreBytes B → Lib.bytesOf A = Lib.bytesOf B → A = B
  | [], [], _, _, _ => rfl
  | [], b :: B, _, _, h => by simp [Lib.bytesOf] at h
  | a :: A, [], _, _, h => by simp [Lib.bytesOf] at h
  | a :: A, b :: B, ha, hb, h => by
    simp only [Lib.bytesOf, List.map_cons, List.cons.injEq] at h
    have e : a = b := by
      have h1 := u8_toNat a (ha a (by simp))
      have h2 := u8_toNat b (hb b (by simp))
      rw [h.1] at h1
      omega
    rw [e, bytesOf_inj A B (fun x hx => ha x (by simp [hx])) (fun x hx => hb x (by simp [hx])) h.2]
theorem nums_beq (A B : List Int) (ha : AreBytes A) (hb : AreBytes B) : ((strOfNums A).toList == (strOfNums B).toList) = decide (A = B) := by
  rw [Lib.strOfNums_toList, Lib.strOfNums_toList, Bool.eq_iff_iff, beq_iff_eq, decide_eq_true_eq]
  exact ⟨bytesOf_inj A B ha hb, fun h => by rw [h]⟩

/-- k bytes of s from i on. -/
def bseg (s : ByteArray) : Nat → Nat → List Int
  | _, 0 => []
  | i, k + 1 => bt s i :: bseg s (i + 1) k
theorem bseg_bytes (s : ByteArray) : ∀ k i : Nat, AreBytes (bseg s i k)
  | 0, _ => fun x hx => by simp [bseg] at hx
  | k + 1, i => fun x hx => by
    simp only [bseg, List.mem_cons] at hx
    rcases hx with rfl | hx
    · exact ⟨bt_nonneg s i, bt_le s i⟩
    · exact bseg_bytes s k (i + 1) x hx
theorem bseg_length (s : ByteArray) : ∀ k i : Nat, (bseg s i k).length = k
  | 0, _ => rfl
  | k + 1, i => by simp [bseg, bseg_length s k (i + 1)]
theorem bseg_snoc (s : ByteArray) : ∀ k i : Nat, bseg s i (k + 1) = bseg s i k ++ [bt s (i + k)]
  | 0, i => by simp [bseg]
  | k + 1, i => by
    show bt s i :: bseg s (i + 1) (k + 1) = _
    rw [bseg_snoc s k (i + 1), show i + 1 + k = i + (k + 1) from by omega]
    rfl
theorem bytesOf_seg (s : ByteArray) : ∀ k i : Nat, i + k ≤ s.size → Lib.bytesOf (bseg s i k) = (s.data.toList.drop i).take k
  | 0, _, _ => by simp [bseg, Lib.bytesOf]
  | k + 1, i, h => by
    have hi : i < s.data.toList.length := by rw [← Lib.size_eq]; omega
    rw [List.drop_eq_getElem_cons hi, List.take_succ_cons]
    have ih := bytesOf_seg s k (i + 1) (by omega)
    have e : Lib.bytesOf (bseg s i (k + 1)) = UInt8.ofNat (bt s i).toNat :: Lib.bytesOf (bseg s (i + 1) k) := rfl
    rw [e, ih]
    congr 1
    unfold bt
    rw [dif_pos (by omega)]
    simp
    rfl
theorem seg_extract (s : ByteArray) (i k : Nat) (h : i + k ≤ s.size) : s.extract i (i + k) = strOfNums (bseg s i k) := by
  apply ByteArray.ext
  apply Array.toList_inj.1
  rw [Lib.extract_data, strOfNums_data]
  have := bytesOf_seg s k i h
  rw [Lib.bytesOf] at this
  rw [this, show i + k - i = k from by omega]
theorem seg_take (s : ByteArray) (k : Nat) (h : k ≤ s.size) : s.extract 0 k = strOfNums (bseg s 0 k) := by
  have := seg_extract s 0 k (by omega)
  rwa [Nat.zero_add] at this
theorem seg_all (s : ByteArray) : s = strOfNums (bseg s 0 s.size) := by
  apply ByteArray.ext
  apply Array.toList_inj.1
  rw [strOfNums_data]
  have := bytesOf_seg s s.size 0 (by omega)
  rw [Lib.bytesOf] at this
  rw [this, List.drop_zero, List.take_of_length_le (by rw [← Lib.size_eq]; omega)]
theorem vb_bytes : ∀ (f : Nat) (n : Int), 0 ≤ n → n < 128 ^ (f + 1) → AreBytes (vb f n)
  | 0, n, h0, h1 => fun x hx => by simp at h1; simp [vb] at hx; omega
  | f + 1, n, h0, h1 => by
    by_cases h : n < 128
    · rw [vb_last _ _ h]
      intro x hx
      simp at hx
      omega
    · rw [vb_step _ _ (by omega)]
      have e : (128 : Int) ^ (f + 1 + 1) = 128 ^ (f + 1) * 128 := Int.pow_succ ..
      rw [e] at h1
      have ih := vb_bytes f (n / 128) (by omega) (by omega)
      intro x hx
      simp only [List.mem_cons] at hx
      rcases hx with rfl | hx
      · omega
      · exact ih x hx
theorem vb_bytes7 (n : Int) (h0 : 0 ≤ n) (h1 : n ≤ 562949953421311) : AreBytes (vb 7 n) :=
  vb_bytes 7 n h0 (by have : (128 : Int) ^ (7 + 1) = 72057594037927936 := by decide
                      omega)
end Go.Proofs.YtfpdikohlafpiaaGreat.Plain
