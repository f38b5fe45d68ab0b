/- The text of a word, as bytes, and the word of a text. No conditions beyond those that each fact states. -/
import Derived.Test.YtbebifnnnmgihabDoorWordVal
import Derived.Test.YtbebifnnnmgihabDoorHexVal
import Derived.Test.YtbebifnnnmgihabDoorFixedVal
namespace Go.Proofs.YtbebifnnnmgihabDoor.Plain
open Go.PlainAid
/-- The text that stands for the empty word. -/
def emptyT : List Int := [101, 109, 112, 116, 121]
def digT (xs : List Int) : List Int := xs.map hexd
theorem digT_bytes (xs : List Int) : AreBytes (digT xs) := fun x hx => by
  obtain ⟨y, _, rfl⟩ := List.mem_map.1 hx
  exact hexd_bd y
theorem digT_take_succ {xs : List Int} {k : Nat} {x : Int} (h : xs[k]? = some x) : digT (xs.take (k + 1)) = digT (xs.take k) ++ [hexd x] := by
  obtain ⟨h1, h2⟩ := List.getElem?_eq_some_iff.1 h
  rw [List.take_succ_eq_append_getElem h1, h2]
  simp [digT]
theorem hex_one (k : Nat) (h : k < 16) : HEX.extract k (k + 1) = strOfNums [hexd (k : Int)] := by
  have : k = 0 ∨ k = 1 ∨ k = 2 ∨ k = 3 ∨ k = 4 ∨ k = 5 ∨ k = 6 ∨ k = 7 ∨ k = 8 ∨ k = 9 ∨ k = 10 ∨ k = 11 ∨ k = 12 ∨ k = 13 ∨ k = 14 ∨ k = 15 := by omega
  rcases this with rfl | rfl | rfl | rfl | rfl | rfl | rfl | rfl | rfl | rfl | rfl | rfl | rfl | rfl | rfl | rfl <;> rfl
/-- FormatWord. -/
def textW (xs : List Int) : List Int := if wordB xs 16 = true then (if xs = [] then emptyT else digT xs) else []
theorem textW_no {xs : List Int} (h : wordB xs 16 = false) : textW xs = [] := by simp [textW, h]
theorem textW_nil : textW [] = emptyT := by decide
theorem textW_yes {xs : List Int} (h : wordB xs 16 = true) (h0 : xs ≠ []) : textW xs = digT xs := by simp [textW, h, h0]
theorem textW_bytes (xs : List Int) : AreBytes (textW xs) := by
  unfold textW
  split
  · split
    · exact fun x hx => by simp [emptyT] at hx; omega
    · exact digT_bytes xs
  · exact fun x hx => by simp at hx
/-- The letters of a text. -/
def lets (s : ByteArray) (k : Nat) : List Int := (bseg s 0 k).map hexv
theorem lets_succ (s : ByteArray) (k : Nat) : lets s (k + 1) = lets s k ++ [hexv (bt s k)] := by simp [lets, bseg_snoc]
theorem lets_len (s : ByteArray) (k : Nat) : (lets s k).length = k := by simp [lets, bseg_length]
theorem hexd_hexv (b : Int) (h : 0 ≤ hexv b) : hexd (hexv b) = b := by
  unfold hexv at h ⊢
  split at h
  · rename_i h1
    rw [if_pos h1]
    obtain ⟨n, hn⟩ : ∃ n : Nat, b = 48 + n := ⟨(b - 48).toNat, by omega⟩
    subst hn
    rw [show 48 + (n : Int) - 48 = (n : Int) from by omega, hexd_at n (by omega), if_pos (by omega)]
  · split at h
    · rename_i h1 h2
      rw [if_neg h1, if_pos h2]
      obtain ⟨n, hn⟩ : ∃ n : Nat, b = 87 + n := ⟨(b - 87).toNat, by omega⟩
      subst hn
      rw [show 87 + (n : Int) - 87 = (n : Int) from by omega, hexd_at n (by omega), if_neg (by omega)]
    · omega
theorem digT_lets (l : List Int) (h : ∀ x ∈ l.map hexv, 0 ≤ x) : digT (l.map hexv) = l := by
  induction l with
  | nil => rfl
  | cons x l ih =>
    have h1 := h (hexv x) (by simp)
    have h2 := ih fun y hy => h y (by simp at hy ⊢; exact .inr hy)
    show hexd (hexv x) :: digT (l.map hexv) = _
    rw [h2, hexd_hexv x h1]
def isEmptyT (s : ByteArray) : Bool := decide (bseg s 0 s.size = emptyT)
/-- ParseWord. -/
def pwK (s : ByteArray) : Bool := isEmptyT s || (decide (s.size ≠ 0) && wordB (lets s s.size) 16)
def pwV (s : ByteArray) : List Int := if isEmptyT s = true then [] else if pwK s = true then lets s s.size else []
theorem pwV_len (s : ByteArray) : (pwV s).length ≤ 400 := by
  unfold pwV
  split
  · simp
  · rename_i h0
    split
    · rename_i h
      have h0' : isEmptyT s = false := by simpa using h0
      rw [pwK, h0', Bool.false_or, Bool.and_eq_true] at h
      exact (wordB_out h.2).2.2.1
    · simp
theorem pw_empty {s : ByteArray} (h : isEmptyT s = true) : pwK s = true ∧ pwV s = [] := by simp [pwK, pwV, h]
theorem pw_other {s : ByteArray} (h : isEmptyT s = false) {c : Bool} (hc : (decide (s.size ≠ 0) && wordB (lets s s.size) 16) = c) : pwK s = c ∧ pwV s = if c = true then lets s s.size else [] := by
  have e : pwK s = c := by rw [pwK, h, Bool.false_or, hc]
  exact ⟨e, by rw [pwV, e, h]; simp⟩
/-- The model formats the letters once more. -/
theorem pw_back {s : ByteArray} (hs : s.size ≠ 0) : decide (textW (lets s s.size) = bseg s 0 s.size) = wordB (lets s s.size) 16 := by
  cases hw : wordB (lets s s.size) 16 with
  | false =>
    rw [textW_no hw]
    refine decide_eq_false fun h => ?_
    have := congrArg List.length h
    rw [bseg_length] at this
    exact hs this.symm
  | true =>
    have hne : lets s s.size ≠ [] := fun h => by
      have := congrArg List.length h
      rw [lets_len] at this
      exact hs this
    rw [textW_yes hw hne]
    exact decide_eq_true (digT_lets _ fun x hx => ((wordB_out hw).2.2.2 x hx).1)
theorem no_word {xs : List Int} (h : (-1 : Int) ∈ xs) : wordB xs 16 = false := wordB_no fun hw => by have := hw.2.2.2 _ h; omega
end Go.Proofs.YtbebifnnnmgihabDoor.Plain
