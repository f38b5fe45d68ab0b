/- The text of a sequence, as bytes. No conditions beyond those that each fact states. -/
import Derived.Test.YtbebifnnnmgihabDoorSeqVal
import Derived.Test.YtbebifnnnmgihabDoorHexVal
import Derived.Test.YtbebifnnnmgihabDoorIntVal
namespace Go.Proofs.YtbebifnnnmgihabDoor.Plain
open Go.PlainAid
def hexU (n : Int) : UInt8 := HEX.data.toList.getD n.toNat 0
theorem hexU_at (k : Nat) (h : k < 16) : bt HEX k = ((hexU (k : Int)).toNat : Int) := by
  have : k = 0 ∨ k = 1 ∨ k = 2 ∨ k = 3 ∨ k = 4 ∨ k = 5 ∨ k = 6 ∨ k = 7 ∨ k = 8 ∨ k = 9 ∨ k = 10 ∨ k = 11 ∨ k = 12 ∨ k = 13 ∨ k = 14 ∨ k = 15 := by omega
  rcases this with rfl | rfl | rfl | rfl | rfl | rfl | rfl | rfl | rfl | rfl | rfl | rfl | rfl | rfl | rfl | rfl <;> decide +kernel
def rowT (r : List Int) (o : Int) : List UInt8 := 32 :: (r.map hexU ++ 47 :: (itoaS o).data.toList)
def bodyT (rows : List (List Int)) (out : List Int) (i : Nat) : List UInt8 := ((rows.zip out).take i).flatMap fun p => rowT p.1 p.2
def fmtT (b : Int) (rows : List (List Int)) (out : List Int) (i : Nat) : List UInt8 := (itoaS b).data.toList ++ 58 :: bodyT rows out i
theorem fmtT_zero (b : Int) (rows : List (List Int)) (out : List Int) : fmtT b rows out 0 = (itoaS b).data.toList ++ [58] := by simp [fmtT, bodyT]
theorem fmtT_succ (b : Int) (rows : List (List Int)) (out : List Int) (i : Nat) (r : List Int) (o : Int) (hr : rows[i]? = some r) (ho : out[i]? = some o) : fmtT b rows out (i + 1) = fmtT b rows out i ++ rowT r o := by
  have h1 : (rows.zip out)[i]? = some (r, o) := by rw [List.getElem?_zip_eq_some]; exact ⟨hr, ho⟩
  obtain ⟨h2, h3⟩ := List.getElem?_eq_some_iff.1 h1
  unfold fmtT bodyT
  rw [List.take_succ_eq_append_getElem h2, h3]
  simp
theorem itoa_one (n : Int) (h0 : 0 ≤ n) (h1 : n < 10) : (itoaS n).data.toList.length = 1 := by
  obtain ⟨u, rfl⟩ := Int.eq_ofNat_of_zero_le h0
  rw [itoaS_nonneg, ds_small u (by omega)]
  have := strOfNums_size [48 + (u : Int)]
  simpa using this
theorem fmtT_len (b : Int) (rows : List (List Int)) (out : List Int) (h : IsSeq b rows out) : ∀ i : Nat, i ≤ rows.length → (fmtT b rows out i).length ≤ 2 + 8 * i
  | 0, _ => by
    rw [fmtT_zero, List.length_append, itoa_one b (by have := h.1; omega) (by have := h.2.1; omega)]
    simp
  | i + 1, hi => by
    have ih := fmtT_len b rows out h i (by omega)
    obtain ⟨r, hr⟩ : ∃ r, rows[i]? = some r := ⟨_, List.getElem?_eq_getElem (by omega)⟩
    obtain ⟨o, ho⟩ : ∃ o, out[i]? = some o := ⟨_, List.getElem?_eq_getElem (by have := h.2.2.2.2.1; omega)⟩
    have hrow := h.rowOK hr ho
    have h1 := hrow.1
    have h2 := itoa_one o hrow.2.2.1 (by have := hrow.2.2.2; omega)
    have h3 := h.2.1
    rw [fmtT_succ b rows out i r o hr ho, List.length_append, rowT, List.length_cons, List.length_append, List.length_cons, List.length_map, h2]
    omega
def fmtV (b : Int) (rows : List (List Int)) (out : List Int) : ByteArray := if seqB b rows out = true then ⟨(fmtT b rows out rows.length).toArray⟩ else ⟨#[]⟩
theorem fmtV_size (b : Int) (rows : List (List Int)) (out : List Int) : (fmtV b rows out).size ≤ 1000 := by
  unfold fmtV
  split
  · rename_i h
    have hv := seqB_out h
    have := fmtT_len b rows out hv rows.length (Nat.le_refl _)
    have := hv.2.2.2.1
    show (fmtT b rows out rows.length).toArray.size ≤ _
    rw [List.size_toArray]
    omega
  · show (0 : Nat) ≤ _
    omega
end Go.Proofs.YtbebifnnnmgihabDoor.Plain
