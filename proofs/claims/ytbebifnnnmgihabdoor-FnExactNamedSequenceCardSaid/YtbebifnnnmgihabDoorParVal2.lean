/- What the program reads in the text of a sequence. No conditions beyond those that each fact states. -/
import Derived.Test.YtbebifnnnmgihabDoorParVal
import Derived.Test.YtbebifnnnmgihabDoorParse
namespace Go.Proofs.YtbebifnnnmgihabDoor.Plain
open Go.PlainAid
set_option linter.unusedVariables false
def outI (q : List UInt8) : Int := Parse.resV ⟨(Lib.cut q [47]).2.1.toArray⟩
/-- What is known of the numbers read out of a piece. -/
def RowRel (q : List UInt8) (r : List Int) : Prop := wordB (lettersL (Lib.cut q [47]).1) 16 = true → r = lettersL (Lib.cut q [47]).1
def RowsRel (ps : List (List UInt8)) (rows : List (List Int)) : Prop := rows.length = ps.length ∧ ∀ (k : Nat) (q : List UInt8) (r : List Int), ps[k]? = some q → rows[k]? = some r → RowRel q r
theorem RowsRel.nil : RowsRel [] [] := ⟨rfl, fun k q r h => by simp at h⟩
theorem RowsRel.snoc {ps : List (List UInt8)} {rows : List (List Int)} {q : List UInt8} {r : List Int} (h : RowsRel ps rows) (hr : RowRel q r) : RowsRel (ps ++ [q]) (rows ++ [r]) := by
  refine ⟨by simp [h.1], fun k q' r' h1 h2 => ?_⟩
  rcases Nat.lt_trichotomy k ps.length with hk | hk | hk
  · rw [List.getElem?_append_left hk] at h1
    rw [List.getElem?_append_left (by rw [h.1]; exact hk)] at h2
    exact h.2 k q' r' h1 h2
  · subst hk
    rw [List.getElem?_append_right (Nat.le_refl _), Nat.sub_self] at h1
    rw [List.getElem?_append_right (by rw [h.1]; exact Nat.le_refl _), h.1, Nat.sub_self] at h2
    simp at h1 h2
    subst h1; subst h2
    exact hr
  · rw [List.getElem?_eq_none (by simp; omega)] at h1
    cases h1
theorem resV_itoa {b : Int} (h : 0 ≤ b ∧ b < 10) : Parse.resV ⟨(itoaS b).data.toList.toArray⟩ = b := by
  have e : (⟨(itoaS b).data.toList.toArray⟩ : ByteArray) = itoaS b := by simp
  have h1 := isNum_all (s := itoaS b) (n := b) ⟨by omega, by omega, rfl⟩
  rw [e, (Parse.res_yes h1.1).1, h1.2.1]
theorem imp_back {b b' : Int} {rows R' : List (List Int)} {out O' : List Int} {l : List UInt8} (h : seqB b rows out = true) (hl : l = fmtT b rows out rows.length)
    (hb : b' = Parse.resV ⟨(Lib.cut l [58, 32]).1.toArray⟩) (hr : RowsRel (cutP 32 (Lib.cut l [58, 32]).2.1) R') (ho : O' = (cutP 32 (Lib.cut l [58, 32]).2.1).map outI) : b' = b ∧ R' = rows ∧ O' = out := by
  have hs := seqB_out h
  obtain ⟨rest, h1, h2⟩ := fmt_head hs
  rw [← hl] at h1
  rw [h1] at hb hr ho
  have hr : RowsRel (cutP 32 rest) R' := hr
  have ho : O' = (cutP 32 rest).map outI := ho
  rw [h2] at hr ho
  have hz := zip_rows hs
  have hlen := hs.2.2.2.2.1
  have hm := zip_maps rows out (by omega)
  refine ⟨?_, ?_, ?_⟩
  · rw [hb]
    exact resV_itoa ⟨by have := hs.1; omega, by have := hs.2.1; omega⟩
  · have hl2 : R'.length = rows.length := by
      have := hr.1
      rw [List.length_map, List.length_zip] at this
      omega
    refine List.ext_getElem? fun k => ?_
    by_cases hk : k < rows.length
    · obtain ⟨r, hr1⟩ : ∃ r, rows[k]? = some r := ⟨_, List.getElem?_eq_getElem hk⟩
      obtain ⟨o, ho1⟩ : ∃ o, out[k]? = some o := ⟨_, List.getElem?_eq_getElem (by omega)⟩
      obtain ⟨r', hr2⟩ : ∃ r, R'[k]? = some r := ⟨_, List.getElem?_eq_getElem (by omega)⟩
      have hzk : (rows.zip out)[k]? = some (r, o) := List.getElem?_zip_eq_some.2 ⟨hr1, ho1⟩
      have hx := hz (r, o) (List.mem_of_getElem? hzk)
      have h3 := hr.2 k (pieceT r o) r' (by rw [List.getElem?_map, hzk]; rfl) hr2
      have hrow := hs.rowOK hr1 ho1
      unfold RowRel at h3
      rw [piece_head hx.1] at h3
      have h4 : wordB (lettersL (r.map hexU)) 16 = true := by
        rw [letters_hex hx.1]
        exact decide_eq_true ⟨by omega, by omega, by show r.length ≤ 400; have := hrow.1; have := hs.2.1; omega, fun x hxx => hx.1 x hxx⟩
      rw [hr1, hr2, h3 h4, letters_hex hx.1]
    · rw [List.getElem?_eq_none (by omega), List.getElem?_eq_none (by omega)]
  · rw [ho, List.map_map]
    conv => rhs; rw [← hm.2]
    refine List.map_congr_left fun q hq => ?_
    have hx := hz q hq
    show Parse.resV ⟨(Lib.cut (pieceT q.1 q.2) [47]).2.1.toArray⟩ = q.2
    rw [piece_head hx.1]
    exact resV_itoa hx.2
/-- The answer, by the text of what the program has read. -/
theorem imp_yes {b' : Int} {R' : List (List Int)} {O' : List Int} {s : ByteArray} (h0 : s.size ≠ 0) (h : fmtV b' R' O' = s) : parK s.data.toList = true ∧ parVB s.data.toList = b' ∧ parVR s.data.toList = R' ∧ parVO s.data.toList = O' := by
  have hn : s.data.toList ≠ [] := fun e => h0 (by have := congrArg List.length e; simpa using this)
  obtain ⟨h1, h2, h3, h4⟩ := parK_yes hn (h.trans (by simp))
  obtain ⟨h5, h6, h7⟩ := par_yes h1
  exact ⟨h1, by rw [h5, h2], by rw [h6, h3], by rw [h7, h4]⟩
theorem imp_no {b' : Int} {R' : List (List Int)} {O' : List Int} {s : ByteArray} (hb : b' = Parse.resV ⟨(Lib.cut s.data.toList [58, 32]).1.toArray⟩) (hr : RowsRel (cutP 32 (Lib.cut s.data.toList [58, 32]).2.1) R') (ho : O' = (cutP 32 (Lib.cut s.data.toList [58, 32]).2.1).map outI)
    (h : fmtV b' R' O' ≠ s) : parK s.data.toList = false := by
  cases hk : parK s.data.toList with
  | false => rfl
  | true =>
    obtain ⟨_, b, rows, out, h1, h2, _⟩ := parK_fmt hk
    obtain ⟨rfl, rfl, rfl⟩ := imp_back h1 h2 hb hr ho
    refine absurd ?_ h
    unfold fmtV
    rw [if_pos h1, ← h2]
end Go.Proofs.YtbebifnnnmgihabDoor.Plain
