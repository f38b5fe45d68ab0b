/- A sequence that the call builds in a struct of its own, row by row and term by term: what it owns, and what an appended row and an appended term make of it. No conditions beyond those that each fact states. -/
import Derived.Test.YtfpdikohlafpiaaGreatSeqs3
import Derived.Test.YtfpdikohlafpiaaGreatSeqForm
namespace Go.Proofs.YtfpdikohlafpiaaGreat.Plain
open Go.RowKit
set_option linter.unusedVariables false
/-- Block p holds the sequence; its slices are the call's own, from block base on, the rows' blocks below hi. -/
structure Building (w : World) (base hi p : Nat) (b : Int) (vn vo : Value) (us : List Value) (rows : List (List Int)) (out : List Int) : Prop where
  top : Has id 24 w base vn us
  rows : OwnRows w base hi (vo :: us) (out :: rows)
  cells : Cells3 w p 69 (.int .i64 b) vn vo
  lo : base ≤ hi
  le : hi ≤ w.heap.size
section
variable {w w' : World} {base hi p : Nat} {b : Int} {vn vo : Value} {us : List Value} {rows : List (List Int)} {out : List Int}
theorem Building.below (h : Building w base hi p b vn vo us rows out) (hb : Below w.heap.size w w') : Building w' base hi p b vn vo us rows out :=
  ⟨h.top.below hb, h.rows.below hb, h.cells.below hb, h.lo, Nat.le_trans h.le hb.size⟩
theorem Building.len (h : Building w base hi p b vn vo us rows out) : us.length = rows.length := by have := h.rows.len; simpa using this
theorem Building.terms (h : Building w base hi p b vn vo us rows out) : OwnI w base hi vo out := h.rows.row 0 vo out rfl rfl
theorem Building.start (h : Cells3 w p 69 (.int .i64 b) (.slice none 0 0) (.slice none 0 0)) (hb : base ≤ w.heap.size) : Building w base base p b (.slice none 0 0) (.slice none 0 0) [] [] [] :=
  ⟨World.ownsRow_nil _ _ _ _, OwnRows.one ⟨World.ownsRow_nil _ _ _ _, fun k hk => (by cases hk), hb⟩, h, Nat.le_refl _, hb⟩
/-- A row that was made behind all the others has been appended and stored. -/
theorem Building.row {u v' : Value} {r : List Int} (h : Building w base hi p b vn vo us rows out) (hu : Has (Value.int .i64) 3 w hi u r) (hv : Has id 24 w' base v' (us ++ [u])) (hg : w.grownBy w' vn.ownBlock) :
    Building (w'.setCell ⟨p, 1, none⟩ v') base w'.heap.size p b v' vo (us ++ [u]) (rows ++ [r]) out := by
  have hI : OwnI w hi w.heap.size u r := ⟨hu, fun k hk => (hu.lt k hk).2, Nat.le_refl _⟩
  have h1 := h.rows.snoc hI h.lo h.le
  have h2 := h1.top_grown h.top hg
  have h3 := h.cells.grown hg (has_ne_c3 h.top h.cells (by decide))
  have h4 := h2.ne_c3 h3 (by decide)
  have h5 := (h2.mono hg.size (Nat.le_refl _)).set (a := ⟨p, 1, none⟩) h4 v'
  exact ⟨hv.set (a := ⟨p, 1, none⟩) (has_ne_c3 hv h3 (by decide)) v', h5, h3.set1 v', Nat.le_trans h.lo (Nat.le_trans h.le hg.size), by rw [size_setCell']; exact Nat.le_refl _⟩
/-- A term has been appended and stored. -/
theorem Building.term {vo' : Value} {o : Int} (h : Building w base hi p b vn vo us rows out) (hv : Has (Value.int .i64) 3 w' base vo' (out ++ [o])) (hg : w.grownBy w' vo.ownBlock) (hb : ∀ k, vo'.ownBlock = some k → vo.ownBlock = some k ∨ w.heap.size ≤ k) :
    Building (w'.setCell ⟨p, 2, none⟩ vo') base w'.heap.size p b vn vo' us rows (out ++ [o]) := by
  have hI := h.terms
  have h2 := h.rows.head_grown hv (Nat.le_refl _) h.le hg hb
  have h3 := h.cells.grown hg (has_ne_c3 hI.has h.cells (by decide))
  have h4 := h2.ne_c3 h3 (by decide)
  have h5 := h2.set (a := ⟨p, 2, none⟩) h4 vo'
  have h6 := h.top.grown hg (h.top.ne_top hI.has)
  exact ⟨h6.set (a := ⟨p, 2, none⟩) (has_ne_c3 h6 h3 (by decide)) vo', h5, h3.set2 vo', Nat.le_trans h.lo (Nat.le_trans h.le hg.size), by rw [size_setCell']; exact Nat.le_refl _⟩
/-- The whole. -/
theorem Building.seq (h : Building w base hi p b vn vo us rows out) : OwnS w base w.heap.size (.agg #[.int .i64 b, vn, vo]) b rows out :=
  OwnS.make_head h.top (h.rows.mono h.le (Nat.le_refl _))
theorem Building.form (h : Building w base hi p b vn vo us rows out) : ∃ an cn ao co, vn = .slice an rows.length cn ∧ vo = .slice ao out.length co := by
  obtain ⟨an, cn, h1, _⟩ := h.top.form
  obtain ⟨ao, co, h2, _⟩ := h.terms.has.form
  exact ⟨an, cn, ao, co, by rw [h1, h.len], h2⟩
end
end Go.Proofs.YtfpdikohlafpiaaGreat.Plain
