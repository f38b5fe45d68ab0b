/- A sequence that the call builds while other slices of its own grow beside it: the family of all slices of ints, in any order, and what each append makes of it. No conditions beyond those that each fact states. -/
import Derived.Test.YtfpdikohlafpiaaGreatSeqBuild
namespace Go.Proofs.YtfpdikohlafpiaaGreat.Plain
open Go.RowKit
set_option linter.unusedVariables false
/-- The same family in another order. -/
theorem OwnRows.reindex {w : World} {lo hi : Nat} {us us' : List Value} {rows rows' : List (List Int)} (h : OwnRows w lo hi us rows) (σ : Nat → Nat) (hlen : us'.length = rows'.length) (hu : ∀ i, i < us'.length → us'[i]? = us[σ i]?) (hr : ∀ i, i < us'.length → rows'[i]? = rows[σ i]?) (hinj : ∀ i j, i < us'.length → j < us'.length → σ i = σ j → i = j) : OwnRows w lo hi us' rows' :=
  ⟨hlen, fun i u r a b => by
    have hi' := (List.getElem?_eq_some_iff.1 a).1
    rw [hu i hi'] at a
    rw [hr i hi'] at b
    exact h.row _ u r a b, fun i j u u' a b hij => by
    have hi' := (List.getElem?_eq_some_iff.1 a).1
    have hj' := (List.getElem?_eq_some_iff.1 b).1
    rw [hu i hi'] at a
    rw [hu j hj'] at b
    exact h.apart _ _ u u' a b (fun e => hij (hinj i j hi' hj' e))⟩
theorem OwnRows.swap {w : World} {lo hi : Nat} {a b : Value} {us : List Value} {x y : List Int} {rows : List (List Int)} (h : OwnRows w lo hi (a :: b :: us) (x :: y :: rows)) : OwnRows w lo hi (b :: a :: us) (y :: x :: rows) := by
  refine h.reindex (fun | 0 => 1 | 1 => 0 | n => n) (by have := h.len; simpa using this) ?_ ?_ ?_
  · intro i _
    match i with
    | 0 => rfl
    | 1 => rfl
    | n + 2 => rfl
  · intro i _
    match i with
    | 0 => rfl
    | 1 => rfl
    | n + 2 => rfl
  · intro i j _ _ e
    match i, j, e with
    | 0, 0, _ => rfl
    | 0, 1, e => simp at e
    | 0, n + 2, e => simp at e
    | 1, 0, e => simp at e
    | 1, 1, _ => rfl
    | 1, n + 2, e => simp at e
    | n + 2, 0, e => simp at e
    | n + 2, 1, e => simp at e
    | n + 2, m + 2, e => exact e
theorem OwnRows.push {w : World} {lo hi hi' : Nat} {us : List Value} {rows : List (List Int)} {u : Value} {r : List Int} (h : OwnRows w lo hi us rows) (hu : OwnI w hi hi' u r) (hlo : lo ≤ hi) (hle : hi ≤ hi') : OwnRows w lo hi' (u :: us) (r :: rows) := by
  have h1 := h.snoc hu hlo hle
  have hl := h.len
  refine h1.reindex (fun | 0 => us.length | n + 1 => n) (by simp [hl]) ?_ ?_ ?_
  · intro i hi
    match i, hi with
    | 0, _ => simp
    | n + 1, hi => simp at hi; simp [List.getElem?_append_left hi]
  · intro i hi
    match i, hi with
    | 0, _ => simp [hl]
    | n + 1, hi =>
      simp at hi
      show rows[n]? = (rows ++ [r])[n]?
      rw [List.getElem?_append_left (by omega)]
  · intro i j hi hj e
    match i, j, hi, hj, e with
    | 0, 0, _, _, _ => rfl
    | 0, n + 1, _, hj, e => simp at hj e; omega
    | n + 1, 0, hi, _, e => simp at hi e; omega
    | n + 1, m + 1, _, _, e => exact congrArg Nat.succ e
theorem OwnRows.tail {w : World} {lo hi : Nat} {u : Value} {us : List Value} {r : List Int} {rows : List (List Int)} (h : OwnRows w lo hi (u :: us) (r :: rows)) : OwnRows w lo hi us rows :=
  h.reindex (fun n => n + 1) (by have := h.len; simpa using this) (fun i _ => rfl) (fun i _ => rfl) (fun i j _ _ e => by simpa using e)
/-- Block p holds the sequence; its slices and the slice eo of numbers ed beside it are the call's own, from block base on. -/
structure Making (w : World) (base hi p : Nat) (b : Int) (vn vo eo : Value) (us : List Value) (rows : List (List Int)) (out ed : List Int) : Prop where
  top : Has id 24 w base vn us
  fam : OwnRows w base hi (eo :: vo :: us) (ed :: out :: rows)
  cells : Cells3 w p 69 (.int .i64 b) vn vo
  lo : base ≤ hi
  le : hi ≤ w.heap.size
/-- The same with a row in the making. -/
structure Rowing (w : World) (base hi p : Nat) (b : Int) (vn vo eo ro : Value) (us : List Value) (rows : List (List Int)) (out ed r : List Int) : Prop where
  top : Has id 24 w base vn us
  fam : OwnRows w base hi (ro :: eo :: vo :: us) (r :: ed :: out :: rows)
  cells : Cells3 w p 69 (.int .i64 b) vn vo
  lo : base ≤ hi
  le : hi ≤ w.heap.size
section
variable {w w' : World} {base hi p : Nat} {b : Int} {vn vo eo ro : Value} {us : List Value} {rows : List (List Int)} {out ed r : List Int}
theorem Making.below (h : Making w base hi p b vn vo eo us rows out ed) (hb : Below w.heap.size w w') : Making w' base hi p b vn vo eo us rows out ed :=
  ⟨h.top.below hb, h.fam.below hb, h.cells.below hb, h.lo, Nat.le_trans h.le hb.size⟩
theorem Rowing.below (h : Rowing w base hi p b vn vo eo ro us rows out ed r) (hb : Below w.heap.size w w') : Rowing w' base hi p b vn vo eo ro us rows out ed r :=
  ⟨h.top.below hb, h.fam.below hb, h.cells.below hb, h.lo, Nat.le_trans h.le hb.size⟩
theorem Making.len (h : Making w base hi p b vn vo eo us rows out ed) : us.length = rows.length := by have := h.fam.len; simpa using this
theorem Rowing.len (h : Rowing w base hi p b vn vo eo ro us rows out ed r) : us.length = rows.length := by have := h.fam.len; simpa using this
theorem Making.extra (h : Making w base hi p b vn vo eo us rows out ed) : OwnI w base hi eo ed := h.fam.row 0 eo ed rfl rfl
theorem Making.terms (h : Making w base hi p b vn vo eo us rows out ed) : OwnI w base hi vo out := h.fam.row 1 vo out rfl rfl
theorem Rowing.extra (h : Rowing w base hi p b vn vo eo ro us rows out ed r) : OwnI w base hi eo ed := h.fam.row 1 eo ed rfl rfl
theorem Rowing.row_ (h : Rowing w base hi p b vn vo eo ro us rows out ed r) : OwnI w base hi ro r := h.fam.row 0 ro r rfl rfl
theorem Making.building (h : Making w base hi p b vn vo eo us rows out ed) : Building w base hi p b vn vo us rows out := ⟨h.top, h.fam.tail, h.cells, h.lo, h.le⟩
theorem Making.start (h : Cells3 w p 69 (.int .i64 b) (.slice none 0 0) (.slice none 0 0)) (he : Has (Value.int .i64) 3 w base eo ed) (hb : base ≤ w.heap.size) : Making w base w.heap.size p b (.slice none 0 0) (.slice none 0 0) eo [] [] [] ed := by
  have h1 : OwnRows w base base [.slice none 0 0] [[]] := OwnRows.one ⟨World.ownsRow_nil _ _ _ _, fun k hk => (by cases hk), hb⟩
  exact ⟨World.ownsRow_nil _ _ _ _, h1.push (own_of_has he) (Nat.le_refl _) hb, h, hb, Nat.le_refl _⟩
/-- A new row begins. -/
theorem Making.begin (h : Making w base hi p b vn vo eo us rows out ed) (hb : Below w.heap.size w w') (hr : Has (Value.int .i64) 3 w' w.heap.size ro r) : Rowing w' base w'.heap.size p b vn vo eo ro us rows out ed r := by
  have h1 := h.below hb
  have h2 : OwnI w' hi w'.heap.size ro r := ⟨hr.mono h.le, fun k hk => (hr.lt k hk).2, Nat.le_refl _⟩
  exact ⟨h1.top, h1.fam.push h2 h.lo h1.le, h1.cells, Nat.le_trans h1.lo h1.le, Nat.le_refl _⟩
/-- The row has grown. -/
theorem Rowing.grow {ro' : Value} {x : Int} (h : Rowing w base hi p b vn vo eo ro us rows out ed r) (hv : Has (Value.int .i64) 3 w' base ro' (r ++ [x])) (hg : w.grownBy w' ro.ownBlock) (hb : ∀ k, ro'.ownBlock = some k → ro.ownBlock = some k ∨ w.heap.size ≤ k) :
    Rowing w' base w'.heap.size p b vn vo eo ro' us rows out ed (r ++ [x]) :=
  ⟨h.top.grown hg (h.top.ne_top h.row_.has), h.fam.head_grown hv (Nat.le_refl _) h.le hg hb, h.cells.grown hg (has_ne_c3 h.row_.has h.cells (by decide)), Nat.le_trans h.lo (Nat.le_trans h.le hg.size), Nat.le_refl _⟩
/-- The slice beside it has grown. -/
theorem Rowing.more {eo' : Value} {x : Int} (h : Rowing w base hi p b vn vo eo ro us rows out ed r) (hv : Has (Value.int .i64) 3 w' base eo' (ed ++ [x])) (hg : w.grownBy w' eo.ownBlock) (hb : ∀ k, eo'.ownBlock = some k → eo.ownBlock = some k ∨ w.heap.size ≤ k) :
    Rowing w' base w'.heap.size p b vn vo eo' ro us rows out (ed ++ [x]) r :=
  ⟨h.top.grown hg (h.top.ne_top h.extra.has), (h.fam.swap.head_grown hv (Nat.le_refl _) h.le hg hb).swap, h.cells.grown hg (has_ne_c3 h.extra.has h.cells (by decide)), Nat.le_trans h.lo (Nat.le_trans h.le hg.size), Nat.le_refl _⟩
/-- The row has been appended and stored. -/
theorem Rowing.done {v' : Value} (h : Rowing w base hi p b vn vo eo ro us rows out ed r) (hv : Has id 24 w' base v' (us ++ [ro])) (hg : w.grownBy w' vn.ownBlock) :
    Making (w'.setCell ⟨p, 1, none⟩ v') base w'.heap.size p b v' vo eo (us ++ [ro]) (rows ++ [r]) out ed := by
  have h1 : OwnRows w base hi (eo :: vo :: (us ++ [ro])) (ed :: out :: (rows ++ [r])) := h.fam.rotate
  have h2 := h1.top_grown h.top hg
  have h3 := h.cells.grown hg (has_ne_c3 h.top h.cells (by decide))
  have h4 := h2.ne_c3 h3 (by decide)
  have h5 := (h2.mono (Nat.le_trans h.le hg.size) (Nat.le_refl _)).set (a := ⟨p, 1, none⟩) h4 v'
  exact ⟨hv.set (a := ⟨p, 1, none⟩) (has_ne_c3 hv h3 (by decide)) v', h5, h3.set1 v', Nat.le_trans h.lo (Nat.le_trans h.le hg.size), by rw [size_setCell']; exact Nat.le_refl _⟩
/-- A term has been appended and stored. -/
theorem Making.term {vo' : Value} {o : Int} (h : Making w base hi p b vn vo eo us rows out ed) (hv : Has (Value.int .i64) 3 w' base vo' (out ++ [o])) (hg : w.grownBy w' vo.ownBlock) (hb : ∀ k, vo'.ownBlock = some k → vo.ownBlock = some k ∨ w.heap.size ≤ k) :
    Making (w'.setCell ⟨p, 2, none⟩ vo') base w'.heap.size p b vn vo' eo us rows (out ++ [o]) ed := by
  have hI := h.terms
  have h2 := (h.fam.swap.head_grown hv (Nat.le_refl _) h.le hg hb).swap
  have h3 := h.cells.grown hg (has_ne_c3 hI.has h.cells (by decide))
  have h4 := h2.ne_c3 h3 (by decide)
  have h5 := h2.set (a := ⟨p, 2, none⟩) h4 vo'
  have h6 := h.top.grown hg (h.top.ne_top hI.has)
  exact ⟨h6.set (a := ⟨p, 2, none⟩) (has_ne_c3 h6 h3 (by decide)) vo', h5, h3.set2 vo', Nat.le_trans h.lo (Nat.le_trans h.le hg.size), by rw [size_setCell']; exact Nat.le_refl _⟩
theorem Making.form (h : Making w base hi p b vn vo eo us rows out ed) : ∃ an cn ao co, vn = .slice an rows.length cn ∧ vo = .slice ao out.length co := h.building.form
end
end Go.Proofs.YtfpdikohlafpiaaGreat.Plain
