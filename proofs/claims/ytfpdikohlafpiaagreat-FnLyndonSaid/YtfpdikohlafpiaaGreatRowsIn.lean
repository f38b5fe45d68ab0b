/- A slice of rows of ints that the call builds row by row: what it is that the call owns it, what stays of it, and the law at the operation that puts a row behind it. No conditions beyond those that each fact states. -/
import Derived.Test.YtfpdikohlafpiaaGreatSeqs3
namespace Go.Proofs.YtfpdikohlafpiaaGreat.Plain
open Go.RowKit
set_option linter.unusedVariables false
/-- The slice v of rows is the call's own, from block lo on; the rows' blocks are below hi. -/
def HasRows (w : World) (lo hi : Nat) (v : Value) (rows : List (List Int)) : Prop := ∃ us, Has id 24 w lo v us ∧ OwnRows w lo hi us rows ∧ lo ≤ hi ∧ hi ≤ w.heap.size
section
variable {w w' : World} {lo hi : Nat} {v : Value} {rows : List (List Int)}
theorem HasRows.liesR (h : HasRows w lo hi v rows) : LiesR w v rows := by
  obtain ⟨us, h1, h2, _⟩ := h
  exact h2.lies h1.lies
theorem HasRows.below (h : HasRows w lo hi v rows) (hb : Below w.heap.size w w') : HasRows w' lo hi v rows := by
  obtain ⟨us, h1, h2, h3, h4⟩ := h
  exact ⟨us, h1.below hb, h2.below hb, h3, Nat.le_trans h4 hb.size⟩
theorem HasRows.nil {base : Nat} (h : Has id 24 w base v []) (hb : base ≤ w.heap.size) : HasRows w base base v [] := ⟨[], h, OwnRows.nil _ _ _, Nat.le_refl _, hb⟩
theorem HasRows.hi_le (h : HasRows w lo hi v rows) : lo ≤ hi ∧ hi ≤ w.heap.size := by
  obtain ⟨us, h1, h2, h3, h4⟩ := h
  exact ⟨h3, h4⟩
theorem HasRows.form (h : HasRows w lo hi v rows) : ∃ a c, v = .slice a rows.length c := by
  obtain ⟨us, h1, h2, _⟩ := h
  obtain ⟨a, c, h3, _⟩ := h1.form
  exact ⟨a, c, by rw [h3, h2.len]⟩
/-- What is written into the slice's own block touches nothing below. -/
theorem HasRows.frame {w0 : World} (h : HasRows w lo hi v rows) (hb : Below w0.heap.size w0 w) (hB : w0.heap.size ≤ lo) (hg : w.grownBy w' v.ownBlock) : Below w0.heap.size w0 w' := by
  obtain ⟨us, h1, _⟩ := h
  exact h1.frame hb hB hg
theorem HasRows.other {base : Nat} {u : Value} {xs : List Int} (h : HasRows w lo hi v rows) (hu : Has (Value.int .i64) 3 w base u xs) (hg : w.grownBy w' v.ownBlock) : Has (Value.int .i64) 3 w' base u xs := by
  obtain ⟨us, h1, _⟩ := h
  exact hu.grown hg (h1.ne_row hu)
theorem HasRows.c3 {b : Nat} {t : TypeId} {x y z : Value} (h : HasRows w lo hi v rows) (hc : Cells3 w b t x y z) (hne : (24 : Nat) ≠ t) (hg : w.grownBy w' v.ownBlock) : Cells3 w' b t x y z := by
  obtain ⟨us, h1, _⟩ := h
  exact hc.grown hg (has_ne_c3 h1 hc hne)
theorem HasRows.lift {hi' : Nat} (h : HasRows w lo hi v rows) (h1 : hi ≤ hi') (h2 : hi' ≤ w.heap.size) : HasRows w lo hi' v rows := by
  obtain ⟨us, a, b, c, d⟩ := h
  exact ⟨us, a, b.mono h1 h2, Nat.le_trans c h1, h2⟩
theorem HasRows.ownR (h : HasRows w lo hi v rows) : ∃ us, OwnR w lo w.heap.size v us rows := by
  obtain ⟨us, a, b, c, d⟩ := h
  exact ⟨us, a, fun k hk => (a.lt k hk).2, Nat.le_refl _, b.mono d (Nat.le_refl _)⟩
/-- 'v = append(v, x)', x a row that was made behind all the others. -/
theorem wpList_append_row {P : Program} {wr : World} {ops : Array Oper} {rest : List Oper} {o : Oper} {a : Act} {Q : Exit → Act → World → Prop} (hgd : o.guard = none) (s x : Operand) (t : TypeId)
    (ho : o.op = .call { callee := .builtin .append, args := #[s, x], argTypes := #[t, t] })
    (i : TypeInfo) (ht : P.underlying t = some (.slice 24)) (hi' : P.info? 24 = some i) (hz : i.zero = some (.slice none 0 0))
    (hsize : i.size = 1) (hby : i.bytes = 24) (v : Value) (hs : a.eval s = v) (hown : HasRows wr lo hi v rows) (u : Value) (r : List Int) (hu : Has (Value.int .i64) 3 wr hi u r)
    (g : Nat) (hx : a.eval x = .slice (some ⟨g, 0, none⟩) 1 1) (hgs : g = wr.heap.size) (hlen : rows.length ≤ 100000)
    (h : ∀ v' w', HasRows w' lo w'.heap.size v' (rows ++ [r]) → wr.grownBy w' v.ownBlock → wpList P ops Q rest (a.put o.dst v') w') :
    wpList P ops Q (o :: rest) a (wr.alloc (.cells #[u] 24)) := by
  subst hgs
  obtain ⟨us, h1, h2, h3, h4⟩ := hown
  have hu1 : u.oneCell' = true := by
    obtain ⟨a, c, h5, _⟩ := hu.form
    rw [h5]
    rfl
  have hul := h2.len
  refine wpList_append_list (enc := id) (e := 24) hgd s x t ho lo i (.slice none 0 0) 24 ht hi' hz hsize hby rfl v us hs (has_alloc h1 _) (.slice (some ⟨wr.heap.size, 0, none⟩) 1 1) [u] hx (lies_lit1v u rfl) (fun y hy => by simp at hy; subst hy; exact hu1) (by simp; omega) (by simp; omega) (by simp; omega) ?_
  intro v' w' hv' hg _
  have hg' : wr.grownBy w' v.ownBlock := grown_alloc hg
  have hI : OwnI wr hi wr.heap.size u r := ⟨hu, fun k hk => (hu.lt k hk).2, Nat.le_refl _⟩
  have h5 := h2.snoc hI h3 h4
  have h6 := h5.top_grown h1 hg'
  exact h v' w' ⟨us ++ [u], hv', h6.mono hg'.size (Nat.le_refl _), Nat.le_trans h3 (Nat.le_trans h4 hg'.size), Nat.le_refl _⟩ hg'
end
end Go.Proofs.YtfpdikohlafpiaaGreat.Plain
