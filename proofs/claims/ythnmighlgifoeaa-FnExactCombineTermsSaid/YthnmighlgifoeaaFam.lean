/- A family of slices of ints that the call owns, in any order (each with its numbers), and two slices of such slices beside a struct of three cells: what a write, an append and a new slice make of them. No conditions beyond those that each fact states. -/
import Derived.Test.YthnmighlgifoeaaSeqMake
import Derived.Test.YthnmighlgifoeaaPairs
namespace Go.Proofs.Ythnmighlgifoeaa.Plain
open Go.RowKit
set_option linter.unusedVariables false
/-- No two of the slices lie in one block. -/
def Apart (p q : Value × List Int) : Prop := p.1.ownBlock = none ∨ p.1.ownBlock ≠ q.1.ownBlock
theorem Apart.symm {p q : Value × List Int} (h : Apart p q) : Apart q p := by
  rcases h with h | h
  · cases hq : q.1.ownBlock with
    | none => exact .inl hq
    | some k => exact .inr (by rw [h, hq]; simp)
  · exact .inr (Ne.symm h)
structure Fam (w : World) (lo hi : Nat) (ps : List (Value × List Int)) : Prop where
  own : ∀ p ∈ ps, OwnI w lo hi p.1 p.2
  apart : ps.Pairwise Apart
section
variable {w w' : World} {lo hi : Nat} {ps qs : List (Value × List Int)} {p : Value × List Int}
theorem Fam.perm (h : Fam w lo hi ps) (hp : ps.Perm qs) : Fam w lo hi qs :=
  ⟨fun p hm => h.own p (hp.mem_iff.2 hm), (hp.pairwise_iff (fun h => Apart.symm h)).1 h.apart⟩
theorem Fam.nil (w : World) (lo hi : Nat) : Fam w lo hi [] := ⟨fun _ h => (by cases h), List.Pairwise.nil⟩
theorem Fam.below (h : Fam w lo hi ps) (hb : Below w.heap.size w w') : Fam w' lo hi ps := ⟨fun p hp => (h.own p hp).below hb, h.apart⟩
theorem Fam.tail (h : Fam w lo hi (p :: ps)) : Fam w lo hi ps := ⟨fun q hq => h.own q (List.mem_cons_of_mem _ hq), (List.pairwise_cons.1 h.apart).2⟩
theorem Fam.head (h : Fam w lo hi (p :: ps)) : OwnI w lo hi p.1 p.2 := h.own p (List.mem_cons_self ..)
theorem Fam.mono {hi' : Nat} (h : Fam w lo hi ps) (h1 : hi ≤ hi') (h2 : hi' ≤ w.heap.size) : Fam w lo hi' ps := ⟨fun p hp => (h.own p hp).mono (Nat.le_refl _) h1 h2, h.apart⟩
theorem Fam.lower {lo' : Nat} (h : Fam w lo hi ps) (h1 : lo' ≤ lo) : Fam w lo' hi ps := ⟨fun p hp => (h.own p hp).mono h1 (Nat.le_refl _) (h.own p hp).le, h.apart⟩
theorem Fam.left (h : Fam w lo hi (ps ++ qs)) : Fam w lo hi ps := ⟨fun p hp => h.own p (List.mem_append_left _ hp), (List.pairwise_append.1 h.apart).1⟩
/-- A slice that was made behind all the others. -/
theorem Fam.push {hi' : Nat} {u : Value} {r : List Int} (h : Fam w lo hi ps) (hu : OwnI w hi hi' u r) (hlo : lo ≤ hi) (hle : hi ≤ hi') : Fam w lo hi' ((u, r) :: ps) := by
  refine ⟨fun p hp => ?_, List.pairwise_cons.2 ⟨fun q hq => ?_, h.apart⟩⟩
  · rcases List.mem_cons.1 hp with rfl | hp
    · exact hu.mono hlo (Nat.le_refl _) hu.le
    · exact (h.own p hp).mono (Nat.le_refl _) hle hu.le
  · cases hk : u.ownBlock with
    | none => exact .inl hk
    | some k =>
      refine .inr fun e => ?_
      have h1 := hu.range k hk
      have h2 := (h.own q hq).range k (by rw [← e]; exact hk)
      omega
theorem Fam.set (h : Fam w lo hi ps) {a : Addr} (ha : ∀ p ∈ ps, p.1.ownBlock ≠ some a.block) (x : Value) : Fam (w.setCell a x) lo hi ps := ⟨fun p hp => (h.own p hp).set (ha p hp) x, h.apart⟩
theorem Fam.ne_c3 (h : Fam w lo hi ps) {b : Nat} {t : TypeId} {x y z : Value} (hc : Cells3 w b t x y z) (hne : (3 : Nat) ≠ t) : ∀ p ∈ ps, p.1.ownBlock ≠ some b := fun p hp => has_ne_c3 (h.own p hp).has hc hne
/-- The head has grown. -/
theorem Fam.grown {base : Nat} {v v' : Value} {r r' : List Int} (h : Fam w lo hi ((v, r) :: ps)) (hv : Has (Value.int .i64) 3 w' base v' r') (hlo : lo ≤ base) (hle : hi ≤ w.heap.size) (hg : w.grownBy w' v.ownBlock) (hb : ∀ k, v'.ownBlock = some k → v.ownBlock = some k ∨ w.heap.size ≤ k) :
    Fam w' lo w'.heap.size ((v', r') :: ps) := by
  have ha := (List.pairwise_cons.1 h.apart).1
  refine ⟨fun p hp => ?_, List.pairwise_cons.2 ⟨fun q hq => ?_, (List.pairwise_cons.1 h.apart).2⟩⟩
  · rcases List.mem_cons.1 hp with rfl | hp
    · exact ⟨hv.mono hlo, fun k hk => (hv.lt k hk).2, Nat.le_refl _⟩
    · have hI := h.tail.own p hp
      refine ⟨hI.has.of_same fun k hk => hg.block k (hI.has.lt k hk).2 (fun e => ?_), fun k hk => Nat.lt_of_lt_of_le (hI.lt k hk) (Nat.le_trans hle hg.size), Nat.le_refl _⟩
      rcases ha p hp with h3 | h3
      · rw [h3] at e; cases e
      · exact h3 (by rw [hk]; exact e.symm)
  · cases hk : v'.ownBlock with
    | none => exact .inl hk
    | some k =>
      refine .inr fun e => ?_
      have hI := h.tail.own q hq
      have h1 := hI.range k (by rw [← e]; exact hk)
      rcases hb k hk with h2 | h2
      · rcases ha q hq with h3 | h3
        · rw [h3] at h2; cases h2
        · exact h3 (by rw [h2, ← e]; exact hk.symm)
      · omega
theorem Fam.top_grown {lo' : Nat} {v : Value} {xs : List Value} (h : Fam w lo hi ps) (ht : Has id 23 w lo' v xs) (hg : w.grownBy w' v.ownBlock) : Fam w' lo hi ps :=
  ⟨fun p hp => by
    have hI := h.own p hp
    refine ⟨hI.has.of_same fun k hk => hg.block k (hI.has.lt k hk).2 (fun e => ?_), hI.lt, Nat.le_trans hI.le hg.size⟩
    rcases ht.ne_row hI.has with h1 | h1
    · rw [h1] at hk; cases hk
    · exact h1 (by rw [hk, e]), h.apart⟩
/-- A number is written into the head. -/
theorem Fam.write {g n cap : Nat} {r : List Int} (h : Fam w lo hi ((.slice (some ⟨g, 0, none⟩) n cap, r) :: ps)) (j : Nat) (x : Int) : Fam (w.setCell ⟨g, j, none⟩ (.int .i64 x)) lo hi ((.slice (some ⟨g, 0, none⟩) n cap, r.set j x) :: ps) := by
  have ha := (List.pairwise_cons.1 h.apart).1
  refine ⟨fun p hp => ?_, List.pairwise_cons.2 ⟨fun q hq => ha q hq, (List.pairwise_cons.1 h.apart).2⟩⟩
  rcases List.mem_cons.1 hp with rfl | hp
  · have h0 : w.ownsRow lo 3 1 (.slice (some ⟨g, 0, none⟩) n cap) r.length (r.map (Value.int .i64)) := h.head.has
    obtain ⟨a, c, hf, _⟩ := h.head.has.form
    injection hf with _ h2 _
    simp only at h2
    subst h2
    have h1 := (h0.stored j (.int .i64 x)).1
    refine ⟨?_, h.head.lt, by rw [size_setCell']; exact h.head.le⟩
    show World.ownsRow _ _ _ _ _ _ _
    rw [List.length_set, List.map_set]
    exact h1
  · refine (h.tail.own p hp).set (a := ⟨g, j, none⟩) (fun e => ?_) _
    rcases ha p hp with h3 | h3
    · cases h3
    · exact h3 e.symm
theorem Fam.rows {us : List Value} {rows : List (List Int)} (h : Fam w lo hi (us.zip rows)) (hl : us.length = rows.length) : OwnRows w lo hi us rows := by
  refine ⟨hl, fun i u r hu hr => ?_, fun i j u u' hu hu' hij => ?_⟩
  · exact h.own (u, r) (List.mem_of_getElem? (i := i) (by rw [List.getElem?_zip_eq_some]; exact ⟨hu, hr⟩))
  · have hi' := (List.getElem?_eq_some_iff.1 hu).1
    have hj' := (List.getElem?_eq_some_iff.1 hu').1
    obtain ⟨r, hr⟩ : ∃ r, rows[i]? = some r := ⟨_, List.getElem?_eq_getElem (by omega)⟩
    obtain ⟨r', hr'⟩ : ∃ r, rows[j]? = some r := ⟨_, List.getElem?_eq_getElem (by omega)⟩
    have z1 : (us.zip rows)[i]? = some (u, r) := by rw [List.getElem?_zip_eq_some]; exact ⟨hu, hr⟩
    have z2 : (us.zip rows)[j]? = some (u', r') := by rw [List.getElem?_zip_eq_some]; exact ⟨hu', hr'⟩
    obtain ⟨l1, e1⟩ := List.getElem?_eq_some_iff.1 z1
    obtain ⟨l2, e2⟩ := List.getElem?_eq_some_iff.1 z2
    have key := List.pairwise_iff_getElem.1 h.apart
    rcases Nat.lt_or_gt_of_ne hij with h1 | h1
    · have := key i j l1 l2 h1
      rw [e1, e2] at this
      exact this
    · have := key j i l2 l1 h1
      rw [e1, e2] at this
      exact this.symm
end
/-- A pair as a list. -/
def pl (s : Pr) : List Int := [s.1, s.2]
/-- Block p holds the sequence in the making; vn its rows' slice, vo its terms; ve the slice of pairs, each in a slice of its own; X what else there is. All is the call's own, from block base on. -/
structure PM (w : World) (base hi p : Nat) (b : Int) (vn vo ve : Value) (us es : List Value) (rows : List (List Int)) (prs : List Pr) (out : List Int) (X : List (Value × List Int)) : Prop where
  top : Has id 23 w base vn us
  etop : Has id 23 w base ve es
  ne : vn.ownBlock = none ∨ vn.ownBlock ≠ ve.ownBlock
  fam : Fam w base hi (X ++ (vo, out) :: (us.zip rows ++ es.zip (prs.map pl)))
  ul : us.length = rows.length
  el : es.length = prs.length
  cells : Cells3 w p 27 (.int .i64 b) vn vo
  lo : base ≤ hi
  le : hi ≤ w.heap.size
section
variable {w w' : World} {base hi p : Nat} {b : Int} {vn vo ve : Value} {us es : List Value} {rows : List (List Int)} {prs : List Pr} {out : List Int} {X : List (Value × List Int)}
theorem PM.below (h : PM w base hi p b vn vo ve us es rows prs out X) (hb : Below w.heap.size w w') : PM w' base hi p b vn vo ve us es rows prs out X :=
  ⟨h.top.below hb, h.etop.below hb, h.ne, h.fam.below hb, h.ul, h.el, h.cells.below hb, h.lo, Nat.le_trans h.le hb.size⟩
theorem PM.terms (h : PM w base hi p b vn vo ve us es rows prs out X) : OwnI w base hi vo out := h.fam.own (vo, out) (by simp)
theorem PM.extra {x : Value} {r : List Int} (h : PM w base hi p b vn vo ve us es rows prs out X) (hx : (x, r) ∈ X) : OwnI w base hi x r := h.fam.own (x, r) (by simp [hx])
theorem PM.pair {i : Nat} {s : Pr} (h : PM w base hi p b vn vo ve us es rows prs out X) (hs : prs[i]? = some s) : ∃ u, es[i]? = some u ∧ OwnI w base hi u (pl s) := by
  have hi' : i < es.length := by rw [h.el]; exact (List.getElem?_eq_some_iff.1 hs).1
  refine ⟨es[i], List.getElem?_eq_getElem hi', ?_⟩
  have hz : (es.zip (prs.map pl))[i]? = some (es[i], pl s) := by
    rw [List.getElem?_zip_eq_some]
    exact ⟨List.getElem?_eq_getElem hi', by rw [List.getElem?_map, hs]; rfl⟩
  exact h.fam.own (es[i], pl s) (by have := List.mem_of_getElem? hz; simp [this])
/-- A pair's cells. -/
theorem PM.at_ {i : Nat} {s : Pr} (h : PM w base hi p b vn vo ve us es rows prs out X) (hs : prs[i]? = some s) :
    ∃ eq eo ec g c, ve = .slice (some ⟨eq, eo, none⟩) prs.length ec ∧ w.cell? ⟨eq, eo + i, none⟩ = some (.slice (some ⟨g, 0, none⟩) 2 c) ∧ w.cell? ⟨g, 0, none⟩ = some (.int .i64 s.1) ∧ w.cell? ⟨g, 1, none⟩ = some (.int .i64 s.2) ∧ Lies (Value.int .i64) w (.slice (some ⟨g, 0, none⟩) 2 c) (pl s) := by
  obtain ⟨u, hu, hI⟩ := h.pair hs
  obtain ⟨_, a, c, hv, _, hc⟩ := h.etop.lies
  obtain ⟨eq, eo, h1, h2⟩ := hc i u hu
  obtain ⟨a', c', hf, hg⟩ := hI.has.form
  obtain ⟨g, hg⟩ := hg (show 0 < (pl s).length by simp [pl])
  have hf' : u = .slice (some ⟨g, 0, none⟩) 2 c' := by rw [hf, hg]; rfl
  subst hf'
  have hlies := hI.has.lies
  obtain ⟨_, a2, c2, hv2, _, hc2⟩ := hI.has.lies
  injection hv2 with e1 e2 e3
  obtain ⟨q0, o0, k1, k2⟩ := hc2 0 s.1 rfl
  obtain ⟨q1, o1, k3, k4⟩ := hc2 1 s.2 rfl
  rw [← e1] at k1 k3
  injection k1 with k1
  injection k1 with k1 k1'
  injection k3 with k3
  injection k3 with k3 k3'
  subst k1; subst k1'; subst k3; subst k3'
  refine ⟨eq, eo, c, g, c', ?_, h2, ?_, ?_, hlies⟩
  · rw [hv, h1, h.el]
  · simpa using k2
  · simpa using k4
/-- A further slice of the call's own begins. -/
theorem PM.begin {x : Value} {r : List Int} (h : PM w base hi p b vn vo ve us es rows prs out X) (hb : Below w.heap.size w w') (hr : Has (Value.int .i64) 3 w' w.heap.size x r) : PM w' base w'.heap.size p b vn vo ve us es rows prs out ((x, r) :: X) := by
  have h1 := h.below hb
  have h2 : OwnI w' hi w'.heap.size x r := ⟨hr.mono h.le, fun k hk => (hr.lt k hk).2, Nat.le_refl _⟩
  exact ⟨h1.top, h1.etop, h1.ne, h1.fam.push h2 h.lo h1.le, h1.ul, h1.el, h1.cells, Nat.le_trans h1.lo h1.le, Nat.le_refl _⟩
theorem PM.forget {x : Value × List Int} (h : PM w base hi p b vn vo ve us es rows prs out (x :: X)) : PM w base hi p b vn vo ve us es rows prs out X := ⟨h.top, h.etop, h.ne, h.fam.tail, h.ul, h.el, h.cells, h.lo, h.le⟩
theorem PM.swap {x y : Value × List Int} (h : PM w base hi p b vn vo ve us es rows prs out (x :: y :: X)) : PM w base hi p b vn vo ve us es rows prs out (y :: x :: X) := ⟨h.top, h.etop, h.ne, h.fam.perm (List.Perm.swap ..), h.ul, h.el, h.cells, h.lo, h.le⟩
/-- The first further slice has grown. -/
theorem PM.grow {x x' : Value} {r r' : List Int} (h : PM w base hi p b vn vo ve us es rows prs out ((x, r) :: X)) (hv : Has (Value.int .i64) 3 w' base x' r') (hg : w.grownBy w' x.ownBlock) (hb : ∀ k, x'.ownBlock = some k → x.ownBlock = some k ∨ w.heap.size ≤ k) :
    PM w' base w'.heap.size p b vn vo ve us es rows prs out ((x', r') :: X) :=
  ⟨h.top.grown hg (h.top.ne_top (h.extra (List.mem_cons_self ..)).has), h.etop.grown hg (h.etop.ne_top (h.extra (List.mem_cons_self ..)).has), h.ne, h.fam.grown hv (Nat.le_refl _) h.le hg hb, h.ul, h.el,
    h.cells.grown hg (has_ne_c3 (h.extra (List.mem_cons_self ..)).has h.cells (by decide)), Nat.le_trans h.lo (Nat.le_trans h.le hg.size), Nat.le_refl _⟩
/-- A number is written into the first further slice. -/
theorem PM.write {g n cap : Nat} {r : List Int} (h : PM w base hi p b vn vo ve us es rows prs out ((.slice (some ⟨g, 0, none⟩) n cap, r) :: X)) (j : Nat) (x : Int) : PM (w.setCell ⟨g, j, none⟩ (.int .i64 x)) base hi p b vn vo ve us es rows prs out ((.slice (some ⟨g, 0, none⟩) n cap, r.set j x) :: X) := by
  have hI := (h.extra (x := .slice (some ⟨g, 0, none⟩) n cap) (r := r) (List.mem_cons_self ..)).has
  have ht : ∀ {v : Value} {xs : List Value}, Has id 23 w base v xs → v.ownBlock ≠ some g := fun hv e => by
    rcases hv.ne_top hI with h1 | h1
    · rw [h1] at e; cases e
    · exact h1 e
  exact ⟨h.top.set (a := ⟨g, j, none⟩) (ht h.top) _, h.etop.set (a := ⟨g, j, none⟩) (ht h.etop) _, h.ne, h.fam.write j x, h.ul, h.el, h.cells.other (a := ⟨g, j, none⟩) (fun e => has_ne_c3 hI h.cells (by decide) (by rw [← e]; rfl)) _, h.lo, by rw [size_setCell']; exact h.le⟩
/-- The first further slice is appended to the pairs. -/
theorem PM.add {x ve' : Value} {s : Pr} (h : PM w base hi p b vn vo ve us es rows prs out ((x, pl s) :: X)) (hv : Has id 23 w' base ve' (es ++ [x])) (hg : w.grownBy w' ve.ownBlock) (hb : ∀ k, ve'.ownBlock = some k → ve.ownBlock = some k ∨ w.heap.size ≤ k) :
    PM w' base w'.heap.size p b vn vo ve' us (es ++ [x]) rows (prs ++ [s]) out X := by
  have h1 := h.fam.top_grown h.etop hg
  refine ⟨h.top.grown hg h.ne, hv, ?_, ?_, h.ul, by simp [h.el], h.cells.grown hg (has_ne_c3 h.etop h.cells (by decide)), Nat.le_trans h.lo (Nat.le_trans h.le hg.size), Nat.le_refl _⟩
  · cases hk : vn.ownBlock with
    | none => exact .inl rfl
    | some k =>
      refine .inr fun e => ?_
      have h2 := (h.top.lt k hk).2
      rcases hb k e.symm with h3 | h3
      · rcases h.ne with h4 | h4
        · rw [hk] at h4; cases h4
        · exact h4 (by rw [hk, h3])
      · omega
  · refine (h1.mono (Nat.le_trans h.le hg.size) (Nat.le_refl _)).perm ?_
    have e : (es ++ [x]).zip ((prs ++ [s]).map pl) = es.zip (prs.map pl) ++ [(x, pl s)] := by
      rw [List.map_append, List.zip_append (by simp [h.el])]
      rfl
    rw [e]
    have : ((x, pl s) :: (X ++ (vo, out) :: (us.zip rows ++ es.zip (prs.map pl)))).Perm ((X ++ (vo, out) :: (us.zip rows ++ es.zip (prs.map pl))) ++ [(x, pl s)]) := List.perm_append_comm (l₁ := [(x, pl s)])
    simpa [List.append_assoc] using this
/-- The first further slice is appended to the rows and stored. -/
theorem PM.done {x v' : Value} {r : List Int} (h : PM w base hi p b vn vo ve us es rows prs out ((x, r) :: X)) (hv : Has id 23 w' base v' (us ++ [x])) (hg : w.grownBy w' vn.ownBlock) (hb : ∀ k, v'.ownBlock = some k → vn.ownBlock = some k ∨ w.heap.size ≤ k) :
    PM (w'.setCell ⟨p, 1, none⟩ v') base w'.heap.size p b v' vo ve (us ++ [x]) es (rows ++ [r]) prs out X := by
  have h3 := h.cells.grown hg (has_ne_c3 h.top h.cells (by decide))
  have h1 : Fam w' base w'.heap.size (X ++ (vo, out) :: ((us ++ [x]).zip (rows ++ [r]) ++ es.zip (prs.map pl))) := by
    refine ((h.fam.top_grown h.top hg).mono (Nat.le_trans h.le hg.size) (Nat.le_refl _)).perm ?_
    rw [List.zip_append h.ul]
    have e : (X ++ (vo, out) :: ((us.zip rows ++ [x].zip [r]) ++ es.zip (prs.map pl))) = (X ++ (vo, out) :: us.zip rows) ++ (x, r) :: es.zip (prs.map pl) := by simp
    have e2 : ((x, r) :: X ++ (vo, out) :: (us.zip rows ++ es.zip (prs.map pl))) = (x, r) :: ((X ++ (vo, out) :: us.zip rows) ++ es.zip (prs.map pl)) := by simp
    rw [e, e2]
    exact (List.perm_middle).symm
  have hte : Has id 23 w' base ve es := h.etop.grown hg (by
    rcases h.ne with h4 | h4
    · cases hk : ve.ownBlock with
      | none => exact .inl rfl
      | some k => exact .inr (by rw [h4]; simp)
    · exact .inr (Ne.symm h4))
  refine ⟨hv.set (a := ⟨p, 1, none⟩) (has_ne_c3 hv h3 (by decide)) v', hte.set (a := ⟨p, 1, none⟩) (has_ne_c3 hte h3 (by decide)) v', ?_, h1.set (a := ⟨p, 1, none⟩) (h1.ne_c3 h3 (by decide)) v', by simp [h.ul], h.el, h3.set1 v', Nat.le_trans h.lo (Nat.le_trans h.le hg.size), by rw [size_setCell']; exact Nat.le_refl _⟩
  cases hk : v'.ownBlock with
  | none => exact .inl rfl
  | some k =>
    refine .inr fun e => ?_
    have h2 := (h.etop.lt k e.symm).2
    rcases hb k hk with h4 | h4
    · rcases h.ne with h5 | h5
      · rw [h4] at h5; cases h5
      · exact h5 (by rw [h4, e])
    · omega
/-- A term has been appended and stored. -/
theorem PM.term {vo' : Value} {o : Int} (h : PM w base hi p b vn vo ve us es rows prs out []) (hv : Has (Value.int .i64) 3 w' base vo' (out ++ [o])) (hg : w.grownBy w' vo.ownBlock) (hb : ∀ k, vo'.ownBlock = some k → vo.ownBlock = some k ∨ w.heap.size ≤ k) :
    PM (w'.setCell ⟨p, 2, none⟩ vo') base w'.heap.size p b vn vo' ve us es rows prs (out ++ [o]) [] := by
  have hI := h.terms
  have h2 : Fam w' base w'.heap.size ([] ++ (vo', out ++ [o]) :: (us.zip rows ++ es.zip (prs.map pl))) := Fam.grown (ps := us.zip rows ++ es.zip (prs.map pl)) h.fam hv (Nat.le_refl _) h.le hg hb
  have h3 := h.cells.grown hg (has_ne_c3 hI.has h.cells (by decide))
  have h6 := h.top.grown hg (h.top.ne_top hI.has)
  have h7 := h.etop.grown hg (h.etop.ne_top hI.has)
  exact ⟨h6.set (a := ⟨p, 2, none⟩) (has_ne_c3 h6 h3 (by decide)) vo', h7.set (a := ⟨p, 2, none⟩) (has_ne_c3 h7 h3 (by decide)) vo', h.ne, h2.set (a := ⟨p, 2, none⟩) (h2.ne_c3 h3 (by decide)) vo', h.ul, h.el, h3.set2 vo', Nat.le_trans h.lo (Nat.le_trans h.le hg.size), by rw [size_setCell']; exact Nat.le_refl _⟩
/-- The whole. -/
theorem PM.seq (h : PM w base hi p b vn vo ve us es rows prs out X) : OwnS w base w.heap.size (.agg #[.int .i64 b, vn, vo]) b rows out := by
  have h1 : Fam w base hi ((vo :: us).zip (out :: rows)) := by
    have hp : (X ++ (vo, out) :: (us.zip rows ++ es.zip (prs.map pl))).Perm (((vo, out) :: us.zip rows) ++ (X ++ es.zip (prs.map pl))) := by
      have e : (X ++ (vo, out) :: (us.zip rows ++ es.zip (prs.map pl))) = (X ++ ((vo, out) :: us.zip rows)) ++ es.zip (prs.map pl) := by simp
      rw [e]
      refine (List.perm_append_comm.append_right _).trans ?_
      rw [List.append_assoc]
    exact (h.fam.perm hp).left
  exact OwnS.make_head h.top ((h1.rows (by simp [h.ul])).mono h.le (Nat.le_refl _))
theorem PM.start {e0 : Value} {s : Pr} (hc : Cells3 w p 27 (.int .i64 b) (.slice none 0 0) (.slice none 0 0)) (ht : Has id 23 w base ve [e0]) (hp : OwnI w base w.heap.size e0 (pl s)) (hb : base ≤ w.heap.size) : PM w base w.heap.size p b (.slice none 0 0) (.slice none 0 0) ve [] [e0] [] [s] [] [] := by
  have h1 : OwnI w base w.heap.size (.slice none 0 0) [] := ⟨World.ownsRow_nil _ _ _ _, fun k hk => (by cases hk), Nat.le_refl _⟩
  refine ⟨World.ownsRow_nil _ _ _ _, ht, .inl rfl, ⟨fun p hp' => ?_, ?_⟩, rfl, rfl, hc, hb, Nat.le_refl _⟩
  · simp at hp'
    rcases hp' with rfl | rfl
    · exact h1
    · exact hp
  · simp [Apart, Value.ownBlock]
theorem PM.form (h : PM w base hi p b vn vo ve us es rows prs out X) : ∃ an cn ao co ae ce, vn = .slice an rows.length cn ∧ vo = .slice ao out.length co ∧ ve = .slice ae prs.length ce := by
  obtain ⟨an, cn, h1, _⟩ := h.top.form
  obtain ⟨ao, co, h2, _⟩ := h.terms.has.form
  obtain ⟨ae, ce, h3, _⟩ := h.etop.form
  exact ⟨an, cn, ao, co, ae, ce, by rw [h1, h.ul], h2, by rw [h3, h.el]⟩
end
end Go.Proofs.Ythnmighlgifoeaa.Plain
