/- What stays of slices, rows and structs behind a draw, a new block, a write elsewhere; rows and a slice in intervals that do not meet. No conditions beyond those that each fact states. -/
import Derived.Test.YtfpdikohlafpiaaGreatCells3
import Derived.Test.YtfpdikohlafpiaaGreatLists2
namespace Go.Proofs.YtfpdikohlafpiaaGreat.Plain
open Go.RowKit
theorem with_fact {T G : Prop} (h : T) (k : T → G) : G := k h
section
variable {α : Type} {enc : α → Value} {e : TypeId} {w w1 : World} {v : Value} {xs : List α} {base : Nat}
theorem lies_drew (h : Lies enc w v xs) : Lies enc w.drew v xs := h.below (below_drew' w)
theorem lies_alloc (h : Lies enc w v xs) (o : Obj) : Lies enc (w.alloc o) v xs := h.below ((Below.refl _ _).alloc (Nat.le_refl _) _)
theorem has_drew (h : Has enc e w base v xs) : Has enc e w.drew base v xs := h.below (below_drew' w)
theorem has_alloc (h : Has enc e w base v xs) (o : Obj) : Has enc e (w.alloc o) base v xs := h.below ((Below.refl _ _).alloc (Nat.le_refl _) _)
/-- An empty slice literal that has just been laid, a literal of one element. -/
theorem has_lit0 {g : Nat} (hg : g = w.heap.size) (hb : base ≤ g) : Has enc e (w.alloc (.cells #[] e)) base (.slice (some ⟨g, 0, none⟩) 0 0) [] := by
  subst hg
  exact Has.lit (enc := enc) (e := e) w [] hb (by simp)
theorem lies_lit1 {g : Nat} (x : α) (hg : g = w.heap.size) : Lies enc (w.alloc (.cells #[enc x] e)) (.slice (some ⟨g, 0, none⟩) 1 1) [x] := by
  subst hg
  exact (Has.lit (enc := enc) (e := e) (base := w.heap.size) w [x] (Nat.le_refl _) (by simp)).lies
theorem has_lit1 {g : Nat} (x : α) (hg : g = w.heap.size) (hb : base ≤ g) : Has enc e (w.alloc (.cells #[enc x] e)) base (.slice (some ⟨g, 0, none⟩) 1 1) [x] := by
  subst hg
  exact Has.lit (enc := enc) (e := e) w [x] hb (by simp)
theorem lies_lit1v {w : World} {e : TypeId} {g : Nat} (x : Value) (hg : g = w.heap.size) : Lies id (w.alloc (.cells #[x] e)) (.slice (some ⟨g, 0, none⟩) 1 1) [x] := lies_lit1 (enc := id) x hg
theorem c3_of_below {w w' : World} {B b : Nat} {t : TypeId} {x y z : Value} (h : Below B w w') (hc : Cells3 w b t x y z) (hb : b < B) : Cells3 w' b t x y z := ⟨(h.block b hb).trans hc.row⟩
end
section
variable {w w1 : World} {b : Nat} {t : TypeId} {x y z : Value}
theorem c3_new' (h : b = w.heap.size) : Cells3 (w.alloc (.cells #[x, y, z] t)) b t x y z := by
  subst h
  exact Cells3.new w t x y z
theorem c3_drew (h : Cells3 w b t x y z) : Cells3 w.drew b t x y z := ⟨h.row⟩
theorem c3_all (h : Cells3 w b t x y z) : w.cell? ⟨b, 0, none⟩ = some x ∧ w.cell? ⟨b, 1, none⟩ = some y ∧ w.cell? ⟨b, 2, none⟩ = some z := ⟨h.c0, h.c1, h.c2⟩
/-- A slice's block and a struct's block are two, where their types are. -/
theorem has_ne_c3 {α : Type} {enc : α → Value} {e : TypeId} {v : Value} {xs : List α} {base : Nat} (h : Has enc e w base v xs) (hc : Cells3 w b t x y z) (hne : e ≠ t) : v.ownBlock ≠ some b := by
  rcases h.2 with ⟨rfl, _⟩ | ⟨g, cap, cur, rfl, _, hg, _⟩
  · intro h; cases h
  · intro h
    have e1 : g = b := by simpa [Value.ownBlock] using h
    subst e1
    rw [hc.row] at hg
    simp at hg
    exact hne hg.2.symm
end
theorem grown_alloc {w w1 : World} {o : Obj} {r : Option Nat} (h : (w.alloc o).grownBy w1 r) : w.grownBy w1 r := grown_trans' (World.grownBy_alloc w o r) h
theorem grown_drew {w w1 : World} {r : Option Nat} (h : w.drew.grownBy w1 r) : w.grownBy w1 r := ⟨h.os, h.tape, h.output, h.size, h.block⟩
theorem OwnI.grown {w w' : World} {lo hi : Nat} {v : Value} {xs : List Int} {r : Option Nat} (h : OwnI w lo hi v xs) (hg : w.grownBy w' r) (hr : ∀ k, r = some k → k < lo ∨ hi ≤ k) : OwnI w' lo hi v xs :=
  ⟨h.has.of_same fun k hk => hg.block k (h.has.lt k hk).2 (fun e => by have := h.range k hk; have := hr k e.symm; omega), h.lt, Nat.le_trans h.le hg.size⟩
/-- A write into a block that is not the slice's. -/
theorem OwnI.set {w : World} {lo hi : Nat} {v : Value} {xs : List Int} (h : OwnI w lo hi v xs) {a : Addr} (ha : v.ownBlock ≠ some a.block) (u : Value) : OwnI (w.setCell a u) lo hi v xs :=
  ⟨h.has.of_same fun k hk => by
    have : a.block ≠ k := fun e => ha (by rw [hk, e])
    simp [World.setCell, Array.getElem?_modify, this], h.lt, by simpa [World.setCell] using h.le⟩
theorem OwnRows.set {w : World} {lo hi : Nat} {us : List Value} {rows : List (List Int)} (h : OwnRows w lo hi us rows) {a : Addr} (ha : ∀ u ∈ us, u.ownBlock ≠ some a.block) (x : Value) : OwnRows (w.setCell a x) lo hi us rows :=
  ⟨h.len, fun i u r hu hr => (h.row i u r hu hr).set (ha u (List.mem_of_getElem? hu)) x, h.apart⟩
theorem Has.set {α : Type} {enc : α → Value} {e : TypeId} {w : World} {base : Nat} {v : Value} {xs : List α} (h : Has enc e w base v xs) {a : Addr} (ha : v.ownBlock ≠ some a.block) (u : Value) : Has enc e (w.setCell a u) base v xs :=
  h.of_same fun k hk => by
    have : a.block ≠ k := fun e => ha (by rw [hk, e])
    simp [World.setCell, Array.getElem?_modify, this]
/-- No row lies in a struct's block. -/
theorem OwnRows.ne_c3 {w : World} {lo hi : Nat} {us : List Value} {rows : List (List Int)} (h : OwnRows w lo hi us rows) {b : Nat} {t : TypeId} {x y z : Value} (hc : Cells3 w b t x y z) (hne : (3 : Nat) ≠ t) : ∀ u ∈ us, u.ownBlock ≠ some b := fun u hu => by
  obtain ⟨i, hi⟩ := List.getElem?_of_mem hu
  obtain ⟨r, hr⟩ : ∃ r, rows[i]? = some r := ⟨_, List.getElem?_eq_getElem (by rw [← h.len]; exact (List.getElem?_eq_some_iff.1 hi).1)⟩
  exact has_ne_c3 (h.row i u r hi hr).has hc hne
/-- A slice beside rows, in an interval that does not meet theirs. -/
theorem OwnRows.snoc_apart {w : World} {lo hi lo' hi' L H : Nat} {us : List Value} {rows : List (List Int)} {u : Value} {r : List Int} (h : OwnRows w lo hi us rows) (hu : OwnI w lo' hi' u r) (hd : hi ≤ lo' ∨ hi' ≤ lo) (h1 : L ≤ lo) (h2 : L ≤ lo') (h3 : hi ≤ H) (h4 : hi' ≤ H) (h5 : H ≤ w.heap.size) : OwnRows w L H (us ++ [u]) (rows ++ [r]) := by
  refine ⟨by simp [h.len], fun i x y hx hy => ?_, fun i j x x' hx hx' hij => ?_⟩
  · by_cases hi' : i < us.length
    · rw [List.getElem?_append_left hi'] at hx
      rw [List.getElem?_append_left (by rw [← h.len]; exact hi')] at hy
      exact (h.row i x y hx hy).mono h1 h3 h5
    · have e1 : i = us.length := by have := (List.getElem?_eq_some_iff.1 hx).1; simp at this; omega
      subst e1
      rw [List.getElem?_append_right (Nat.le_refl _)] at hx
      rw [h.len, List.getElem?_append_right (Nat.le_refl _)] at hy
      simp at hx hy
      subst hx; subst hy
      exact hu.mono h2 h4 h5
  · have old : ∀ (i : Nat) (x : Value), us[i]? = some x → ∀ k, x.ownBlock = some k → lo ≤ k ∧ k < hi := fun i x hx k hk => by
      obtain ⟨r', hr'⟩ : ∃ r', rows[i]? = some r' := ⟨_, List.getElem?_eq_getElem (by rw [← h.len]; exact (List.getElem?_eq_some_iff.1 hx).1)⟩
      exact (h.row i x r' hx hr').range k hk
    have new : ∀ k, u.ownBlock = some k → lo' ≤ k ∧ k < hi' := fun k hk => hu.range k hk
    have at_ : ∀ (i : Nat) (x : Value), (us ++ [u])[i]? = some x → (i < us.length ∧ us[i]? = some x) ∨ (i = us.length ∧ x = u) := fun i x hx => by
      by_cases hi' : i < us.length
      · rw [List.getElem?_append_left hi'] at hx
        exact .inl ⟨hi', hx⟩
      · have e1 : i = us.length := by have := (List.getElem?_eq_some_iff.1 hx).1; simp at this; omega
        subst e1
        rw [List.getElem?_append_right (Nat.le_refl _)] at hx
        simp at hx
        exact .inr ⟨rfl, hx.symm⟩
    rcases at_ i x hx with ⟨h1, h2⟩ | ⟨h1, rfl⟩ <;> rcases at_ j x' hx' with ⟨h3, h4⟩ | ⟨h3, rfl⟩
    · exact h.apart i j x x' h2 h4 hij
    · cases hb : x.ownBlock with
      | none => exact .inl rfl
      | some k =>
        refine .inr fun e => ?_
        have := old i x h2 k hb
        have := new k e.symm
        omega
    · cases hb : x.ownBlock with
      | none => exact .inl rfl
      | some k =>
        refine .inr fun e => ?_
        have := old j x' h4 k e.symm
        have := new k hb
        omega
    · omega
/-- A sequence whose terms were laid ahead of its rows. -/
theorem OwnS.make_out {w : World} {base lo mid hi : Nat} {vn vo : Value} {us : List Value} {b : Int} {rows : List (List Int)} {out : List Int} (ho : OwnI w lo mid vo out) (h : OwnR w mid hi vn us rows) (h0 : base ≤ lo) (h1 : lo ≤ mid) (h2 : mid ≤ hi) :
    OwnS w base hi (.agg #[.int .i64 b, vn, vo]) b rows out :=
  ⟨vn, vo, us, rfl, ⟨h.top.mono (Nat.le_trans h0 h1), h.lt, h.le, h.rows.lower (Nat.le_trans h0 h1)⟩, h.rows.snoc_apart ho (.inr (Nat.le_refl _)) (Nat.le_trans h0 h1) h0 (Nat.le_refl _) h2 h.le⟩
end Go.Proofs.YtfpdikohlafpiaaGreat.Plain
