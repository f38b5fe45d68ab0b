/- A morphism as lists, and the contracts of the exact laws' own helpers on morphisms: its size, copying one, comparing two that are equal, writing marks into one, asking for the marks; a morphism that came in. No conditions beyond those that each states. -/
import Derived.Test.YtfpdikohlafpiaaGreatSeqSz
import Derived.Test.YtfpdikohlafpiaaGreatSeqTo
import Derived.Test.YtfpdikohlafpiaaGreatSeqEq
import Derived.Test.YtfpdikohlafpiaaGreatSeqHeld
import Derived.Test.YtfpdikohlafpiaaGreatSeqOpen
import Derived.Outline
namespace Go.Proofs.YtfpdikohlafpiaaGreat.Plain
open Go.RowKit
/-- Block b holds one cell. -/
structure Cells1 (w : World) (b : Nat) (t : TypeId) (x : Value) : Prop where
  row : w.heap[b]? = some (.cells #[x] t (0, 0))
section
variable {w w' : World} {b : Nat} {t : TypeId} {x : Value}
theorem Cells1.c0 (h : Cells1 w b t x) : w.cell? ⟨b, 0, none⟩ = some x := by simp [World.cell?, h.row]
theorem Cells1.f (h : Cells1 w b t x) (o : Nat) : w.frozen? ⟨b, o, none⟩ = false := frozen_of_row w b o _ t h.row
theorem Cells1.lt (h : Cells1 w b t x) : b < w.heap.size := by
  have h1 := h.row
  rw [Array.getElem?_eq_some_iff] at h1
  exact h1.1
theorem Cells1.new (w : World) (t : TypeId) (x : Value) : Cells1 (w.alloc (.cells #[x] t)) w.heap.size t x := ⟨heap_alloc_new w _⟩
theorem Cells1.below (h : Cells1 w b t x) (hb : Below w.heap.size w w') : Cells1 w' b t x := ⟨(hb.block b h.lt).trans h.row⟩
theorem Cells1.alloc (h : Cells1 w b t x) (o : Obj) : Cells1 (w.alloc o) b t x := h.below ((Below.refl _ _).alloc (Nat.le_refl _) _)
theorem Cells1.set0 (h : Cells1 w b t x) (v : Value) : Cells1 (w.setCell ⟨b, 0, none⟩ v) b t v := by
  have hlt := h.lt
  have h' : w.heap[b] = .cells #[x] t (0, 0) := by simpa [Array.getElem?_eq_getElem hlt] using h.row
  refine ⟨?_⟩
  show (w.heap.modify b _)[b]? = _
  rw [Array.getElem?_eq_getElem (by simpa using hlt), Array.getElem_modify_self, h']
  rfl
theorem Cells1.other (h : Cells1 w b t x) {a : Addr} (ha : a.block ≠ b) (v : Value) : Cells1 (w.setCell a v) b t x := by
  refine ⟨?_⟩
  rw [← h.row]
  simp [World.setCell, Array.getElem?_modify, ha]
theorem Cells1.touch {lo hi : Nat} (h : Cells1 w b t x) (ht : Plain.Touch lo hi w w') (hn : b < lo ∨ hi ≤ b) : Cells1 w' b t x := ⟨(ht.block b h.lt hn).trans h.row⟩
theorem Cells1.grown {row : Option Nat} (h : Cells1 w b t x) (hg : w.grownBy w' row) (hn : row ≠ some b) : Cells1 w' b t x := ⟨(hg.block b h.lt (Ne.symm hn)).trans h.row⟩
end
/-- In w the value v is the morphism with these images. -/
def LiesM (w : World) (v : Value) (m : List (List Int)) : Prop := ∃ vn, v = .agg #[vn] ∧ LiesR w vn m
/-- The morphism v is the call's own, whole, in the blocks from lo to hi. -/
def OwnM (w : World) (lo hi : Nat) (v : Value) (m : List (List Int)) : Prop := ∃ vn us, v = .agg #[vn] ∧ OwnR w lo hi vn us m
section
variable {w w' : World} {lo hi : Nat} {v : Value} {m : List (List Int)}
theorem LiesM.below (h : LiesM w v m) (hb : Below w.heap.size w w') : LiesM w' v m := by
  obtain ⟨vn, h1, h2⟩ := h
  exact ⟨vn, h1, h2.below hb⟩
theorem LiesM.form (h : LiesM w v m) : ∃ an cn, v = .agg #[.slice an m.length cn] := by
  obtain ⟨vn, rfl, h2⟩ := h
  obtain ⟨a, c, rfl, _⟩ := h2.row
  exact ⟨a, c, rfl⟩
theorem LiesM.rows {u : Value} (h : LiesM w (.agg #[u]) m) : LiesR w u m := by
  obtain ⟨vn, h1, h2⟩ := h
  injection h1 with h1
  simp only [Array.mk.injEq, List.cons.injEq, and_true] at h1
  rw [h1]
  exact h2
theorem OwnM.lies (h : OwnM w lo hi v m) : LiesM w v m := by
  obtain ⟨vn, us, h1, h2⟩ := h
  exact ⟨vn, h1, h2.lies⟩
theorem OwnM.form (h : OwnM w lo hi v m) : ∃ an cn, v = .agg #[.slice an m.length cn] := h.lies.form
theorem OwnM.below (h : OwnM w lo hi v m) (hb : Below w.heap.size w w') : OwnM w' lo hi v m := by
  obtain ⟨vn, us, h1, h2⟩ := h
  exact ⟨vn, us, h1, h2.below hb⟩
theorem OwnM.touch {lo' hi' : Nat} (h : OwnM w lo hi v m) (ht : Touch lo' hi' w w') (hd : hi ≤ lo' ∨ hi' ≤ lo) : OwnM w' lo hi v m := by
  obtain ⟨vn, us, h1, h2⟩ := h
  exact ⟨vn, us, h1, h2.touch ht hd⟩
end
/-- The morphism is the call's own, wherever it lies. -/
def OwnedM (w : World) (v : Value) (m : List (List Int)) : Prop := ∃ lo hi, OwnM w lo hi v m
theorem OwnedM.lies {w : World} {v : Value} {m : List (List Int)} (h : OwnedM w v m) : LiesM w v m := by
  obtain ⟨lo, hi, h⟩ := h
  exact h.lies
theorem OwnedM.below {w w' : World} {v : Value} {m : List (List Int)} (h : OwnedM w v m) (hb : Below w.heap.size w w') : OwnedM w' v m := by
  obtain ⟨lo, hi, h⟩ := h
  exact ⟨lo, hi, h.below hb⟩
theorem Has.cap {α : Type} {enc : α → Value} {e : TypeId} {w : World} {base n c : Nat} {a : Option Addr} {xs : List α} (h : Has enc e w base (.slice a n c) xs) : xs.length ≤ c := by
  rcases h.2 with ⟨hv, hn⟩ | ⟨g, cap, cur, hv, _, _, hc, _⟩
  · omega
  · injection hv with e1 e2 e3
    omega
/-- A row of a morphism of the call's own: it has room for its letters. -/
theorem OwnedM.row {w : World} {a : Option Addr} {n c : Nat} {m : List (List Int)} {i : Nat} {r : List Int} (h : OwnedM w (.agg #[.slice a n c]) m) (hr : m[i]? = some r) : ∃ b off ua uc, a = some ⟨b, off, none⟩ ∧ w.cell? ⟨b, off + i, none⟩ = some (.slice ua r.length uc) ∧ Lies (Value.int .i64) w (.slice ua r.length uc) r ∧ r.length ≤ uc := by
  obtain ⟨lo, hi, vn, us, hv, ho⟩ := h
  injection hv with hv
  simp only [Array.mk.injEq, List.cons.injEq, and_true] at hv
  subst hv
  have hil : i < us.length := by rw [ho.rows.len]; exact (List.getElem?_eq_some_iff.1 hr).1
  have hu := ho.rows.row i _ r (List.getElem?_eq_getElem hil) hr
  obtain ⟨_, a', c', hv, _, hc⟩ := ho.top.lies
  injection hv with e1 e2 e3
  subst e1
  obtain ⟨b, off, h1, h2⟩ := hc i _ (List.getElem?_eq_getElem hil)
  obtain ⟨ua, uc, h3⟩ := hu.has.form
  rw [h3.1] at hu
  have h2' : w.cell? ⟨b, off + i, none⟩ = some us[i] := h2
  rw [h3.1] at h2'
  exact ⟨b, off, ua, uc, h1, h2', hu.lies, hu.has.cap⟩
/-- A call that hands back a new morphism; a new morphism and a bool; a new slice of ints and a bool. -/
def GivesM (m : List (List Int)) (w : World) (en : Ending) (w' : World) : Prop := ∃ v, en = .returned v ∧ OwnM w' w.heap.size w'.heap.size v m ∧ Below w.heap.size w w'
def GivesMK (m : List (List Int)) (k : Bool) (w : World) (en : Ending) (w' : World) : Prop := ∃ v, en = .returned (.tuple #[v, .bool k]) ∧ OwnM w' w.heap.size w'.heap.size v m ∧ Below w.heap.size w w'
def GivesIK (xs : List Int) (k : Bool) (w : World) (en : Ending) (w' : World) : Prop := ∃ v, en = .returned (.tuple #[v, .bool k]) ∧ Has (Value.int .i64) 3 w' w.heap.size v xs ∧ Below w.heap.size w w'
end Go.Proofs.YtfpdikohlafpiaaGreat.Plain
namespace Go.Proofs.YtfpdikohlafpiaaGreat
open Go.ChangeShapes Go.WideShapes Go.ChangeAt Go.RowKit
open Go.PlainAid Plain
set_option linter.unusedVariables false
namespace Mor
open Seqs Ints
theorem open_agg1 {H : Type} {enc : TypeId × Value → H} {P : Program} {w : World} {base : Nat} {spare : FuncId → Bool} {held : Bool} {r : Reach} {b0 : Nat} {t : TypeId} {f0 : Field} {v : Value} {d : DataW H} {p : List MemPlace} (hs : P.underlying t = some (.struct #[f0])) (ho : f0.offset = 0) (h1 : P.cellsOf f0.type = 1) (hC : P.cellsOf t = 1)
    (hv : Value.okWide P w r b0 t v) (h : DataW.Trod enc P w base spare held t v d p) : ∃ (v0 : Value) (y0 : DataW H × List MemPlace) (n : Nat), v = .agg #[v0] ∧ DataW.trod enc P w base spare held n f0.type [v0] = some y0 := by
  obtain ⟨cs, rfl, hsz⟩ := okWide_struct hs hv
  obtain ⟨l⟩ := cs
  obtain ⟨c0, rfl⟩ : ∃ c, l = [c] := List.length_eq_one_iff.1 (hsz.trans hC)
  obtain ⟨fuel, hf⟩ := h
  obtain ⟨xs, n, _, _, _, hlen, hx⟩ := DataW.trod_struct hs hf
  obtain ⟨y0, rfl⟩ : ∃ y, xs = [y] := List.length_eq_one_iff.1 hlen
  have h0 := hx 0 f0 rfl
  rw [ho, h1] at h0
  exact ⟨c0, y0, n, rfl, by simpa [Value.cells] using h0⟩
end Mor
end Go.Proofs.YtfpdikohlafpiaaGreat
