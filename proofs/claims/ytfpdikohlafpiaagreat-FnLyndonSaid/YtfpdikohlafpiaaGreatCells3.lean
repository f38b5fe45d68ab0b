/- A struct of three cells that lies in a block of its own: what it holds, and what stays of it. No conditions beyond those that each fact states. -/
import Derived.WalkKit
import Derived.OneCell
import Derived.Below
import Derived.Test.YtfpdikohlafpiaaGreatSeqs
namespace Go.Proofs.YtfpdikohlafpiaaGreat.Plain
open Go.RowKit
/-- Block b holds three cells. -/
structure Cells3 (w : World) (b : Nat) (t : TypeId) (x y z : Value) : Prop where
  row : w.heap[b]? = some (.cells #[x, y, z] t (0, 0))
section
variable {w w' : World} {b : Nat} {t : TypeId} {x y z : Value}
theorem Cells3.c0 (h : Cells3 w b t x y z) : w.cell? ⟨b, 0, none⟩ = some x := by simp [World.cell?, h.row]
theorem Cells3.c1 (h : Cells3 w b t x y z) : w.cell? ⟨b, 1, none⟩ = some y := by simp [World.cell?, h.row]
theorem Cells3.c2 (h : Cells3 w b t x y z) : w.cell? ⟨b, 2, none⟩ = some z := by simp [World.cell?, h.row]
theorem Cells3.f (h : Cells3 w b t x y z) (o : Nat) : w.frozen? ⟨b, o, none⟩ = false := frozen_of_row w b o _ t h.row
theorem Cells3.lt (h : Cells3 w b t x y z) : b < w.heap.size := by
  have h1 := h.row
  rw [Array.getElem?_eq_some_iff] at h1
  exact h1.1
theorem Cells3.new (w : World) (t : TypeId) (x y z : Value) : Cells3 (w.alloc (.cells #[x, y, z] t)) w.heap.size t x y z := ⟨heap_alloc_new w _⟩
theorem Cells3.below (h : Cells3 w b t x y z) (hb : Below w.heap.size w w') : Cells3 w' b t x y z := ⟨(hb.block b h.lt).trans h.row⟩
theorem Cells3.alloc (h : Cells3 w b t x y z) (o : Obj) : Cells3 (w.alloc o) b t x y z := h.below ((Below.refl _ _).alloc (Nat.le_refl _) _)
theorem Cells3.set0 (h : Cells3 w b t x y z) (v : Value) : Cells3 (w.setCell ⟨b, 0, none⟩ v) b t v y z := by
  have hlt := h.lt
  have h' : w.heap[b] = .cells #[x, y, z] t (0, 0) := by simpa [Array.getElem?_eq_getElem hlt] using h.row
  refine ⟨?_⟩
  show (w.heap.modify b _)[b]? = _
  rw [Array.getElem?_eq_getElem (by simpa using hlt), Array.getElem_modify_self, h']
  rfl
theorem Cells3.set1 (h : Cells3 w b t x y z) (v : Value) : Cells3 (w.setCell ⟨b, 1, none⟩ v) b t x v z := by
  have hlt := h.lt
  have h' : w.heap[b] = .cells #[x, y, z] t (0, 0) := by simpa [Array.getElem?_eq_getElem hlt] using h.row
  refine ⟨?_⟩
  show (w.heap.modify b _)[b]? = _
  rw [Array.getElem?_eq_getElem (by simpa using hlt), Array.getElem_modify_self, h']
  rfl
theorem Cells3.set2 (h : Cells3 w b t x y z) (v : Value) : Cells3 (w.setCell ⟨b, 2, none⟩ v) b t x y v := by
  have hlt := h.lt
  have h' : w.heap[b] = .cells #[x, y, z] t (0, 0) := by simpa [Array.getElem?_eq_getElem hlt] using h.row
  refine ⟨?_⟩
  show (w.heap.modify b _)[b]? = _
  rw [Array.getElem?_eq_getElem (by simpa using hlt), Array.getElem_modify_self, h']
  rfl
theorem Cells3.other (h : Cells3 w b t x y z) {a : Addr} (ha : a.block ≠ b) (v : Value) : Cells3 (w.setCell a v) b t x y z := by
  refine ⟨?_⟩
  rw [← h.row]
  simp [World.setCell, Array.getElem?_modify, ha]
theorem Cells3.touch {lo hi : Nat} (h : Cells3 w b t x y z) (ht : Plain.Touch lo hi w w') (hn : b < lo ∨ hi ≤ b) : Cells3 w' b t x y z := ⟨(ht.block b h.lt hn).trans h.row⟩
theorem Cells3.grown {row : Option Nat} (h : Cells3 w b t x y z) (hg : w.grownBy w' row) (hn : row ≠ some b) : Cells3 w' b t x y z := ⟨(hg.block b h.lt (Ne.symm hn)).trans h.row⟩
end
theorem size_alloc' (w : World) (o : Obj) : (w.alloc o).heap.size = w.heap.size + 1 := by simp
theorem size_setCell' (w : World) (a : Addr) (v : Value) : (w.setCell a v).heap.size = w.heap.size := by simp [World.setCell]
end Go.Proofs.YtfpdikohlafpiaaGreat.Plain
