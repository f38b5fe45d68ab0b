/- A struct or an array of one-cell values that lies in a block of its own, told as a list: what it holds, and what stays of it. No conditions beyond those that each fact states. -/
import Derived.Test.YtcnejfihpaicdaaCells3
namespace Go.Proofs.Ytcnejfihpaicdaa.Plain
open Go.RowKit
set_option linter.unusedVariables false
/-- Block b holds these cells. -/
structure CellsN (w : World) (b : Nat) (t : TypeId) (l : List Value) : Prop where
  row : w.heap[b]? = some (.cells l.toArray t (0, 0))
section
variable {w w' : World} {b : Nat} {t : TypeId} {l : List Value}
theorem CellsN.at_ (h : CellsN w b t l) {i : Nat} {x : Value} (hi : l[i]? = some x) : w.cell? ⟨b, i, none⟩ = some x := by simp [World.cell?, h.row, hi]
theorem CellsN.f (h : CellsN w b t l) (o : Nat) : w.frozen? ⟨b, o, none⟩ = false := frozen_of_row w b o _ t h.row
theorem CellsN.lt (h : CellsN w b t l) : b < w.heap.size := by
  have h1 := h.row
  rw [Array.getElem?_eq_some_iff] at h1
  exact h1.1
theorem CellsN.new (w : World) (t : TypeId) (l : List Value) : CellsN (w.alloc (.cells l.toArray t)) w.heap.size t l := ⟨heap_alloc_new w _⟩
theorem CellsN.below (h : CellsN w b t l) (hb : Below w.heap.size w w') : CellsN w' b t l := ⟨(hb.block b h.lt).trans h.row⟩
theorem CellsN.of_below {B : Nat} (h : CellsN w b t l) (hb : Below B w w') (hB : b < B) : CellsN w' b t l := ⟨(hb.block b hB).trans h.row⟩
theorem CellsN.alloc (h : CellsN w b t l) (o : Obj) : CellsN (w.alloc o) b t l := h.below ((Below.refl _ _).alloc (Nat.le_refl _) _)
theorem CellsN.drew (h : CellsN w b t l) : CellsN w.drew b t l := ⟨h.row⟩
theorem CellsN.set (h : CellsN w b t l) (i : Nat) (v : Value) : CellsN (w.setCell ⟨b, i, none⟩ v) b t (l.set i v) := by
  have hlt := h.lt
  have h' : w.heap[b] = .cells l.toArray t (0, 0) := by simpa [Array.getElem?_eq_getElem hlt] using h.row
  refine ⟨?_⟩
  show (w.heap.modify b _)[b]? = _
  rw [Array.getElem?_eq_getElem (by simpa using hlt), Array.getElem_modify_self, h']
  simp
theorem CellsN.other (h : CellsN w b t l) {a : Addr} (ha : a.block ≠ b) (v : Value) : CellsN (w.setCell a v) b t l := by
  refine ⟨?_⟩
  rw [← h.row]
  simp [World.setCell, Array.getElem?_modify, ha]
theorem CellsN.grown {row : Option Nat} (h : CellsN w b t l) (hg : w.grownBy w' row) (hn : row ≠ some b) : CellsN w' b t l := ⟨(hg.block b h.lt (Ne.symm hn)).trans h.row⟩
end
end Go.Proofs.Ytcnejfihpaicdaa.Plain
