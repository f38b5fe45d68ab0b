/- Blocks that are known whole, apart by their types; such a block as a slice of the call's own. No conditions beyond those that each fact states. -/
import Derived.Test.YtcnejfihpaicdaaCellsN
namespace Go.Proofs.Ytcnejfihpaicdaa.Plain
open Go.RowKit
set_option linter.unusedVariables false
/-- Two blocks of different types are two. -/
theorem CellsN.ne {w : World} {b b' : Nat} {t t' : TypeId} {l l' : List Value} (h : CellsN w b t l) (h' : CellsN w b' t' l') (hne : t ≠ t') : b ≠ b' := fun e => by
  subst e
  have h1 := h.row
  rw [h'.row] at h1
  simp at h1
  exact hne h1.2.symm
theorem CellsN.ne3 {w : World} {b b' : Nat} {t t' : TypeId} {l : List Value} {x y z : Value} (h : CellsN w b t l) (h' : Cells3 w b' t' x y z) (hne : t ≠ t') : b ≠ b' := fun e => by
  subst e
  have h1 := h.row
  rw [h'.row] at h1
  simp at h1
  exact hne h1.2.symm
theorem CellsN.ne_has {w : World} {b base : Nat} {t t' : TypeId} {l : List Value} {α : Type} {enc : α → Value} {v : Value} {xs : List α} (h : CellsN w b t l) (h' : Has enc t' w base v xs) (hne : t ≠ t') : v.ownBlock ≠ some b := by
  rcases h'.2 with ⟨rfl, _⟩ | ⟨g, cap, cur, rfl, _, hg, _⟩
  · intro h; cases h
  · intro e
    have e1 : g = b := by simpa [Value.ownBlock] using e
    subst e1
    have h1 := h.row
    rw [hg] at h1
    simp at h1
    exact hne h1.2.symm
/-- A block that is known whole, as a slice of the call's own. -/
theorem CellsN.has {w : World} {g n base : Nat} {e : TypeId} {α : Type} {enc : α → Value} {xs : List α} (h : CellsN w g e (xs.map enc)) (hn : xs.length = n) (hb : base ≤ g) (hm : n ≤ 1000000) : Has enc e w base (.slice (some ⟨g, 0, none⟩) n n) xs := by
  subst hn
  refine ⟨by simp, .inr ⟨g, xs.length, (xs.map enc).toArray, rfl, hb, h.row, Nat.le_refl _, by unfold maxLen; omega, by simp, by rw [Nat.mul_one]; show (xs.map enc).take xs.length = _; rw [List.take_of_length_le (by simp)]⟩⟩
end Go.Proofs.Ytcnejfihpaicdaa.Plain
