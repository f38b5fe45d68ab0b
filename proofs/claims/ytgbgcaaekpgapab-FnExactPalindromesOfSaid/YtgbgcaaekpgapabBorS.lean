/- Contracts of the model's borders, periods and root of a word. No conditions beyond those that each states. -/
import Derived.Test.YtgbgcaaekpgapabBorVal
import Derived.Test.YtgbgcaaekpgapabCmp
import Derived.BigQuiet
import Derived.Deep.RegionHeld3
import Derived.Deep.DeepCutAuto
namespace Go.Proofs.Ytgbgcaaekpgapab
open Go.ChangeShapes Go.WideShapes Go.ChangeAt Go.RowKit
open Go.PlainAid Plain
set_option linter.unusedVariables false
namespace Fac
/-- The longest borders of the first 1, 2, .. letters. -/
def blT (u : List Int) (i : Nat) : List Int := (List.range i).map fun k => bd u (k + 1)
theorem blT_at (u : List Int) {i j : Nat} (h : j < i) : (blT u i)[j]? = some (bd u (j + 1)) := by simp [blT, h]
theorem blT_len (u : List Int) (i : Nat) : (blT u i).length = i := by simp [blT]
theorem blT_succ (u : List Int) (i : Nat) : blT u (i + 1) = blT u i ++ [bd u (i + 1)] := by simp [blT, List.range_succ]
theorem lies_cell {w : World} {a : Option Addr} {n c : Nat} {xs : List Int} {i : Nat} {x : Int} (h : Lies (Value.int .i64) w (.slice a n c) xs) (hx : xs[i]? = some x) : ∃ b off, a = some ⟨b, off, none⟩ ∧ w.cell? ⟨b, off + i, none⟩ = some (.int .i64 x) := by
  obtain ⟨_, a', c', hv, _, hc⟩ := h
  injection hv with e1 e2 e3
  subst e1
  exact hc i x hx
theorem lies_shape {w : World} {v : Value} {xs : List Int} (h : Lies (Value.int .i64) w v xs) : ∃ a c, v = .slice a xs.length c := by
  obtain ⟨_, a, c, rfl, _⟩ := h
  exact ⟨a, c, rfl⟩
end Fac
end Go.Proofs.Ytgbgcaaekpgapab
