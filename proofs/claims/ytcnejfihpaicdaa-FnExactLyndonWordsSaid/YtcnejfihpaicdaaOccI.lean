/- Contracts of the program's search for a part, OccurrencesOf and IsFactor. No conditions beyond those that each states. -/
import Derived.Test.YtcnejfihpaicdaaCmp
import Derived.Test.YtcnejfihpaicdaaCellsN2
import Derived.Deep.RegionHeld3
import Derived.Deep.DeepCutAuto
namespace Go.Proofs.Ytcnejfihpaicdaa
open Go.ChangeShapes Go.WideShapes Go.ChangeAt Go.RowKit
open Go.PlainAid Plain
set_option linter.unusedVariables false
namespace Fac
open Seqs
theorem has_set {α : Type} {enc : α → Value} {e : TypeId} {w : World} {base b o : Nat} {v : Value} {xs : List α} (h : Has enc e w base v xs) (hn : v.ownBlock ≠ some b) (x : Value) : Has enc e (w.setCell ⟨b, o, none⟩ x) base v xs :=
  h.of_same fun k hk => by
    have : b ≠ k := fun e => hn (by rw [hk, e])
    simp [World.setCell, Array.getElem?_modify, this]
/-- The borders of the first letters. -/
def bdT (u : List Int) (i : Nat) : List Int := (List.range (i + 1)).map (bd u)
theorem bdT_at (u : List Int) {i j : Nat} (h : j ≤ i) : (bdT u i)[j]? = some (bd u j) := by simp [bdT, show j < i + 1 from by omega]
theorem bdT_len (u : List Int) (i : Nat) : (bdT u i).length = i + 1 := by simp [bdT]
theorem bdT_succ (u : List Int) (i : Nat) : bdT u (i + 1) = bdT u i ++ [bd u (i + 1)] := by simp [bdT, List.range_succ (n := i + 1)]
theorem lies_some {w : World} {a : Option Addr} {n c : Nat} {xs : List Int} {i : Nat} {x : Int} (h : Lies (Value.int .i64) w (.slice a n c) xs) (hx : xs[i]? = some x) : ∃ b off, a = some ⟨b, off, none⟩ ∧ w.cell? ⟨b, off + i, none⟩ = some (.int .i64 x) := by
  obtain ⟨_, a', c', hv, _, hc⟩ := h
  injection hv with e1 e2 e3
  subst e1
  exact hc i x hx
theorem lies_form {w : World} {v : Value} {xs : List Int} (h : Lies (Value.int .i64) w v xs) : ∃ a c, v = .slice a xs.length c := by
  obtain ⟨_, a, c, rfl, _⟩ := h
  exact ⟨a, c, rfl⟩
/-- What newFinder hands back: the part itself and its borders in a slice of the call's own. -/
def GivesF (vp : Value) (u : List Int) (w : World) (e : Ending) (w' : World) : Prop := ∃ vb, e = .returned (.agg #[vp, vb]) ∧ Has (Value.int .i64) 3 w' w.heap.size vb (bdT u u.length) ∧ Below w.heap.size w w'
end Fac
end Go.Proofs.Ytcnejfihpaicdaa
