/- Contracts of IsWord, of the model and of the program, and of the library's search with the program's two tests. No conditions beyond those that each states. -/
import Derived.Test.YtcnejfihpaicdaaWordVal
import Derived.Test.YtcnejfihpaicdaaCommon
import Derived.Test.YtcnejfihpaicdaaSeqSz
import Derived.Outline
import Derived.OneCell
import Derived.Shelf.Abstract
namespace Go.Proofs.Ytcnejfihpaicdaa
open Go.ChangeShapes Go.WideShapes Go.ChangeAt Go.RowKit
open Go.PlainAid Plain
set_option linter.unusedVariables false
namespace Mor
open Seqs
/-- Where a test holds first, -1 where it never does. -/
def firstAt (p : Int → Bool) (xs : List Int) : Int := if xs.any p = true then (xs.findIdx p : Int) else -1
theorem first_yes {p : Int → Bool} {xs : List Int} {i : Nat} {x : Int} (hx : xs[i]? = some x) (h : p x = true) (hb : ∀ (j : Nat) (y : Int), j < i → xs[j]? = some y → p y = false) : firstAt p xs = (i : Int) := by
  obtain ⟨hi, hxi⟩ := List.getElem?_eq_some_iff.1 hx
  have : xs.any p = true := List.any_eq_true.2 ⟨x, List.mem_of_getElem? hx, h⟩
  rw [firstAt, if_pos this, (List.findIdx_eq hi).2 ⟨by rw [hxi]; exact h, fun j hj => by rw [hb j _ hj (List.getElem?_eq_getElem (by omega))]⟩]
theorem first_no {p : Int → Bool} {xs : List Int} (h : ∀ (j : Nat) (y : Int), xs[j]? = some y → p y = false) : firstAt p xs = -1 := by
  have : ¬ xs.any p = true := fun ha => by
    obtain ⟨x, hx, hp⟩ := List.any_eq_true.1 ha
    obtain ⟨j, hj⟩ := List.getElem?_of_mem hx
    rw [h j x hj] at hp; cases hp
  rw [firstAt, if_neg this]
theorem first_ge (p : Int → Bool) (xs : List Int) : decide (0 ≤ firstAt p xs) = xs.any p := by
  unfold firstAt
  split
  · rename_i h; rw [h]; simp
  · rename_i h; rw [Bool.eq_false_iff.2 h]; decide
theorem word_any {xs : List Int} {n : Int} (h1 : 1 ≤ n) (h2 : n ≤ 16) (h3 : xs.length ≤ 400) : (!xs.any fun x => (decide (x < 0) || decide (n ≤ x))) = wordB xs n := by
  unfold wordB
  rw [Bool.eq_iff_iff, Bool.not_eq_true', decide_eq_true_iff, Bool.eq_false_iff, ne_eq, List.any_eq_true]
  constructor
  · intro h
    refine ⟨h1, h2, h3, fun x hx => Classical.byContradiction fun hn => h ⟨x, hx, by simp; omega⟩⟩
  · rintro h ⟨x, hx, hd⟩
    have := h.2.2.2 x hx
    simp at hd
    omega
end Mor
end Go.Proofs.Ytcnejfihpaicdaa
