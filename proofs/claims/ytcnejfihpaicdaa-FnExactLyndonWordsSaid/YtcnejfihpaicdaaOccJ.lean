/- Contracts of the program's OccurrencesOf and IsFactor. No conditions beyond those that each states. -/
import Derived.Test.YtcnejfihpaicdaaOccI
import Derived.Deep.RegionHeld3
import Derived.Deep.DeepCutAuto
namespace Go.Proofs.Ytcnejfihpaicdaa
open Go.ChangeShapes Go.WideShapes Go.ChangeAt Go.RowKit
open Go.PlainAid Plain
set_option linter.unusedVariables false
namespace Fac
open Seqs
/-- The part stands at the end of the first e letters: one more place. -/
theorem mt_case {u t : List Int} : (mt u t (u.length + 1) = u.length ∧ u <:+ t ∧ mt u t u.length = bd u u.length) ∨ (mt u t (u.length + 1) < u.length ∧ ¬ u <:+ t ∧ mt u t u.length = mt u t (u.length + 1)) := by
  have h := mt_range u t
  by_cases hu : u <:+ t
  · exact .inl ⟨(mt_full hu).1, hu, (mt_full hu).2⟩
  · refine .inr ⟨?_, hu, (mt_not hu).symm⟩
    rcases Int.lt_or_eq_of_le h.2 with h1 | h1
    · exact h1
    · exact absurd (mt_is h1) hu
theorem mt_lt (u t : List Int) : -1 ≤ mt u t u.length ∧ mt u t u.length < u.length := gr_ge _ _
theorem mt_step {u w : List Int} {e : Nat} {x : Int} (hx : w[e]? = some x) : fa u (mt u (w.take e) u.length) x = mt u (w.take (e + 1)) (u.length + 1) := by
  obtain ⟨h1, h2⟩ := List.getElem?_eq_some_iff.1 hx
  rw [List.take_succ_eq_append_getElem h1, h2, mt_snoc]
theorem suf_len {u w : List Int} {e : Nat} (h : u <:+ w.take e) : u.length ≤ e := by
  have := h.length_le
  rw [List.length_take] at this
  omega
end Fac
end Go.Proofs.Ytcnejfihpaicdaa
