/- The search of the model for a pair in a list: what it has found. No conditions beyond those that each fact states. -/
import Derived.Test.YthnmighlgifoeaaFam
import Derived.Test.YthnmighlgifoeaaSeqEqual
namespace Go.Proofs.Ythnmighlgifoeaa
open Go.ChangeShapes Go.WideShapes Go.ChangeAt Go.RowKit
open Go.PlainAid Plain
set_option linter.unusedVariables false
namespace Comb
open Seqs
def FoundL (L : List Pr) (t : Pr) (k : Nat) (f : Int) : Prop := (f = -1 ∧ ∀ j < k, L[j]? ≠ some t) ∨ ∃ m : Nat, f = (m : Int) ∧ L[m]? = some t
theorem foundL_no {L : List Pr} {t x : Pr} {k : Nat} {f : Int} (hf : FoundL L t k f) (h0 : f < 0) (h : L[k]? = some x) (hx : ¬ x = t) : FoundL L t (k + 1) f := by
  rcases hf with ⟨h1, h2⟩ | ⟨m, rfl, _⟩
  · refine .inl ⟨h1, fun j hj hje => ?_⟩
    by_cases e : j = k
    · subst e
      rw [h] at hje
      exact hx (Option.some.inj hje)
    · exact h2 j (by omega) hje
  · omega
theorem foundL_end {L : List Pr} {t : Pr} {k : Nat} {f : Int} (hn : L.Nodup) (hf : FoundL L t k f) (he : f < 0 → L.length ≤ k) : (f = -1 ∧ t ∉ L) ∨ (0 ≤ f ∧ t ∈ L ∧ (ix L t : Int) = f) := by
  rcases hf with ⟨h1, h2⟩ | ⟨m, rfl, h⟩
  · refine .inl ⟨h1, fun hm => ?_⟩
    obtain ⟨j, hj⟩ := List.getElem?_of_mem hm
    have := (List.getElem?_eq_some_iff.1 hj).1
    exact h2 j (by have := he (by omega); omega) hj
  · exact .inr ⟨Int.natCast_nonneg _, List.mem_of_getElem? h, by rw [idxOf_get hn h]⟩
theorem pl_inj {s t : Pr} (h : pl s = pl t) : s = t := by
  unfold pl at h
  injection h with h1 h2
  injection h2 with h2
  exact Prod.ext h1 h2
theorem same_c {u v : Value} {xs ys : List Int} {w : World} {c : Bool} (h1 : Lies (Value.int .i64) w u xs) (h2 : Lies (Value.int .i64) w v ys) (hc : decide (xs = ys) = c) :
    Calls Try.prog 36 #[u, v] w fun e w' => e = .returned (.bool c) ∧ Below w.heap.size w w' :=
  (same_ints u v xs ys _ h1 h2).mono fun _ _ ⟨he, m, hm⟩ => ⟨by rw [he, hc], by rw [hm]; exact below_drewN (Below.refl _ _) m⟩
theorem has_lit2 {w : World} {base : Nat} (x y : Int) (hb : base ≤ w.heap.size) : Has (Value.int .i64) 3 (w.alloc (.cells #[.int .i64 x, .int .i64 y] 3)) base (.slice (some ⟨w.heap.size, 0, none⟩) 2 2) (pl (x, y)) :=
  Has.lit (enc := Value.int .i64) (e := 3) w (pl (x, y)) hb (by simp [pl])
end Comb
end Go.Proofs.Ythnmighlgifoeaa
