/- A pair's slice lies neither in the terms' block nor in the struct's. No conditions beyond those that each fact states. -/
import Derived.Test.YthnmighlgifoeaaFam
namespace Go.Proofs.Ythnmighlgifoeaa.Plain
open Go.RowKit
set_option linter.unusedVariables false
section
variable {w : World} {base hi p : Nat} {b : Int} {vn vo ve : Value} {us es : List Value} {rows : List (List Int)} {prs : List Pr} {out : List Int} {X : List (Value × List Int)}
theorem PM.at_far {i n : Nat} {s : Pr} (h : PM w base hi p b vn vo ve us es rows prs out X) (hs : prs[i]? = some s) {eq eo ec g c : Nat} (hve : ve = .slice (some ⟨eq, eo, none⟩) n ec) (hc0 : w.cell? ⟨eq, eo + i, none⟩ = some (.slice (some ⟨g, 0, none⟩) 2 c)) :
    (vo.ownBlock ≠ some g ∧ g ≠ p) ∧ vo.ownBlock ≠ some eq ∧ eq ≠ p := by
  have hi' : i < es.length := by rw [h.el]; exact (List.getElem?_eq_some_iff.1 hs).1
  obtain ⟨u, hu⟩ : ∃ u, es[i]? = some u := ⟨_, List.getElem?_eq_getElem hi'⟩
  obtain ⟨_, a, ca, hv, _, hc⟩ := h.etop.lies
  obtain ⟨q, o, h1, h2⟩ := hc i u hu
  rw [hve] at hv
  injection hv with e1 _ _
  rw [h1] at e1
  injection e1 with e1
  injection e1 with e1 e2
  subst e1; subst e2
  rw [hc0] at h2
  injection h2 with h2
  have h2' : u = .slice (some ⟨g, 0, none⟩) 2 c := h2.symm
  subst h2'
  have hz : (es.zip (prs.map pl))[i]? = some (.slice (some ⟨g, 0, none⟩) 2 c, pl s) := by
    rw [List.getElem?_zip_eq_some]
    exact ⟨hu, by rw [List.getElem?_map, hs]; rfl⟩
  have hm := List.mem_of_getElem? hz
  have hI : OwnI w base hi (.slice (some ⟨g, 0, none⟩) 2 c) (pl s) := h.fam.own (.slice (some ⟨g, 0, none⟩) 2 c, pl s) (by simp [hm])
  have ha := (List.pairwise_cons.1 (List.pairwise_append.1 h.fam.apart).2.1).1 _ (List.mem_append_right _ hm)
  have ht := h.etop.ne_top h.terms.has
  subst hve
  refine ⟨⟨fun e => ?_, fun e => has_ne_c3 hI.has h.cells (by decide) (by rw [← e]; rfl)⟩, fun e => ?_, fun e => has_ne_c3 h.etop h.cells (by decide) (by rw [← e]; rfl)⟩
  · rcases ha with h3 | h3
    · rw [e] at h3; cases h3
    · exact h3 (by rw [e]; rfl)
  · rcases ht with h3 | h3
    · cases h3
    · exact h3 (by rw [e]; rfl)
end
theorem cell_same {w w' : World} {a : Addr} (h : w'.heap[a.block]? = w.heap[a.block]?) : w'.cell? a = w.cell? a := by simp only [World.cell?, h]
end Go.Proofs.Ythnmighlgifoeaa.Plain
