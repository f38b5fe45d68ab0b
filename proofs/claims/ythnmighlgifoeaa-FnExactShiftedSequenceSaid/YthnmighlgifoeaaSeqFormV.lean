/- Prepared and minimal forms keep the shape of a sequence. No conditions beyond those that each states. -/
import Derived.Test.YthnmighlgifoeaaSeqForms
namespace Go.Proofs.Ythnmighlgifoeaa
open Go.ChangeShapes Go.WideShapes Go.ChangeAt Go.RowKit
open Go.PlainAid Plain
set_option linter.unusedVariables false
namespace Mins
open Seqs
theorem raise_mem {r : List Int} {y : Int} (h : y ∈ raise r) : ∃ x ∈ r, y = x + 1 := by
  obtain ⟨x, hx, rfl⟩ := List.mem_map.1 h
  exact ⟨x, hx, rfl⟩
theorem steady_valid {b : Int} {rows : List (List Int)} {out : List Int} (hv : IsSeq b rows out) (hl : rows.length < 16) : IsSeq b (steadyRows rows) (steadyOut out) := by
  have h1 := hv.2.2.1
  have h5 := hv.2.2.2.2.1
  have h0 : rows.getD 0 [] ∈ rows := by
    rw [List.getD_eq_getElem?_getD, List.getElem?_eq_getElem (show 0 < rows.length by omega)]
    exact List.getElem_mem _
  have hb0 := hv.2.2.2.2.2.1 _ h0
  have hlen : (steadyRows rows).length = rows.length + 1 := by simp [steadyRows]
  have b2 := hv.1
  refine ⟨hv.1, hv.2.1, by omega, by omega, by rw [hlen]; simp [steadyOut]; omega, fun r hr => ?_, fun x hx => ?_⟩
  · rw [hlen]
    simp only [steadyRows, List.mem_cons, List.mem_map] at hr
    rcases hr with rfl | ⟨q, hq, rfl⟩
    · refine ⟨?_, fun x hx => ?_⟩
      · rw [List.length_cons, raise_len, List.length_drop]
        omega
      · rw [List.mem_cons] at hx
        rcases hx with rfl | hx
        · omega
        · obtain ⟨y, hy, rfl⟩ := raise_mem hx
          have := hb0.2 y (List.mem_of_mem_drop hy)
          omega
    · have hq' := hv.2.2.2.2.2.1 q hq
      refine ⟨by rw [raise_len]; exact hq'.1, fun x hx => ?_⟩
      obtain ⟨y, hy, rfl⟩ := raise_mem hx
      have := hq'.2 y hy
      omega
  · simp only [steadyOut, List.mem_cons] at hx
    rcases hx with rfl | hx
    · exact hv.2.2.2.2.2.2 _ (by
        rw [List.getD_eq_getElem?_getD, List.getElem?_eq_getElem (show 0 < out.length by omega)]
        exact List.getElem_mem _)
    · exact hv.2.2.2.2.2.2 x hx
theorem form_valid {b : Int} {rows : List (List Int)} {out : List Int} (h : formK b rows out = true) : IsSeq (formB b rows out) (formR b rows out) (formO b rows out) := by
  rcases form_parts b rows out with ⟨hs, _, h1, h2, h3⟩ | ⟨hk, _⟩ | ⟨hq, _, hl, _, h1, h2, h3⟩
  · rw [h1, h2, h3]
    rw [steadyB, Bool.and_eq_true] at hs
    exact seqB_out hs.1
  · rw [h] at hk
    cases hk
  · rw [h1, h2, h3]
    exact steady_valid (seqB_out hq) hl
end Mins
end Go.Proofs.Ythnmighlgifoeaa
