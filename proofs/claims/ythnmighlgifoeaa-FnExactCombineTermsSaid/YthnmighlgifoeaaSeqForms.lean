/- Contracts of SteadyForm, of the program and of the model, at every sequence that may be copied. No conditions beyond those that each states. -/
import Derived.Test.YthnmighlgifoeaaSeqFormI
import Derived.Test.YthnmighlgifoeaaSeqFormS
namespace Go.Proofs.Ythnmighlgifoeaa
open Go.ChangeShapes Go.WideShapes Go.ChangeAt Go.RowKit
open Go.PlainAid Plain
set_option linter.unusedVariables false
namespace Seqs
theorem form_parts (b : Int) (rows : List (List Int)) (out : List Int) :
    (steadyB b rows out = true ∧ formK b rows out = true ∧ formB b rows out = b ∧ formR b rows out = rows ∧ formO b rows out = out) ∨
    (formK b rows out = false ∧ formB b rows out = 0 ∧ formR b rows out = [] ∧ formO b rows out = []) ∨
    (seqB b rows out = true ∧ steadyB b rows out = false ∧ rows.length < 16 ∧ formK b rows out = true ∧ formB b rows out = b ∧ formR b rows out = steadyRows rows ∧ formO b rows out = steadyOut out) := by
  cases hs : steadyB b rows out with
  | true =>
    have hk : formK b rows out = true := by simp [formK, hs]
    exact .inl ⟨rfl, hk, by simp [formB, hk], by simp [formR, hs], by simp [formO, hs]⟩
  | false =>
    cases hk : formK b rows out with
    | false => exact .inr (.inl ⟨rfl, by simp [formB, hk], by simp [formR, hs, hk], by simp [formO, hs, hk]⟩)
    | true =>
      have h1 := hk
      simp only [formK, hs, Bool.false_or, Bool.and_eq_true, decide_eq_true_eq] at h1
      exact .inr (.inr ⟨h1.1, rfl, h1.2, rfl, by simp [formB, hk], by simp [formR, hs, hk], by simp [formO, hs, hk]⟩)
theorem tot_le4 : ∀ rows : List (List Int), (∀ r ∈ rows, r.length ≤ 4) → tot rows ≤ 4 * rows.length
  | [], _ => by simp [tot]
  | r :: rows, h => by
    have h1 := tot_le4 rows (fun x hx => h x (by simp [hx]))
    have h2 := h r (by simp)
    have h3 : tot (r :: rows) = r.length + tot rows := by simp [tot]
    rw [h3, List.length_cons]
    omega
theorem seq_rows4 {b : Int} {rows : List (List Int)} {out : List Int} (h : seqB b rows out = true) : (∀ r ∈ rows, r.length ≤ 4) ∧ rows.length ≤ 16 ∧ out.length ≤ 16 := by
  have hv := seqB_out h
  refine ⟨fun r hr => ?_, hv.2.2.2.1, by have := hv.2.2.2.1; have := hv.2.2.2.2.1; omega⟩
  have := (hv.2.2.2.2.2.1 r hr).1
  have := hv.2.1
  omega
theorem form_size (b : Int) (rows : List (List Int)) (out : List Int) : tot (formR b rows out) + (formO b rows out).length ≤ 1000 := by
  rcases form_parts b rows out with ⟨hs, _, _, hr, ho⟩ | ⟨_, _, hr, ho⟩ | ⟨hq, _, hl, _, _, hr, ho⟩
  · rw [hr, ho]
    have hq : seqB b rows out = true := by rw [steadyB, Bool.and_eq_true] at hs; exact hs.1
    have h1 := seq_rows4 hq
    have h2 := tot_le4 rows h1.1
    omega
  · rw [hr, ho]
    simp [tot]
  · rw [hr, ho]
    have h1 := seq_rows4 hq
    have h0 : (rows.getD 0 []).length ≤ 4 := by
      cases rows with
      | nil => simp
      | cons r l => simpa using h1.1 r (by simp)
    have h2 : tot (steadyRows rows) ≤ 4 * (steadyRows rows).length := tot_le4 _ (fun r hr => by
      simp only [steadyRows, List.mem_cons, List.mem_map] at hr
      rcases hr with rfl | ⟨x, hx, rfl⟩
      · have hv := seqB_out hq
        have h5 := hv.1
        have h6 := hv.2.2.1
        have h7 : 1 ≤ (rows.getD 0 []).length := by
          cases rows with
          | nil => simp at h6
          | cons r l =>
            have := (hv.2.2.2.2.2.1 r (by simp)).1
            simp
            omega
        rw [List.length_cons, raise_len, List.length_drop]
        omega
      · rw [raise_len]
        exact h1.1 x hx)
    have h3 : (steadyRows rows).length = rows.length + 1 := by simp [steadyRows]
    have h4 : (steadyOut out).length = out.length + 1 := by simp [steadyOut]
    omega
theorem spec_form (v : Value) (b : Int) (rows : List (List Int)) (out : List Int) (w : World) (h : LiesS w v b rows out) (hs : rows.length + tot rows + out.length ≤ 1048576) :
    Calls Try.prog 51 #[v] w (GivesK (formB b rows out) (formR b rows out) (formO b rows out) (formK b rows out) w) := by
  rcases form_parts b rows out with ⟨h1, h2, h3, h4, h5⟩ | ⟨h2, h3, h4, h5⟩ | ⟨hq, h1, hl, h2, h3, h4, h5⟩
  · rw [h2, h3, h4, h5]
    exact spec_form_same v b rows out w h h1 hs
  · rw [h2, h3, h4, h5]
    exact spec_form_no v b rows out w h h2
  · rw [h2, h3, h4, h5]
    exact spec_form_make v b rows out w h hq h1 hl
theorem impl_form (v : Value) (b : Int) (rows : List (List Int)) (out : List Int) (w : World) (h : LiesS w v b rows out) (hs : rows.length + tot rows + out.length ≤ 1048576) :
    Calls Try.prog 52 #[v] w (GivesK (formB b rows out) (formR b rows out) (formO b rows out) (formK b rows out) w) := by
  rcases form_parts b rows out with ⟨h1, h2, h3, h4, h5⟩ | ⟨h2, h3, h4, h5⟩ | ⟨hq, h1, hl, h2, h3, h4, h5⟩
  · rw [h2, h3, h4, h5]
    exact impl_form_same v b rows out w h h1 hs
  · rw [h2, h3, h4, h5]
    exact impl_form_no v b rows out w h h2
  · rw [h2, h3, h4, h5]
    exact impl_form_make v b rows out w h hq h1 hl hs
end Seqs
end Go.Proofs.Ythnmighlgifoeaa
