/- Plain facts on the model's way to the minimal form: a search over states that looks at their classes. No conditions beyond those that each fact states. -/
import Derived.Test.YthnmighlgifoeaaMinVal
namespace Go.Proofs.Ythnmighlgifoeaa.Plain
set_option linter.unusedVariables false
/-- A state's class. -/
def clsF (rows : List (List Int)) (out : List Int) (s : Int) : Int := (classes rows out).getD s.toNat 0
/-- The states of a search and their classes. -/
def Order (rows : List (List Int)) (out od L : List Int) : Prop := od.map (clsF rows out) = L ∧ ∀ x ∈ od, 0 ≤ x ∧ x < (rows.length : Int)
theorem order_start {rows : List (List Int)} {out : List Int} {n : Nat} (A : Auto rows out n) : Order rows out [0] (reachI (rowsQ rows out) 0) := by
  refine ⟨?_, fun x hx => ?_⟩
  · show [clsF rows out 0] = [0]
    rw [clsF]
    congr 1
    exact class_zero A
  · simp at hx
    subst hx
    have := A.closed.1
    omega
/-- What a round finds. -/
theorem order_round {rows : List (List Int)} {out od : List Int} {n i : Nat} (A : Auto rows out n) (h : Order rows out od (reachI (rowsQ rows out) i)) (hi : i < od.length) :
    ∃ (tn : Nat) (r : List Int) (o : Int), od[i]? = some (tn : Int) ∧ tn < rows.length ∧ rows[tn]? = some r ∧ out[tn]? = some o ∧ r.length = n ∧ (∀ y ∈ r, 0 ≤ y ∧ y < (rows.length : Int)) ∧
      (reached (rowsQ rows out))[i]? = some (clsF rows out tn) ∧ rowOf (rowsQ rows out) (clsF rows out tn) = r.map (clsF rows out) ∧ (outQ rows out).getD (clsF rows out tn).toNat 0 = o ∧ reachI (rowsQ rows out) (i + 1) = addAll (reachI (rowsQ rows out) i) (r.map (clsF rows out)) := by
  have h1 : od[i]? = some od[i] := List.getElem?_eq_getElem hi
  have h2 := h.2 _ (List.getElem_mem hi)
  obtain ⟨tn, htn⟩ : ∃ tn : Nat, (tn : Int) = od[i] := ⟨od[i].toNat, by omega⟩
  rw [← htn] at h1 h2
  have ht : tn < rows.length := by omega
  obtain ⟨r, hr⟩ : ∃ r, rows[tn]? = some r := ⟨_, List.getElem?_eq_getElem ht⟩
  obtain ⟨o, ho⟩ : ∃ o, out[tn]? = some o := ⟨_, List.getElem?_eq_getElem (by rw [A.terms]; exact ht)⟩
  have hq := rowsQ_at A ht
  have hL : (reachI (rowsQ rows out) i)[i]? = some (clsF rows out tn) := by
    rw [← h.1, List.getElem?_map, h1]
    rfl
  have hrD : rows.getD tn [] = r := by rw [List.getD_eq_getElem?_getD, hr]; rfl
  have hoD : out.getD tn 0 = o := by rw [List.getD_eq_getElem?_getD, ho]; rfl
  have hrow : rowOf (rowsQ rows out) (clsF rows out tn) = r.map (clsF rows out) := by
    rw [clsF, Int.toNat_natCast, hq.1, hrD]
    rfl
  refine ⟨tn, r, o, h1, ht, hr, ho, A.width r (List.mem_of_getElem? hr), A.closed.2 r (List.mem_of_getElem? hr), ?_, hrow, ?_, ?_⟩
  · obtain ⟨t, ht'⟩ := reachI_sub (rowsQ_auto A).closed i
    have hl := (List.getElem?_eq_some_iff.1 hL).1
    rw [← ht', List.getElem?_append_left hl]
    exact hL
  · rw [clsF, Int.toNat_natCast, hq.2, hoD]
  · rw [reachI_step hL, hrow]
/-- The classes that are found in the middle of a round. -/
def midL (rows : List (List Int)) (out : List Int) (i : Nat) (r : List Int) (k : Nat) : List Int := addAll (reachI (rowsQ rows out) i) ((r.take k).map (clsF rows out))
theorem midL_zero (rows : List (List Int)) (out : List Int) (i : Nat) (r : List Int) : midL rows out i r 0 = reachI (rowsQ rows out) i := rfl
theorem midL_succ {rows : List (List Int)} {out : List Int} {i k : Nat} {r : List Int} {y : Int} (h : r[k]? = some y) : midL rows out i r (k + 1) = addTo (midL rows out i r k) (clsF rows out y) := by
  obtain ⟨hk, rfl⟩ := List.getElem?_eq_some_iff.1 h
  rw [midL, List.take_succ_eq_append_getElem hk, List.map_append, List.map_singleton, addAll_snoc]
  rfl
theorem midL_end {rows : List (List Int)} {out : List Int} {i : Nat} {r : List Int} (h : reachI (rowsQ rows out) (i + 1) = addAll (reachI (rowsQ rows out) i) (r.map (clsF rows out))) : midL rows out i r r.length = reachI (rowsQ rows out) (i + 1) := by rw [midL, List.take_length, h]
theorem midL_sub {rows : List (List Int)} {out : List Int} {n i k : Nat} {r : List Int} (A : Auto rows out n) (h : reachI (rowsQ rows out) (i + 1) = addAll (reachI (rowsQ rows out) i) (r.map (clsF rows out))) : midL rows out i r k <+: reached (rowsQ rows out) := by
  refine List.IsPrefix.trans ?_ (reachI_sub (rowsQ_auto A).closed (i + 1))
  rw [h, midL]
  have e : (r.map (clsF rows out)) = (r.take k).map (clsF rows out) ++ (r.drop k).map (clsF rows out) := by rw [← List.map_append, List.take_append_drop]
  rw [e, addAll_append]
  exact addAll_prefix _ _
theorem midL_len {rows : List (List Int)} {out : List Int} {n i k : Nat} {r : List Int} (A : Auto rows out n) (h : reachI (rowsQ rows out) (i + 1) = addAll (reachI (rowsQ rows out) i) (r.map (clsF rows out))) : (midL rows out i r k).length ≤ rows.length := by
  have h1 := (midL_sub (k := k) A h).length_le
  have h2 := reached_len (rowsQ_auto A).closed
  have h3 := rowsQ_len rows out
  omega
theorem midL_nodup {rows : List (List Int)} {out : List Int} {n i k : Nat} {r : List Int} (A : Auto rows out n) : (midL rows out i r k).Nodup := addAll_nodup _ _ (reachI_ok (rowsQ_auto A).closed i).1
/-- A class that is there already. -/
theorem mid_old {rows : List (List Int)} {out : List Int} {n i k : Nat} {r : List Int} {y : Int} (A : Auto rows out n) (h : reachI (rowsQ rows out) (i + 1) = addAll (reachI (rowsQ rows out) i) (r.map (clsF rows out))) (hy : r[k]? = some y) (hc : clsF rows out y ∈ midL rows out i r k) :
    midL rows out i r (k + 1) = midL rows out i r k ∧ ix (reached (rowsQ rows out)) (clsF rows out y) = ix (midL rows out i r k) (clsF rows out y) :=
  ⟨by rw [midL_succ hy, addTo_in hc], idxOf_prefix (midL_sub A h) hc⟩
/-- A new class. -/
theorem mid_new {rows : List (List Int)} {out od : List Int} {n i k : Nat} {r : List Int} {y : Int} (A : Auto rows out n) (h : reachI (rowsQ rows out) (i + 1) = addAll (reachI (rowsQ rows out) i) (r.map (clsF rows out))) (hy : r[k]? = some y) (hc : clsF rows out y ∉ midL rows out i r k)
    (ho : Order rows out od (midL rows out i r k)) (hb : 0 ≤ y ∧ y < (rows.length : Int)) :
    Order rows out (od ++ [y]) (midL rows out i r (k + 1)) ∧ ix (reached (rowsQ rows out)) (clsF rows out y) = (midL rows out i r k).length := by
  have e : midL rows out i r (k + 1) = midL rows out i r k ++ [clsF rows out y] := by rw [midL_succ hy, addTo_new hc]
  refine ⟨⟨by rw [List.map_append, ho.1, e]; rfl, fun x hx => ?_⟩, ?_⟩
  · rcases List.mem_append.1 hx with hx | hx
    · exact ho.2 x hx
    · simp at hx
      subst hx
      exact hb
  · have hm : clsF rows out y ∈ midL rows out i r (k + 1) := by rw [e]; simp
    rw [idxOf_prefix (midL_sub A h) hm, e, ix, List.idxOf_append, if_neg hc]
    simp
/-- What the search for a class has found. -/
def FoundC (L : List Int) (c : Int) (k : Nat) (f : Int) : Prop := (f = -1 ∧ ∀ j < k, L[j]? ≠ some c) ∨ (0 ≤ f ∧ c ∈ L ∧ f = (ix L c : Int))
theorem foundC_yes {L : List Int} {c : Int} {k : Nat} (hn : L.Nodup) (h : L[k]? = some c) : FoundC L c (k + 1) (k : Int) :=
  .inr ⟨Int.natCast_nonneg _, List.mem_of_getElem? h, by rw [idxOf_get hn h]⟩
theorem foundC_no {L : List Int} {c x : Int} {k : Nat} {f : Int} (hf : FoundC L c k f) (h0 : f < 0) (h : L[k]? = some x) (hx : ¬ x = c) : FoundC L c (k + 1) f := by
  rcases hf with ⟨h1, h2⟩ | h1
  · refine .inl ⟨h1, fun j hj hje => ?_⟩
    by_cases e : j = k
    · subst e
      rw [h] at hje
      exact hx (Option.some.inj hje)
    · exact h2 j (by omega) hje
  · omega
theorem foundC_end {L : List Int} {c : Int} {k : Nat} {f : Int} (hf : FoundC L c k f) (he : k = L.length ∨ 0 ≤ f) (hk : k ≤ L.length) : (f = -1 ∧ c ∉ L) ∨ (0 ≤ f ∧ c ∈ L ∧ f = (ix L c : Int)) := by
  rcases hf with ⟨h1, h2⟩ | h1
  · refine .inl ⟨h1, fun hm => ?_⟩
    obtain ⟨j, hj⟩ := List.getElem?_of_mem hm
    have := (List.getElem?_eq_some_iff.1 hj).1
    exact h2 j (by omega) hj
  · exact .inr h1
/-- A row in the making. -/
def partR (rows : List (List Int)) (out r : List Int) (k : Nat) : List Int := (r.take k).map fun y => (ix (reached (rowsQ rows out)) (clsF rows out y) : Int)
theorem partR_succ {rows : List (List Int)} {out r : List Int} {k : Nat} {y : Int} (h : r[k]? = some y) : partR rows out r (k + 1) = partR rows out r k ++ [(ix (reached (rowsQ rows out)) (clsF rows out y) : Int)] := by
  obtain ⟨hk, rfl⟩ := List.getElem?_eq_some_iff.1 h
  rw [partR, List.take_succ_eq_append_getElem hk, List.map_append]
  rfl
theorem partR_len {rows : List (List Int)} {out r : List Int} {k : Nat} (h : k ≤ r.length) : (partR rows out r k).length = k := by simp [partR]; omega
theorem partR_end {rows : List (List Int)} {out r : List Int} {s : Int} (h : rowOf (rowsQ rows out) s = r.map (clsF rows out)) : partR rows out r r.length = minRow (rowsQ rows out) (reached (rowsQ rows out)) s := by
  rw [partR, List.take_length, minRow, h, List.map_map]
  rfl
theorem order_end {rows : List (List Int)} {out od : List Int} {n i : Nat} (A : Auto rows out n) (h : Order rows out od (reachI (rowsQ rows out) i)) (hi : ¬ i < od.length) (hl : i ≤ od.length) : i = (reached (rowsQ rows out)).length ∧ od.length = i := by
  have h1 : (reachI (rowsQ rows out) i).length = od.length := by rw [← h.1, List.length_map]
  have h2 := reachI_end (rowsQ_auto A).closed (i := i) (by omega)
  rw [← h2]
  omega
end Go.Proofs.Ythnmighlgifoeaa.Plain
