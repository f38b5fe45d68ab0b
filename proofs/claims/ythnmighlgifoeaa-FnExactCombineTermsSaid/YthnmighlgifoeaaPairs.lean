/- Plain facts on a search by breadth over pairs of states that tries digits in order: what it has found, the sequence that it makes. No conditions beyond those that each fact states. -/
import Derived.Test.YthnmighlgifoeaaDist
import Derived.Test.YthnmighlgifoeaaSeqVal
namespace Go.Proofs.Ythnmighlgifoeaa.Plain
set_option linter.unusedVariables false
abbrev Pr : Type := Int × Int
/-- Where a search starts, where a digit leads a pair; the base; which pairs may come up. -/
structure Walks (st : Pr) (nx : Pr → Nat → Pr) (b : Nat) (Ok : Pr → Prop) : Prop where
  start : Ok st
  next : ∀ s, Ok s → ∀ d, d < b → Ok (nx s d)
section
variable (st : Pr) (nx : Pr → Nat → Pr) (b : Nat)
def nextP (s : Pr) (k : Nat) : List Pr := (List.range k).map (nx s)
/-- What the search has found when it has looked at i pairs. -/
def pairI : Nat → List Pr
  | 0 => [st]
  | i + 1 => match (pairI i)[i]? with
    | some s => addAll (pairI i) (nextP nx s b)
    | none => pairI i
def found : List Pr := pairI st nx b 17
def pairK : Bool := decide ((found st nx b).length ≤ 16)
def pairRow (s : Pr) : List Int := (List.range b).map fun d => (ix (found st nx b) (nx s d) : Int)
/-- A row in the making. -/
def pairPart (s : Pr) (k : Nat) : List Int := (List.range k).map fun d => (ix (found st nx b) (nx s d) : Int)
def pairRows (i : Nat) : List (List Int) := ((found st nx b).take i).map (pairRow st nx b)
def pairOuts (tm : Pr → Int) (i : Nat) : List Int := ((found st nx b).take i).map tm
/-- What is found when k digits of the pair s have been tried. -/
def midP (i : Nat) (s : Pr) (k : Nat) : List Pr := addAll (pairI st nx b i) (nextP nx s k)
end
section
variable {st : Pr} {nx : Pr → Nat → Pr} {b : Nat} {Ok : Pr → Prop}
theorem nextP_succ (s : Pr) (k : Nat) : nextP nx s (k + 1) = nextP nx s k ++ [nx s k] := by simp [nextP, List.range_succ]
theorem pairI_step {i : Nat} {s : Pr} (h : (pairI st nx b i)[i]? = some s) : pairI st nx b (i + 1) = addAll (pairI st nx b i) (nextP nx s b) := by rw [pairI, h]
theorem pairI_over {i : Nat} (h : (pairI st nx b i).length ≤ i) : ∀ j, i ≤ j → pairI st nx b j = pairI st nx b i := by
  intro j hj
  obtain ⟨d, rfl⟩ := Nat.le.dest hj
  induction d with
  | zero => rfl
  | succ d ih =>
    have ih := ih (by omega)
    rw [← Nat.add_assoc, pairI, List.getElem?_eq_none (by rw [ih]; omega)]
    exact ih
theorem pairI_nodup : ∀ i, (pairI st nx b i).Nodup
  | 0 => by simp [pairI]
  | i + 1 => by
    cases hs : (pairI st nx b i)[i]? with
    | none => rw [pairI, hs]; exact pairI_nodup i
    | some s => rw [pairI_step hs]; exact addAll_nodup _ _ (pairI_nodup i)
theorem pairI_prefix_succ (i : Nat) : pairI st nx b i <+: pairI st nx b (i + 1) := by
  cases hs : (pairI st nx b i)[i]? with
  | none => rw [pairI, hs]; exact List.prefix_refl _
  | some s => rw [pairI_step hs]; exact addAll_prefix _ _
theorem pairI_prefix {i j : Nat} (h : i ≤ j) : pairI st nx b i <+: pairI st nx b j := by
  obtain ⟨d, rfl⟩ := Nat.le.dest h
  induction d with
  | zero => exact List.prefix_refl _
  | succ d ih => exact (ih (by omega)).trans (pairI_prefix_succ _)
theorem found_nodup : (found st nx b).Nodup := pairI_nodup 17
theorem pairI_ok (W : Walks st nx b Ok) : ∀ i, ∀ s ∈ pairI st nx b i, Ok s
  | 0 => fun s hs => by
    have : s = st := by simpa [pairI] using hs
    subst this
    exact W.start
  | i + 1 => fun s hs => by
    have ih := pairI_ok W i
    cases he : (pairI st nx b i)[i]? with
    | none => rw [pairI, he] at hs; exact ih s hs
    | some t =>
      rw [pairI_step he] at hs
      rcases (mem_addAll _ _ _).1 hs with h | h
      · exact ih s h
      · obtain ⟨d, hd, rfl⟩ := List.mem_map.1 h
        exact W.next t (ih t (List.mem_of_getElem? he)) d (List.mem_range.1 hd)
/-- Where the search ends. -/
theorem found_end {i : Nat} (hi : i ≤ 16) (h : (pairI st nx b i).length ≤ i) : found st nx b = pairI st nx b i := pairI_over h 17 (by omega)
theorem found_many {i : Nat} (hi : i ≤ 17) (h : 16 < (pairI st nx b i).length) : pairK st nx b = false := by
  have := (pairI_prefix (st := st) (nx := nx) (b := b) hi).length_le
  exact decide_eq_false fun h' => by unfold found at h'; omega
theorem mid_zero (i : Nat) (s : Pr) : midP st nx b i s 0 = pairI st nx b i := rfl
theorem mid_succ (i : Nat) (s : Pr) (k : Nat) : midP st nx b i s (k + 1) = addTo (midP st nx b i s k) (nx s k) := by rw [midP, nextP_succ, addAll_snoc]; rfl
theorem mid_end {i : Nat} {s : Pr} (h : (pairI st nx b i)[i]? = some s) : midP st nx b i s b = pairI st nx b (i + 1) := (pairI_step h).symm
theorem mid_prefix (i : Nat) (s : Pr) {k k' : Nat} (h : k ≤ k') : midP st nx b i s k <+: midP st nx b i s k' := by
  obtain ⟨d, rfl⟩ := Nat.le.dest h
  induction d with
  | zero => exact List.prefix_refl _
  | succ d ih =>
    have h1 := mid_succ (st := st) (nx := nx) (b := b) i s (k + d)
    rw [Nat.add_assoc] at h1
    rw [h1]
    exact (ih (by omega)).trans (addTo_prefix _ _)
theorem mid_found {i k : Nat} {s : Pr} (hi : i ≤ 16) (hk : k ≤ b) (h : (pairI st nx b i)[i]? = some s) : midP st nx b i s k <+: found st nx b := by
  have h1 := mid_prefix (st := st) (nx := nx) (b := b) i s hk
  rw [mid_end h] at h1
  exact h1.trans (pairI_prefix (by omega))
theorem mid_nodup (i : Nat) (s : Pr) (k : Nat) : (midP st nx b i s k).Nodup := addAll_nodup _ _ (pairI_nodup i)
theorem mid_ok (W : Walks st nx b Ok) {i : Nat} {s : Pr} (h : (pairI st nx b i)[i]? = some s) {k : Nat} (hk : k ≤ b) : ∀ t ∈ midP st nx b i s k, Ok t := fun t ht => by
  rcases (mem_addAll _ _ _).1 ht with h1 | h1
  · exact pairI_ok W i t h1
  · obtain ⟨d, hd, rfl⟩ := List.mem_map.1 h1
    exact W.next s (pairI_ok W i s (List.mem_of_getElem? h)) d (by have := List.mem_range.1 hd; omega)
theorem mid_len {i k : Nat} {s : Pr} (h16 : (pairI st nx b i).length ≤ 16) : (midP st nx b i s k).length ≤ 16 + k := by
  induction k with
  | zero => exact h16
  | succ k ih =>
    rw [mid_succ]
    unfold addTo
    split
    · omega
    · simp; omega
/-- The place of the pair that a digit leads to, where it has been found. -/
theorem place_old {i k : Nat} {s : Pr} (hi : i ≤ 16) (hk : k < b) (h : (pairI st nx b i)[i]? = some s) (hm : nx s k ∈ midP st nx b i s k) :
    midP st nx b i s (k + 1) = midP st nx b i s k ∧ ix (found st nx b) (nx s k) = ix (midP st nx b i s k) (nx s k) :=
  ⟨by rw [mid_succ, addTo_in hm], idxOf_prefix (mid_found hi (by omega) h) hm⟩
theorem place_new {i k : Nat} {s : Pr} (hi : i ≤ 16) (hk : k < b) (h : (pairI st nx b i)[i]? = some s) (hm : nx s k ∉ midP st nx b i s k) :
    midP st nx b i s (k + 1) = midP st nx b i s k ++ [nx s k] ∧ ix (found st nx b) (nx s k) = (midP st nx b i s k).length := by
  have h1 : midP st nx b i s (k + 1) = midP st nx b i s k ++ [nx s k] := by rw [mid_succ, addTo_new hm]
  refine ⟨h1, ?_⟩
  have h2 := mid_found hi (show k + 1 ≤ b by omega) h
  have h3 : nx s k ∈ midP st nx b i s (k + 1) := by rw [h1]; simp
  rw [idxOf_prefix h2 h3]
  refine idxOf_get (mid_nodup i s (k + 1)) ?_
  rw [h1]
  simp
theorem part_succ (s : Pr) (k : Nat) : pairPart st nx b s (k + 1) = pairPart st nx b s k ++ [(ix (found st nx b) (nx s k) : Int)] := by simp [pairPart, List.range_succ]
theorem part_len (s : Pr) (k : Nat) : (pairPart st nx b s k).length = k := by simp [pairPart]
theorem part_end (s : Pr) : pairPart st nx b s b = pairRow st nx b s := rfl
theorem found_at {i : Nat} {s : Pr} (hi : i ≤ 17) (h : (pairI st nx b i)[i]? = some s) : (found st nx b)[i]? = some s := by
  obtain ⟨t, ht⟩ := pairI_prefix (st := st) (nx := nx) (b := b) hi
  unfold found
  rw [← ht, List.getElem?_append_left (List.getElem?_eq_some_iff.1 h).1]
  exact h
theorem rows_succ {i : Nat} {s : Pr} (h : (found st nx b)[i]? = some s) : pairRows st nx b (i + 1) = pairRows st nx b i ++ [pairRow st nx b s] := by
  obtain ⟨hk, rfl⟩ := List.getElem?_eq_some_iff.1 h
  rw [pairRows, List.take_succ_eq_append_getElem hk, List.map_append]
  rfl
theorem outs_succ {tm : Pr → Int} {i : Nat} {s : Pr} (h : (found st nx b)[i]? = some s) : pairOuts st nx b tm (i + 1) = pairOuts st nx b tm i ++ [tm s] := by
  obtain ⟨hk, rfl⟩ := List.getElem?_eq_some_iff.1 h
  rw [pairOuts, List.take_succ_eq_append_getElem hk, List.map_append]
  rfl
theorem rows_len {i : Nat} (h : i ≤ (found st nx b).length) : (pairRows st nx b i).length = i := by simp [pairRows]; omega
theorem outs_len {tm : Pr → Int} {i : Nat} (h : i ≤ (found st nx b).length) : (pairOuts st nx b tm i).length = i := by simp [pairOuts]; omega
/-- Behind the end everything that a digit leads to has been found. -/
theorem found_closed (hk : pairK st nx b = true) {s : Pr} (hs : s ∈ found st nx b) {d : Nat} (hd : d < b) : nx s d ∈ found st nx b := by
  have hl : (found st nx b).length ≤ 16 := of_decide_eq_true hk
  have hn : ∃ i, i ≤ 16 ∧ (pairI st nx b i).length ≤ i := ⟨16, by omega, Nat.le_trans (pairI_prefix (st := st) (nx := nx) (b := b) (show 16 ≤ 17 by omega)).length_le hl⟩
  obtain ⟨n, hn16, hn⟩ := hn
  have he := found_end hn16 hn
  obtain ⟨i, hi⟩ := List.getElem?_of_mem hs
  have hil := (List.getElem?_eq_some_iff.1 hi).1
  by_cases h : (pairI st nx b i)[i]? = none
  · have h1 := List.getElem?_eq_none_iff.1 h
    have h2 := pairI_over h1 17 (by omega)
    rw [show found st nx b = pairI st nx b i from h2] at hil
    omega
  · obtain ⟨t, ht⟩ := Option.ne_none_iff_exists'.1 h
    have h1 := found_at (by omega) ht
    rw [hi] at h1
    obtain rfl := Option.some.inj h1
    obtain ⟨r, hr⟩ := pairI_prefix (st := st) (nx := nx) (b := b) (show i + 1 ≤ 17 by omega)
    show nx s d ∈ pairI st nx b 17
    rw [← hr, pairI_step ht]
    refine List.mem_append_left _ ((mem_addAll _ _ _).2 (.inr ?_))
    exact List.mem_map.2 ⟨d, List.mem_range.2 hd, rfl⟩
theorem found_ok (W : Walks st nx b Ok) : ∀ s ∈ found st nx b, Ok s := pairI_ok W 17
/-- The sequence of the pairs. -/
theorem pair_valid {tm : Pr → Int} (W : Walks st nx b Ok) (hk : pairK st nx b = true) (h2 : 2 ≤ b) (h4 : b ≤ 4) (ht : ∀ s, Ok s → 0 ≤ tm s ∧ tm s ≤ 3) : IsSeq (b : Int) (pairRows st nx b (found st nx b).length) (pairOuts st nx b tm (found st nx b).length) := by
  have hl : (found st nx b).length ≤ 16 := of_decide_eq_true hk
  have h0 : st ∈ found st nx b := by
    obtain ⟨r, hr⟩ := pairI_prefix (st := st) (nx := nx) (b := b) (show 0 ≤ 17 by omega)
    show st ∈ pairI st nx b 17
    rw [← hr]
    simp [pairI]
  have h1 : 0 < (found st nx b).length := List.length_pos_of_mem h0
  refine ⟨by omega, by omega, by rw [rows_len (Nat.le_refl _)]; omega, by rw [rows_len (Nat.le_refl _)]; exact hl, by rw [rows_len (Nat.le_refl _), outs_len (Nat.le_refl _)], fun r hr => ?_, fun x hx => ?_⟩
  · rw [pairRows, List.take_length] at hr
    obtain ⟨s, hs, rfl⟩ := List.mem_map.1 hr
    refine ⟨by simp [pairRow], fun x hx => ?_⟩
    obtain ⟨d, hd, rfl⟩ := List.mem_map.1 hx
    rw [rows_len (Nat.le_refl _)]
    have := idxOf_lt (found_closed hk hs (List.mem_range.1 hd))
    omega
  · rw [pairOuts, List.take_length] at hx
    obtain ⟨s, hs, rfl⟩ := List.mem_map.1 hx
    exact ht s (found_ok W s hs)
end
end Go.Proofs.Ythnmighlgifoeaa.Plain
