/- Plain facts on minimal forms: the states that are reached, the classes of states that no digits tell apart, the merged sequence, the minimal form. No conditions beyond those that each fact states. -/
import Derived.Test.YthnmighlgifoeaaDist
import Derived.Test.YthnmighlgifoeaaSeqVal
namespace Go.Proofs.Ythnmighlgifoeaa.Plain
set_option linter.unusedVariables false
/-! ### the states that are reached -/
def rowOf (rows : List (List Int)) (s : Int) : List Int := rows.getD s.toNat []
/-- What a search has found when it has looked at i states. -/
def reachI (rows : List (List Int)) : Nat → List Int
  | 0 => [0]
  | i + 1 => match (reachI rows i)[i]? with
    | some s => addAll (reachI rows i) (rowOf rows s)
    | none => reachI rows i
theorem reachI_step {rows : List (List Int)} {i : Nat} {s : Int} (h : (reachI rows i)[i]? = some s) : reachI rows (i + 1) = addAll (reachI rows i) (rowOf rows s) := by
  rw [reachI, h]
theorem reachI_stop {rows : List (List Int)} {i : Nat} (h : (reachI rows i).length ≤ i) : reachI rows (i + 1) = reachI rows i := by
  rw [reachI, List.getElem?_eq_none h]
theorem reachI_over {rows : List (List Int)} {i : Nat} (h : (reachI rows i).length ≤ i) : ∀ j, i ≤ j → reachI rows j = reachI rows i := by
  intro j hj
  obtain ⟨d, rfl⟩ := Nat.le.dest hj
  induction d with
  | zero => rfl
  | succ d ih =>
    have ih := ih (by omega)
    rw [← Nat.add_assoc, reachI_stop (by rw [ih]; omega), ih]
/-- All next states are states. -/
def Closed (rows : List (List Int)) : Prop := 0 < rows.length ∧ ∀ r ∈ rows, ∀ x ∈ r, 0 ≤ x ∧ x < (rows.length : Int)
theorem IsSeq.closed {b : Int} {rows : List (List Int)} {out : List Int} (h : IsSeq b rows out) : Closed rows := ⟨h.2.2.1, fun r hr x hx => (h.2.2.2.2.2.1 r hr).2 x hx⟩
theorem rowOf_mem {rows : List (List Int)} {s : Int} (h0 : 0 ≤ s) (h1 : s < rows.length) : rowOf rows s ∈ rows := by
  have h2 : s.toNat < rows.length := by omega
  rw [rowOf, List.getD_eq_getElem?_getD, List.getElem?_eq_getElem h2]
  exact List.getElem_mem _
theorem rowOf_get {rows : List (List Int)} {s : Int} (h0 : 0 ≤ s) (h1 : s < rows.length) : rows[s.toNat]? = some (rowOf rows s) := by
  have h2 : s.toNat < rows.length := by omega
  rw [rowOf, List.getD_eq_getElem?_getD, List.getElem?_eq_getElem h2]
  rfl
theorem reachI_ok {rows : List (List Int)} (hc : Closed rows) : ∀ i, (reachI rows i).Nodup ∧ ∀ x ∈ reachI rows i, 0 ≤ x ∧ x < (rows.length : Int)
  | 0 => ⟨by simp [reachI], fun x hx => by
      have : x = 0 := by simpa [reachI] using hx
      have := hc.1
      omega⟩
  | i + 1 => by
    obtain ⟨h1, h2⟩ := reachI_ok hc i
    cases hs : (reachI rows i)[i]? with
    | none =>
      rw [reachI, hs]
      exact ⟨h1, h2⟩
    | some s =>
      rw [reachI_step hs]
      have h3 := h2 s (List.mem_of_getElem? hs)
      refine ⟨addAll_nodup _ _ h1, fun x hx => ?_⟩
      rcases (mem_addAll _ _ _).1 hx with h | h
      · exact h2 x h
      · exact hc.2 _ (rowOf_mem h3.1 h3.2) x h
theorem reachI_len {rows : List (List Int)} (hc : Closed rows) (i : Nat) : (reachI rows i).length ≤ rows.length := nodup_bounded _ _ (reachI_ok hc i).1 (reachI_ok hc i).2
theorem reachI_prefix_succ (rows : List (List Int)) (i : Nat) : reachI rows i <+: reachI rows (i + 1) := by
  cases hs : (reachI rows i)[i]? with
  | none => rw [reachI, hs]; exact List.prefix_refl _
  | some s => rw [reachI_step hs]; exact addAll_prefix _ _
theorem reachI_prefix (rows : List (List Int)) {i j : Nat} (h : i ≤ j) : reachI rows i <+: reachI rows j := by
  obtain ⟨d, rfl⟩ := Nat.le.dest h
  induction d with
  | zero => exact List.prefix_refl _
  | succ d ih => exact (ih (by omega)).trans (reachI_prefix_succ rows _)
/-- All that is reached. -/
def reached (rows : List (List Int)) : List Int := reachI rows rows.length
theorem reachI_end {rows : List (List Int)} (hc : Closed rows) {i : Nat} (h : (reachI rows i).length ≤ i) : reachI rows i = reached rows := by
  have h1 := reachI_over h
  have h2 : (reachI rows rows.length).length ≤ rows.length := reachI_len hc _
  rcases Nat.le_total i rows.length with h3 | h3
  · exact (h1 _ h3).symm
  · exact reachI_over h2 i h3
theorem reached_len {rows : List (List Int)} (hc : Closed rows) : (reached rows).length ≤ rows.length := reachI_len hc _
theorem reachI_sub {rows : List (List Int)} (hc : Closed rows) (i : Nat) : reachI rows i <+: reached rows := by
  rcases Nat.le_total i rows.length with h3 | h3
  · exact reachI_prefix rows h3
  · rw [reachI_over (reachI_len hc _) i h3]; exact List.prefix_refl _
theorem reached_zero (rows : List (List Int)) : (reached rows)[0]? = some 0 := by
  obtain ⟨t, ht⟩ := reachI_prefix rows (Nat.zero_le rows.length)
  rw [reached, ← ht]
  rfl
/-- What is reached is closed. -/
theorem reached_next {rows : List (List Int)} (hc : Closed rows) {s x : Int} (hs : s ∈ reached rows) (hx : x ∈ rowOf rows s) : x ∈ reached rows := by
  obtain ⟨i, hi⟩ := List.getElem?_of_mem hs
  have hl : i < rows.length := Nat.lt_of_lt_of_le (List.getElem?_eq_some_iff.1 hi).1 (reached_len hc)
  have h1 : (reachI rows i)[i]? = some s ∨ (reachI rows i).length ≤ i := by
    rcases Nat.lt_or_ge i (reachI rows i).length with h2 | h2
    · left
      obtain ⟨t, ht⟩ := reachI_sub hc i
      rw [← ht, List.getElem?_append_left h2] at hi
      exact hi
    · exact .inr h2
  rcases h1 with h1 | h1
  · obtain ⟨t, ht⟩ := reachI_sub hc (i + 1)
    rw [← ht, reachI_step h1]
    simp [mem_addAll, hx]
  · have h2 := reachI_end hc h1
    rw [h2] at h1
    have := (List.getElem?_eq_some_iff.1 hi).1
    omega
def reachV (b : Int) (rows : List (List Int)) (out : List Int) : List Int := if seqB b rows out = true then reached rows else []
/-! ### the classes -/
/-- What tells a state: its term and the classes of its next states. -/
def keyC (rows : List (List Int)) (out cls : List Int) (s : Nat) : List Int := out.getD s 0 :: (rows.getD s []).map fun x => cls.getD x.toNat 0
def keysOf (rows : List (List Int)) (out cls : List Int) : List (List Int) := (List.range rows.length).map (keyC rows out cls)
/-- The keys of round k, the classes behind it. -/
def keysR (rows : List (List Int)) (out : List Int) : Nat → List (List Int)
  | 0 => List.replicate rows.length []
  | k + 1 => keysOf rows out (numb (keysR rows out k))
def clsR (rows : List (List Int)) (out : List Int) (k : Nat) : List Int := numb (keysR rows out k)
theorem keysR_len (rows : List (List Int)) (out : List Int) : ∀ k, (keysR rows out k).length = rows.length
  | 0 => by simp [keysR]
  | k + 1 => by simp [keysR, keysOf]
theorem clsR_len (rows : List (List Int)) (out : List Int) (k : Nat) : (clsR rows out k).length = rows.length := by rw [clsR, numb_len, keysR_len]
theorem keysR_get (rows : List (List Int)) (out : List Int) (k : Nat) {i : Nat} (h : i < rows.length) : (keysR rows out (k + 1))[i]? = some (keyC rows out (clsR rows out k) i) := by
  simp [keysR, keysOf, clsR, h]
theorem addAll_rep {α : Type} [DecidableEq α] (x : α) (l : List α) : ∀ n, addAll (x :: l) (List.replicate n x) = x :: l
  | 0 => rfl
  | n + 1 => by
    rw [List.replicate_succ, addAll_cons, addTo_in (by simp)]
    exact addAll_rep x l n
theorem dist_rep {α : Type} [DecidableEq α] (x : α) (n : Nat) : dist (List.replicate (n + 1) x) = [x] := by
  rw [dist, List.replicate_succ, addAll_cons, addTo_new (by simp)]
  exact addAll_rep x [] n
theorem numb_rep {α : Type} [DecidableEq α] (x : α) (n : Nat) : numb (List.replicate n x) = List.replicate n 0 := by
  cases n with
  | zero => rfl
  | succ n =>
    rw [numb, dist_rep]
    simp [ix]
theorem clsR_zero (rows : List (List Int)) (out : List Int) : clsR rows out 0 = List.replicate rows.length 0 := numb_rep _ _
/-- How many classes there are in round k. -/
def cntR (rows : List (List Int)) (out : List Int) (k : Nat) : Nat := (dist (keysR rows out k)).length
theorem cntR_zero {rows : List (List Int)} (out : List Int) (h : 0 < rows.length) : cntR rows out 0 = 1 := by
  obtain ⟨n, hn⟩ : ∃ n, rows.length = n + 1 := ⟨rows.length - 1, by omega⟩
  rw [cntR, keysR, hn, dist_rep]
  rfl
theorem dist_le {α : Type} [DecidableEq α] (keys : List α) : (dist keys).length ≤ keys.length := nodup_sub_len _ _ (dist_nodup _) (fun x hx => mem_dist.1 hx)
theorem cntR_le (rows : List (List Int)) (out : List Int) (k : Nat) : cntR rows out k ≤ rows.length := by
  have := dist_le (keysR rows out k)
  rw [keysR_len] at this
  exact this
/-- Rows of states. -/
structure Auto (rows : List (List Int)) (out : List Int) (n : Nat) : Prop where
  closed : Closed rows
  width : ∀ r ∈ rows, r.length = n
  terms : out.length = rows.length
theorem IsSeq.auto {b : Int} {rows : List (List Int)} {out : List Int} (h : IsSeq b rows out) : Auto rows out b.toNat := ⟨h.closed, fun r hr => by have := (h.2.2.2.2.2.1 r hr).1; omega, h.2.2.2.2.1⟩
theorem keyC_iff {rows : List (List Int)} {out cls : List Int} {n : Nat} (A : Auto rows out n) {i j : Nat} (hi : i < rows.length) (hj : j < rows.length) :
    keyC rows out cls i = keyC rows out cls j ↔ out.getD i 0 = out.getD j 0 ∧ ∀ d < n, cls.getD ((rows.getD i []).getD d 0).toNat 0 = cls.getD ((rows.getD j []).getD d 0).toNat 0 := by
  have w : ∀ i < rows.length, (rows.getD i []).length = n := fun i hi => by
    rw [List.getD_eq_getElem?_getD, List.getElem?_eq_getElem hi]
    exact A.width _ (List.getElem_mem _)
  have wi := w i hi
  have wj := w j hj
  have g : ∀ (l : List Int), l.length = n → ∀ d < n, (l.map fun x => cls.getD x.toNat 0)[d]? = some (cls.getD (l.getD d 0).toNat 0) := fun l hl d hd => by
    have hd' : d < l.length := by omega
    rw [List.getElem?_map, show l.getD d 0 = l[d] by simp [List.getD_eq_getElem?_getD, hd'], List.getElem?_eq_getElem hd']
    rfl
  unfold keyC
  rw [List.cons.injEq]
  refine and_congr_right fun _ => ⟨fun h d hd => ?_, fun h => ?_⟩
  · have h1 := g _ wi d hd
    rw [h, g _ wj d hd] at h1
    exact (Option.some.inj h1).symm
  · apply List.ext_getElem?
    intro d
    rcases Nat.lt_or_ge d n with hd | hd
    · rw [g _ wi d hd, g _ wj d hd, h d hd]
    · rw [List.getElem?_eq_none (by simp only [List.length_map]; omega), List.getElem?_eq_none (by simp only [List.length_map]; omega)]
theorem cls_iff {rows : List (List Int)} {out : List Int} {k i j : Nat} (hi : i < rows.length) (hj : j < rows.length) :
    (clsR rows out (k + 1)).getD i 0 = (clsR rows out (k + 1)).getD j 0 ↔ keyC rows out (clsR rows out k) i = keyC rows out (clsR rows out k) j := by
  have h1 := keysR_get rows out k hi
  have h2 := keysR_get rows out k hj
  have h3 := numb_eq_iff h1 h2
  rw [← h3, List.getD_eq_getElem?_getD, List.getD_eq_getElem?_getD]
  show ((numb (keysR rows out (k + 1)))[i]?).getD 0 = ((numb (keysR rows out (k + 1)))[j]?).getD 0 ↔ _
  rw [numb_get h1, numb_get h2]
  simp
theorem next_lt {rows : List (List Int)} {out : List Int} {n : Nat} (A : Auto rows out n) {i d : Nat} (hi : i < rows.length) (hd : d < n) : 0 ≤ (rows.getD i []).getD d 0 ∧ ((rows.getD i []).getD d 0).toNat < rows.length := by
  have h1 : rows.getD i [] ∈ rows := by
    rw [List.getD_eq_getElem?_getD, List.getElem?_eq_getElem hi]
    exact List.getElem_mem _
  have h2 := A.width _ h1
  have h3 : (rows.getD i []).getD d 0 ∈ rows.getD i [] := by
    rw [List.getD_eq_getElem?_getD (l := rows.getD i []), List.getElem?_eq_getElem (by omega)]
    exact List.getElem_mem _
  have := A.closed.2 _ h1 _ h3
  omega
/-- Each round divides the classes of the round before. -/
theorem refines {rows : List (List Int)} {out : List Int} {n : Nat} (A : Auto rows out n) : ∀ (k : Nat) {i j : Nat}, i < rows.length → j < rows.length → (clsR rows out (k + 1)).getD i 0 = (clsR rows out (k + 1)).getD j 0 → (clsR rows out k).getD i 0 = (clsR rows out k).getD j 0
  | 0, i, j, hi, hj, _ => by
    rw [clsR_zero]
    simp [List.getD_eq_getElem?_getD, hi, hj]
  | k + 1, i, j, hi, hj, h => by
    rw [cls_iff hi hj, keyC_iff A hi hj] at h ⊢
    exact ⟨h.1, fun d hd => refines A k (next_lt A hi hd).2 (next_lt A hj hd).2 (h.2 d hd)⟩
/-- As many classes as before: the same ones. -/
theorem stable {rows : List (List Int)} {out : List Int} {n : Nat} (A : Auto rows out n) {k : Nat} (h : cntR rows out (k + 1) = cntR rows out k) : clsR rows out (k + 1) = clsR rows out k := by
  have hpos : 0 < rows.length := A.closed.1
  -- the classes of round k as a function of those of round k + 1
  have hl1 := keysR_len rows out (k + 1)
  have hl0 := keysR_len rows out k
  let D1 := dist (keysR rows out (k + 1))
  let D0 := dist (keysR rows out k)
  let g : List Int → List Int := fun x => (keysR rows out k).getD (ix (keysR rows out (k + 1)) x) []
  have gk : ∀ i, i < rows.length → ∀ x, (keysR rows out (k + 1))[i]? = some x → (keysR rows out k)[i]? = some (g x) := fun i hi x hx => by
    have hm := List.mem_of_getElem? hx
    have hj := idxOf_lt hm
    rw [hl1] at hj
    have h1 : (clsR rows out (k + 1)).getD (ix (keysR rows out (k + 1)) x) 0 = (clsR rows out (k + 1)).getD i 0 := by
      rw [List.getD_eq_getElem?_getD, List.getD_eq_getElem?_getD]
      show ((numb _)[_]?).getD 0 = ((numb _)[_]?).getD 0
      rw [numb_get hx, numb_get (get_idxOf hm)]
    have h2 := refines A k hj hi h1
    obtain ⟨y, hy⟩ : ∃ y, (keysR rows out k)[i]? = some y := ⟨_, List.getElem?_eq_getElem (by omega)⟩
    obtain ⟨z, hz⟩ : ∃ z, (keysR rows out k)[ix (keysR rows out (k + 1)) x]? = some z := ⟨_, List.getElem?_eq_getElem (by omega)⟩
    have h3 : (numb (keysR rows out k))[ix (keysR rows out (k + 1)) x]? = (numb (keysR rows out k))[i]? := by
      rw [List.getD_eq_getElem?_getD, List.getD_eq_getElem?_getD] at h2
      rw [numb_get hz, numb_get hy]
      have h4 : ((numb (keysR rows out k))[ix (keysR rows out (k + 1)) x]?).getD 0 = ((numb (keysR rows out k))[i]?).getD 0 := h2
      rw [numb_get hz, numb_get hy] at h4
      exact congrArg some h4
    have h5 := (numb_eq_iff hz hy).1 h3
    show _ = some ((keysR rows out k).getD _ [])
    rw [List.getD_eq_getElem?_getD, hz, hy, h5]
    rfl
  have hsub : ∀ y ∈ D0, y ∈ D1.map g := fun y hy => by
    obtain ⟨i, hi⟩ := List.getElem?_of_mem (mem_dist.1 hy)
    have hi' : i < rows.length := by have := (List.getElem?_eq_some_iff.1 hi).1; omega
    obtain ⟨x, hx⟩ : ∃ x, (keysR rows out (k + 1))[i]? = some x := ⟨_, List.getElem?_eq_getElem (by omega)⟩
    have := gk i hi' x hx
    rw [hi] at this
    exact List.mem_map.2 ⟨x, mem_dist.2 (List.mem_of_getElem? hx), (Option.some.inj this).symm⟩
  have hnd : (D1.map g).Nodup := nodup_of_sub_len D0 _ (dist_nodup _) hsub (by
    have h1 : D1.length = D0.length := h
    rw [List.length_map]
    omega)
  have ginj : ∀ x ∈ D1, ∀ x' ∈ D1, g x = g x' → x = x' := fun x hx x' hx' e => by
    obtain ⟨i, hi⟩ := List.getElem?_of_mem hx
    obtain ⟨j, hj⟩ := List.getElem?_of_mem hx'
    have h1 : (D1.map g)[i]? = some (g x) := by rw [List.getElem?_map, hi]; rfl
    have h2 : (D1.map g)[j]? = some (g x) := by rw [List.getElem?_map, hj, e]; rfl
    have := (idxOf_get hnd h1).symm.trans (idxOf_get hnd h2)
    subst this
    rw [hi] at hj
    exact Option.some.inj hj
  refine numb_same _ _ (by omega) fun i j hi hj => ?_
  rw [hl1] at hi hj
  obtain ⟨x, hx⟩ : ∃ x, (keysR rows out (k + 1))[i]? = some x := ⟨_, List.getElem?_eq_getElem (by omega)⟩
  obtain ⟨y, hy⟩ : ∃ y, (keysR rows out (k + 1))[j]? = some y := ⟨_, List.getElem?_eq_getElem (by omega)⟩
  rw [hx, hy, gk i hi x hx, gk j hj y hy]
  constructor
  · intro e; rw [Option.some.inj e]
  · intro e
    rw [ginj x (mem_dist.2 (List.mem_of_getElem? hx)) y (mem_dist.2 (List.mem_of_getElem? hy)) (Option.some.inj e)]
theorem cnt_up {rows : List (List Int)} {out : List Int} {n : Nat} (A : Auto rows out n) (k : Nat) : cntR rows out k ≤ cntR rows out (k + 1) := by
  refine Nat.le_trans (nodup_sub_len (dist (keysR rows out k)) ((dist (keysR rows out (k + 1))).map fun x => (keysR rows out k).getD (ix (keysR rows out (k + 1)) x) []) (dist_nodup _) fun y hy => ?_) (by simp [cntR])
  have hl1 := keysR_len rows out (k + 1)
  have hl0 := keysR_len rows out k
  obtain ⟨i, hi⟩ := List.getElem?_of_mem (mem_dist.1 hy)
  have hi' : i < rows.length := by have := (List.getElem?_eq_some_iff.1 hi).1; omega
  obtain ⟨x, hx⟩ : ∃ x, (keysR rows out (k + 1))[i]? = some x := ⟨_, List.getElem?_eq_getElem (by omega)⟩
  have hm := List.mem_of_getElem? hx
  have hj := idxOf_lt hm
  rw [hl1] at hj
  have h1 : (clsR rows out (k + 1)).getD (ix (keysR rows out (k + 1)) x) 0 = (clsR rows out (k + 1)).getD i 0 := by
    rw [List.getD_eq_getElem?_getD, List.getD_eq_getElem?_getD]
    show ((numb _)[_]?).getD 0 = ((numb _)[_]?).getD 0
    rw [numb_get hx, numb_get (get_idxOf hm)]
  have h2 := refines A k hj hi' h1
  obtain ⟨z, hz⟩ : ∃ z, (keysR rows out k)[ix (keysR rows out (k + 1)) x]? = some z := ⟨_, List.getElem?_eq_getElem (by omega)⟩
  rw [List.getD_eq_getElem?_getD, List.getD_eq_getElem?_getD] at h2
  have h4 : ((numb (keysR rows out k))[ix (keysR rows out (k + 1)) x]?).getD 0 = ((numb (keysR rows out k))[i]?).getD 0 := h2
  rw [numb_get hz, numb_get hi] at h4
  have h5 := (numb_eq_iff hz hi).1 (by rw [numb_get hz, numb_get hi]; exact congrArg some h4)
  refine List.mem_map.2 ⟨x, mem_dist.2 hm, ?_⟩
  rw [List.getD_eq_getElem?_getD, hz, h5]
  rfl
theorem stable_on {rows : List (List Int)} {out : List Int} {k : Nat} (h : clsR rows out (k + 1) = clsR rows out k) : ∀ j, k ≤ j → clsR rows out j = clsR rows out k := by
  intro j hj
  obtain ⟨d, rfl⟩ := Nat.le.dest hj
  induction d with
  | zero => rfl
  | succ d ih =>
    have ih := ih (by omega)
    have e : keysR rows out (k + d + 1) = keysR rows out (k + 1) := by
      show keysOf rows out (clsR rows out (k + d)) = keysOf rows out (clsR rows out k)
      rw [ih]
    show numb (keysR rows out (k + d + 1)) = _
    rw [e]
    exact h
/-- The classes of the states. -/
def classes (rows : List (List Int)) (out : List Int) : List Int := clsR rows out (rows.length + 1)
theorem classes_at {rows : List (List Int)} {out : List Int} {n : Nat} (A : Auto rows out n) {k : Nat} (hk : k ≤ rows.length + 1) (h : cntR rows out (k + 1) = cntR rows out k) : clsR rows out (k + 1) = classes rows out ∧ clsR rows out k = classes rows out := by
  have h1 := stable A h
  have h2 := stable_on h1 (rows.length + 1) hk
  exact ⟨h1.trans h2.symm, h2.symm⟩
/-- The rounds come to an end. -/
theorem stops {rows : List (List Int)} {out : List Int} {n : Nat} (A : Auto rows out n) (k : Nat) (h : ∀ j < k, cntR rows out (j + 1) ≠ cntR rows out j) : k + 1 ≤ cntR rows out k := by
  induction k with
  | zero => rw [cntR_zero out A.closed.1]; omega
  | succ k ih =>
    have h1 := ih (fun j hj => h j (by omega))
    have h2 := cnt_up A (out := out) k
    have h3 := h k (by omega)
    omega
theorem stops_le {rows : List (List Int)} {out : List Int} {n : Nat} (A : Auto rows out n) (k : Nat) (h : ∀ j < k, cntR rows out (j + 1) ≠ cntR rows out j) : k < rows.length := by
  have := stops A k h
  have := cntR_le rows out k
  omega
theorem classes_fix {rows : List (List Int)} {out : List Int} {n : Nat} (A : Auto rows out n) : clsR rows out (rows.length + 2) = classes rows out ∧ clsR rows out rows.length = classes rows out := by
  have : ∃ j < rows.length, cntR rows out (j + 1) = cntR rows out j := by
    refine Classical.byContradiction fun hn => ?_
    have := stops_le A rows.length (fun j hj e => hn ⟨j, hj, e⟩)
    omega
  obtain ⟨j, hj, e⟩ := this
  have h1 := stable A e
  have h2 := stable_on h1
  refine ⟨(h2 _ (by omega)).trans (h2 (rows.length + 1) (by omega)).symm, (h2 _ (by omega)).trans (h2 (rows.length + 1) (by omega)).symm⟩
/-! ### the model's way to the classes -/
/-- The model's key: the state's class and those of its next states. -/
def keyM (rows : List (List Int)) (cls : List Int) (s : Nat) : List Int := cls.getD s 0 :: (rows.getD s []).map fun x => cls.getD x.toNat 0
def clsM (rows : List (List Int)) (out : List Int) : Nat → List Int
  | 0 => numb (out.map fun o => [o])
  | k + 1 => numb ((List.range rows.length).map (keyM rows (clsM rows out k)))
theorem clsM_eq {rows : List (List Int)} {out : List Int} {n : Nat} (A : Auto rows out n) : ∀ k, clsM rows out k = clsR rows out (k + 1)
  | 0 => by
    refine numb_same _ _ (by rw [List.length_map, keysR_len, A.terms]) fun i j hi hj => ?_
    rw [List.length_map, A.terms] at hi hj
    have z : ∀ x : Nat, (clsR rows out 0).getD x 0 = 0 := fun x => by
      rw [clsR_zero, List.getD_eq_getElem?_getD, List.getElem?_replicate]
      split <;> rfl
    have o : ∀ i < rows.length, (out.map fun o => [o])[i]? = some [out.getD i 0] := fun i hi => by
      rw [List.getElem?_map, List.getD_eq_getElem?_getD, List.getElem?_eq_getElem (by rw [A.terms]; exact hi)]
      rfl
    rw [o i hi, o j hj, keysR_get rows out 0 hi, keysR_get rows out 0 hj, Option.some.injEq, Option.some.injEq, keyC_iff A hi hj]
    simp only [z, List.cons.injEq, and_true, implies_true]
  | k + 1 => by
    have ih := clsM_eq A k
    rw [clsM, ih]
    refine numb_same _ _ (by rw [keysR_len]; simp) fun i j hi hj => ?_
    rw [List.length_map, List.length_range] at hi hj
    have o : ∀ i < rows.length, ((List.range rows.length).map (keyM rows (clsR rows out (k + 1))))[i]? = some (keyM rows (clsR rows out (k + 1)) i) := fun i hi => by simp [hi]
    rw [o i hi, o j hj, keysR_get rows out (k + 1) hi, keysR_get rows out (k + 1) hj, Option.some.injEq, Option.some.injEq, keyC_iff A hi hj]
    have A' : Auto rows (clsR rows out (k + 1)) n := ⟨A.closed, A.width, clsR_len _ _ _⟩
    have h0 : keyM rows (clsR rows out (k + 1)) i = keyM rows (clsR rows out (k + 1)) j ↔ _ := keyC_iff (cls := clsR rows out (k + 1)) A' hi hj
    rw [h0]
    refine and_congr_left fun h2 => ⟨fun h1 => ?_, fun h1 => ?_⟩
    · rw [cls_iff hi hj, keyC_iff A hi hj] at h1
      exact h1.1
    · rw [cls_iff hi hj, keyC_iff A hi hj]
      exact ⟨h1, fun d hd => refines A k (next_lt A hi hd).2 (next_lt A hj hd).2 (h2 d hd)⟩
theorem clsM_end {rows : List (List Int)} {out : List Int} {n : Nat} (A : Auto rows out n) : clsM rows out rows.length = classes rows out := clsM_eq A _
def classV (b : Int) (rows : List (List Int)) (out : List Int) : List Int := if seqB b rows out = true then classes rows out else []
/-! ### the merged sequence and the minimal form -/
/-- The keys of the classes, in the order of their numbers. -/
def keysQ (rows : List (List Int)) (out : List Int) : List (List Int) := dist (keysOf rows out (classes rows out))
def rowsQ (rows : List (List Int)) (out : List Int) : List (List Int) := (keysQ rows out).map List.tail
def outQ (rows : List (List Int)) (out : List Int) : List Int := (keysQ rows out).map fun k => k.headD 0
theorem keysR_fix {rows : List (List Int)} {out : List Int} {n : Nat} (A : Auto rows out n) : numb (keysOf rows out (classes rows out)) = classes rows out := (classes_fix A).1
theorem keysQ_at {rows : List (List Int)} {out : List Int} {n : Nat} (A : Auto rows out n) {k : Nat} (hk : k ≤ rows.length + 1) (h : cntR rows out (k + 1) = cntR rows out k) : dist (keysR rows out (k + 1)) = keysQ rows out := by
  show dist (keysOf rows out (clsR rows out k)) = _
  rw [(classes_at A hk h).2]
  rfl
theorem keysQ_len (rows : List (List Int)) (out : List Int) : (keysQ rows out).length ≤ rows.length := by
  have := dist_le (keysOf rows out (classes rows out))
  simpa [keysQ, keysOf] using this
theorem classes_len (rows : List (List Int)) (out : List Int) : (classes rows out).length = rows.length := clsR_len _ _ _
/-- A state's class is the place of its key. -/
theorem class_at {rows : List (List Int)} {out : List Int} {n : Nat} (A : Auto rows out n) {s : Nat} (hs : s < rows.length) :
    (classes rows out).getD s 0 = (ix (keysQ rows out) (keyC rows out (classes rows out) s) : Int) ∧ (keysQ rows out)[((classes rows out).getD s 0).toNat]? = some (keyC rows out (classes rows out) s) := by
  have h1 : (keysOf rows out (classes rows out))[s]? = some (keyC rows out (classes rows out) s) := by simp [keysOf, hs]
  have h2 := numb_get h1
  rw [keysR_fix A] at h2
  have h3 : (classes rows out).getD s 0 = (ix (keysQ rows out) (keyC rows out (classes rows out) s) : Int) := by
    rw [List.getD_eq_getElem?_getD, h2]
    rfl
  refine ⟨h3, ?_⟩
  rw [h3]
  exact get_idxOf (mem_dist.2 (List.mem_of_getElem? h1))
theorem class_lt {rows : List (List Int)} {out : List Int} {n : Nat} (A : Auto rows out n) {s : Nat} (hs : s < rows.length) : 0 ≤ (classes rows out).getD s 0 ∧ (classes rows out).getD s 0 < (rowsQ rows out).length := by
  have h := (class_at A hs).2
  have h1 := (List.getElem?_eq_some_iff.1 h).1
  have h2 := (class_at A hs).1
  simp only [rowsQ, List.length_map]
  omega
/-- The row and the term of a state's class. -/
theorem rowsQ_at {rows : List (List Int)} {out : List Int} {n : Nat} (A : Auto rows out n) {s : Nat} (hs : s < rows.length) :
    rowOf (rowsQ rows out) ((classes rows out).getD s 0) = (rows.getD s []).map (fun x => (classes rows out).getD x.toNat 0) ∧ (outQ rows out).getD ((classes rows out).getD s 0).toNat 0 = out.getD s 0 := by
  have h := (class_at A hs).2
  constructor
  · rw [rowOf, rowsQ, List.getD_eq_getElem?_getD, List.getElem?_map, h]
    rfl
  · rw [outQ, List.getD_eq_getElem?_getD (l := List.map _ _), List.getElem?_map, h]
    rfl
theorem keysQ_mem {rows : List (List Int)} {out k : List Int} (h : k ∈ keysQ rows out) : ∃ s < rows.length, k = keyC rows out (classes rows out) s := by
  have h1 := mem_dist.1 h
  simp only [keysOf, List.mem_map, List.mem_range] at h1
  obtain ⟨s, hs, rfl⟩ := h1
  exact ⟨s, hs, rfl⟩
theorem class_zero {rows : List (List Int)} {out : List Int} {n : Nat} (A : Auto rows out n) : (classes rows out).getD 0 0 = 0 := by
  have h := (class_at A A.closed.1).1
  rw [h]
  have h1 : (keysOf rows out (classes rows out))[0]? = some (keyC rows out (classes rows out) 0) := by simp [keysOf, A.closed.1]
  obtain ⟨t, ht⟩ : ∃ t, keysOf rows out (classes rows out) = [keyC rows out (classes rows out) 0] ++ t := by
    cases hk : keysOf rows out (classes rows out) with
    | nil => rw [hk] at h1; simp at h1
    | cons a l =>
      rw [hk] at h1
      simp at h1
      exact ⟨l, by rw [h1]; rfl⟩
  have h2 : ix (keysQ rows out) (keyC rows out (classes rows out) 0) = ix (dist [keyC rows out (classes rows out) 0]) (keyC rows out (classes rows out) 0) := by
    rw [keysQ, ht]
    exact idxOf_prefix (dist_prefix _ _) (mem_dist.2 (by simp))
  rw [h2]
  simp [dist, addAll, addTo, ix]
/-- The merged sequence. -/
theorem rowsQ_auto {rows : List (List Int)} {out : List Int} {n : Nat} (A : Auto rows out n) : Auto (rowsQ rows out) (outQ rows out) n := by
  have hrow : ∀ r ∈ rowsQ rows out, ∃ s < rows.length, r = (rows.getD s []).map fun x => (classes rows out).getD x.toNat 0 := fun r hr => by
    obtain ⟨k, hk, rfl⟩ := List.mem_map.1 hr
    obtain ⟨s, hs, rfl⟩ := keysQ_mem hk
    exact ⟨s, hs, rfl⟩
  have hget : ∀ s < rows.length, rows.getD s [] ∈ rows := fun s hs => by
    rw [List.getD_eq_getElem?_getD, List.getElem?_eq_getElem hs]
    exact List.getElem_mem _
  refine ⟨⟨?_, fun r hr x hx => ?_⟩, fun r hr => ?_, by simp [outQ, rowsQ]⟩
  · have := class_lt A A.closed.1
    omega
  · obtain ⟨s, hs, rfl⟩ := hrow r hr
    obtain ⟨y, hy, rfl⟩ := List.mem_map.1 hx
    have := A.closed.2 _ (hget s hs) y hy
    exact class_lt A (by omega)
  · obtain ⟨s, hs, rfl⟩ := hrow r hr
    rw [List.length_map]
    exact A.width _ (hget s hs)
/-- The states of the minimal form as classes; its rows; its terms. -/
def minS (rows : List (List Int)) (out : List Int) : List Int := reached (rowsQ rows out)
def minRow (Q : List (List Int)) (L : List Int) (s : Int) : List Int := (rowOf Q s).map fun x => (ix L x : Int)
def searchR (Q : List (List Int)) : List (List Int) := (reached Q).map (minRow Q (reached Q))
def searchO (Q : List (List Int)) (o : List Int) : List Int := (reached Q).map fun s => o.getD s.toNat 0
def minR (rows : List (List Int)) (out : List Int) : List (List Int) := searchR (rowsQ rows out)
def minO (rows : List (List Int)) (out : List Int) : List Int := searchO (rowsQ rows out) (outQ rows out)
theorem searchR_auto {Q : List (List Int)} {o : List Int} {n : Nat} (A : Auto Q o n) : Auto (searchR Q) (searchO Q o) n := by
  have hz := reached_zero Q
  have hm : ∀ r ∈ searchR Q, ∃ s ∈ reached Q, r = minRow Q (reached Q) s := fun r hr => by
    obtain ⟨s, hs, rfl⟩ := List.mem_map.1 hr
    exact ⟨s, hs, rfl⟩
  have hb : ∀ s ∈ reached Q, 0 ≤ s ∧ s < Q.length := (reachI_ok A.closed _).2
  refine ⟨⟨?_, fun r hr x hx => ?_⟩, fun r hr => ?_, by simp [searchO, searchR]⟩
  · rw [searchR, List.length_map]
    exact (List.getElem?_eq_some_iff.1 hz).1
  · obtain ⟨s, hs, rfl⟩ := hm r hr
    obtain ⟨y, hy, rfl⟩ := List.mem_map.1 hx
    have h1 := idxOf_lt (reached_next A.closed hs hy)
    rw [searchR, List.length_map]
    omega
  · obtain ⟨s, hs, rfl⟩ := hm r hr
    rw [minRow, List.length_map]
    exact A.width _ (rowOf_mem (hb s hs).1 (hb s hs).2)
theorem searchO_mem {Q : List (List Int)} {o : List Int} {n : Nat} (A : Auto Q o n) : ∀ x ∈ searchO Q o, x ∈ o := fun x hx => by
  obtain ⟨s, hs, rfl⟩ := List.mem_map.1 hx
  have hb := (reachI_ok A.closed _).2 s hs
  rw [List.getD_eq_getElem?_getD, List.getElem?_eq_getElem (show s.toNat < o.length by rw [A.terms]; omega)]
  exact List.getElem_mem _
theorem outQ_mem {rows : List (List Int)} {out : List Int} {n : Nat} (A : Auto rows out n) : ∀ x ∈ outQ rows out, x ∈ out := fun x hx => by
  obtain ⟨k, hk, rfl⟩ := List.mem_map.1 hx
  obtain ⟨s, hs, rfl⟩ := keysQ_mem hk
  show out.getD s 0 ∈ out
  rw [List.getD_eq_getElem?_getD, List.getElem?_eq_getElem (show s < out.length by rw [A.terms]; omega)]
  exact List.getElem_mem _
theorem rowsQ_len (rows : List (List Int)) (out : List Int) : (rowsQ rows out).length ≤ rows.length := by
  rw [rowsQ, List.length_map]
  exact keysQ_len rows out
theorem searchR_len {Q : List (List Int)} (hc : Closed Q) : (searchR Q).length ≤ Q.length := by
  rw [searchR, List.length_map]
  exact reached_len hc
theorem isSeq_of_auto {b : Int} {rows : List (List Int)} {out : List Int} {n : Nat} (A : Auto rows out n) (hn : (n : Int) = b) (h2 : 2 ≤ b) (h4 : b ≤ 4) (hl : rows.length ≤ 16) (ho : ∀ x ∈ out, 0 ≤ x ∧ x ≤ 3) : IsSeq b rows out :=
  ⟨h2, h4, A.closed.1, hl, A.terms, fun r hr => ⟨by rw [A.width r hr]; exact hn, A.closed.2 r hr⟩, ho⟩
theorem IsSeq.merged {b : Int} {rows : List (List Int)} {out : List Int} (h : IsSeq b rows out) : IsSeq b (rowsQ rows out) (outQ rows out) := by
  have A := h.auto
  refine isSeq_of_auto (rowsQ_auto A) ?_ h.1 h.2.1 (Nat.le_trans (rowsQ_len _ _) h.2.2.2.1) fun x hx => h.2.2.2.2.2.2 x (outQ_mem A x hx)
  have := h.1
  omega
theorem IsSeq.searched {b : Int} {rows : List (List Int)} {out : List Int} (h : IsSeq b rows out) : IsSeq b (searchR rows) (searchO rows out) := by
  have A := h.auto
  refine isSeq_of_auto (searchR_auto A) ?_ h.1 h.2.1 (Nat.le_trans (searchR_len A.closed) h.2.2.2.1) fun x hx => h.2.2.2.2.2.2 x (searchO_mem A x hx)
  have := h.1
  omega
theorem IsSeq.minimal {b : Int} {rows : List (List Int)} {out : List Int} (h : IsSeq b rows out) : IsSeq b (minR rows out) (minO rows out) := h.merged.searched
end Go.Proofs.Ythnmighlgifoeaa.Plain
