/- Several texts of this proof, one behind the other: each says ahead of it what it shows and under which conditions. -/
import Derived.Test.YtodnkkofammhbaaCM3
import Derived.Test.YtodnkkofammhbaaCM1
import Derived.Test.YtodnkkofammhbaaCM2
import Derived.Deep.RegionHeld3
import Derived.Deep.DeepCutAuto
/- Plain facts on minimal forms: the states that are reached, the classes of states that no digits tell apart, the merged sequence, the minimal form. No conditions beyond those that each fact states. -/
namespace Go.Proofs.Ytodnkkofammhbaa.Plain
set_option linter.unusedVariables false
/-! ### the states that are reached -/
def rowOf (rows : List (List Int)) (s : Int) : List Int := rows.getD s.toNat []
/-- What a search has found when it has looked at i states. -/
def reachI (rows : List (List Int)) : Nat → List Int
  | 0 => [0]
  | i + 1 => match (reachI rows i)[i]? with
    | some s => addAll (reachI rows i) (rowOf rows s)
    | none => reachI rows i
theorem reachI_step {rows : List (List Int)} {i : Nat} {s : Int} (h : (reachI rows i)[i]? = some s) : reachI rows (i + 1) = addAll (reachI rows i) (rowOf rows s) := by
  rw [reachI, h]
theorem reachI_stop {rows : List (List Int)} {i : Nat} (h : (reachI rows i).length ≤ i) : reachI rows (i + 1) = reachI rows i := by
  rw [reachI, List.getElem?_eq_none h]
theorem reachI_over {rows : List (List Int)} {i : Nat} (h : (reachI rows i).length ≤ i) : ∀ j, i ≤ j → reachI rows j = reachI rows i := by
  intro j hj
  obtain ⟨d, rfl⟩ := Nat.le.dest hj
  induction d with
  | zero => rfl
  | succ d ih =>
    have ih := ih (by omega)
    rw [← Nat.add_assoc, reachI_stop (by rw [ih]; omega), ih]
/-- All next states are states. -/
def Closed (rows : List (List Int)) : Prop := 0 < rows.length ∧ ∀ r ∈ rows, ∀ x ∈ r, 0 ≤ x ∧ x < (rows.length : Int)
theorem IsSeq.closed {b : Int} {rows : List (List Int)} {out : List Int} (h : IsSeq b rows out) : Closed rows := ⟨h.2.2.1, fun r hr x hx => (h.2.2.2.2.2.1 r hr).2 x hx⟩
theorem rowOf_mem {rows : List (List Int)} {s : Int} (h0 : 0 ≤ s) (h1 : s < rows.length) : rowOf rows s ∈ rows := by
  have h2 : s.toNat < rows.length := by omega
  rw [rowOf, List.getD_eq_getElem?_getD, List.getElem?_eq_getElem h2]
  exact List.getElem_mem _
theorem rowOf_get {rows : List (List Int)} {s : Int} (h0 : 0 ≤ s) (h1 : s < rows.length) : rows[s.toNat]? = some (rowOf rows s) := by
  have h2 : s.toNat < rows.length := by omega
  rw [rowOf, List.getD_eq_getElem?_getD, List.getElem?_eq_getElem h2]
  rfl
theorem reachI_ok {rows : List (List Int)} (hc : Closed rows) : ∀ i, (reachI rows i).Nodup ∧ ∀ x ∈ reachI rows i, 0 ≤ x ∧ x < (rows.length : Int)
  | 0 => ⟨by simp [reachI], fun x hx => by
      have : x = 0 := by simpa [reachI] using hx
      have := hc.1
      omega⟩
  | i + 1 => by
    obtain ⟨h1, h2⟩ := reachI_ok hc i
    cases hs : (reachI rows i)[i]? with
    | none =>
      rw [reachI, hs]
      exact ⟨h1, h2⟩
    | some s =>
      rw [reachI_step hs]
      have h3 := h2 s (List.mem_of_getElem? hs)
      refine ⟨addAll_nodup _ _ h1, fun x hx => ?_⟩
      rcases (mem_addAll _ _ _).1 hx with h | h
      · exact h2 x h
      · exact hc.2 _ (rowOf_mem h3.1 h3.2) x h
theorem reachI_len {rows : List (List Int)} (hc : Closed rows) (i : Nat) : (reachI rows i).length ≤ rows.length := nodup_bounded _ _ (reachI_ok hc i).1 (reachI_ok hc i).2
theorem reachI_prefix_succ (rows : List (List Int)) (i : Nat) : reachI rows i <+: reachI rows (i + 1) := by
  cases hs : (reachI rows i)[i]? with
  | none => rw [reachI, hs]; exact List.prefix_refl _
  | some s => rw [reachI_step hs]; exact addAll_prefix _ _
theorem reachI_prefix (rows : List (List Int)) {i j : Nat} (h : i ≤ j) : reachI rows i <+: reachI rows j := by
  obtain ⟨d, rfl⟩ := Nat.le.dest h
  induction d with
  | zero => exact List.prefix_refl _
  | succ d ih => exact (ih (by omega)).trans (reachI_prefix_succ rows _)
/-- All that is reached. -/
def reached (rows : List (List Int)) : List Int := reachI rows rows.length
theorem reachI_end {rows : List (List Int)} (hc : Closed rows) {i : Nat} (h : (reachI rows i).length ≤ i) : reachI rows i = reached rows := by
  have h1 := reachI_over h
  have h2 : (reachI rows rows.length).length ≤ rows.length := reachI_len hc _
  rcases Nat.le_total i rows.length with h3 | h3
  · exact (h1 _ h3).symm
  · exact reachI_over h2 i h3
theorem reached_len {rows : List (List Int)} (hc : Closed rows) : (reached rows).length ≤ rows.length := reachI_len hc _
theorem reachI_sub {rows : List (List Int)} (hc : Closed rows) (i : Nat) : reachI rows i <+: reached rows := by
  rcases Nat.le_total i rows.length with h3 | h3
  · exact reachI_prefix rows h3
  · rw [reachI_over (reachI_len hc _) i h3]; exact List.prefix_refl _
theorem reached_zero (rows : List (List Int)) : (reached rows)[0]? = some 0 := by
  obtain ⟨t, ht⟩ := reachI_prefix rows (Nat.zero_le rows.length)
  rw [reached, ← ht]
  rfl
/-- What is reached is closed. -/
theorem reached_next {rows : List (List Int)} (hc : Closed rows) {s x : Int} (hs : s ∈ reached rows) (hx : x ∈ rowOf rows s) : x ∈ reached rows := by
  obtain ⟨i, hi⟩ := List.getElem?_of_mem hs
  have hl : i < rows.length := Nat.lt_of_lt_of_le (List.getElem?_eq_some_iff.1 hi).1 (reached_len hc)
  have h1 : (reachI rows i)[i]? = some s ∨ (reachI rows i).length ≤ i := by
    rcases Nat.lt_or_ge i (reachI rows i).length with h2 | h2
    · left
      obtain ⟨t, ht⟩ := reachI_sub hc i
      rw [← ht, List.getElem?_append_left h2] at hi
      exact hi
    · exact .inr h2
  rcases h1 with h1 | h1
  · obtain ⟨t, ht⟩ := reachI_sub hc (i + 1)
    rw [← ht, reachI_step h1]
    simp [mem_addAll, hx]
  · have h2 := reachI_end hc h1
    rw [h2] at h1
    have := (List.getElem?_eq_some_iff.1 hi).1
    omega
def reachV (b : Int) (rows : List (List Int)) (out : List Int) : List Int := if seqB b rows out = true then reached rows else []
/-! ### the classes -/
/-- What tells a state: its term and the classes of its next states. -/
def keyC (rows : List (List Int)) (out cls : List Int) (s : Nat) : List Int := out.getD s 0 :: (rows.getD s []).map fun x => cls.getD x.toNat 0
def keysOf (rows : List (List Int)) (out cls : List Int) : List (List Int) := (List.range rows.length).map (keyC rows out cls)
/-- The keys of round k, the classes behind it. -/
def keysR (rows : List (List Int)) (out : List Int) : Nat → List (List Int)
  | 0 => List.replicate rows.length []
  | k + 1 => keysOf rows out (numb (keysR rows out k))
def clsR (rows : List (List Int)) (out : List Int) (k : Nat) : List Int := numb (keysR rows out k)
theorem keysR_len (rows : List (List Int)) (out : List Int) : ∀ k, (keysR rows out k).length = rows.length
  | 0 => by simp [keysR]
  | k + 1 => by simp [keysR, keysOf]
theorem clsR_len (rows : List (List Int)) (out : List Int) (k : Nat) : (clsR rows out k).length = rows.length := by rw [clsR, numb_len, keysR_len]
theorem keysR_get (rows : List (List Int)) (out : List Int) (k : Nat) {i : Nat} (h : i < rows.length) : (keysR rows out (k + 1))[i]? = some (keyC rows out (clsR rows out k) i) := by
  simp [keysR, keysOf, clsR, h]
theorem addAll_rep {α : Type} [DecidableEq α] (x : α) (l : List α) : ∀ n, addAll (x :: l) (List.replicate n x) = x :: l
  | 0 => rfl
  | n + 1 => by
    rw [List.replicate_succ, addAll_cons, addTo_in (by simp)]
    exact addAll_rep x l n
theorem dist_rep {α : Type} [DecidableEq α] (x : α) (n : Nat) : dist (List.replicate (n + 1) x) = [x] := by
  rw [dist, List.replicate_succ, addAll_cons, addTo_new (by simp)]
  exact addAll_rep x [] n
theorem numb_rep {α : Type} [DecidableEq α] (x : α) (n : Nat) : numb (List.replicate n x) = List.replicate n 0 := by
  cases n with
  | zero => rfl
  | succ n =>
    rw [numb, dist_rep]
    simp [ix]
theorem clsR_zero (rows : List (List Int)) (out : List Int) : clsR rows out 0 = List.replicate rows.length 0 := numb_rep _ _
/-- How many classes there are in round k. -/
def cntR (rows : List (List Int)) (out : List Int) (k : Nat) : Nat := (dist (keysR rows out k)).length
theorem cntR_zero {rows : List (List Int)} (out : List Int) (h : 0 < rows.length) : cntR rows out 0 = 1 := by
  obtain ⟨n, hn⟩ : ∃ n, rows.length = n + 1 := ⟨rows.length - 1, by omega⟩
  rw [cntR, keysR, hn, dist_rep]
  rfl
theorem dist_le {α : Type} [DecidableEq α] (keys : List α) : (dist keys).length ≤ keys.length := nodup_sub_len _ _ (dist_nodup _) (fun x hx => mem_dist.1 hx)
theorem cntR_le (rows : List (List Int)) (out : List Int) (k : Nat) : cntR rows out k ≤ rows.length := by
  have := dist_le (keysR rows out k)
  rw [keysR_len] at this
  exact this
/-- Rows of states. -/
structure Auto (rows : List (List Int)) (out : List Int) (n : Nat) : Prop where
  closed : Closed rows
  width : ∀ r ∈ rows, r.length = n
  terms : out.length = rows.length
theorem IsSeq.auto {b : Int} {rows : List (List Int)} {out : List Int} (h : IsSeq b rows out) : Auto rows out b.toNat := ⟨h.closed, fun r hr => by have := (h.2.2.2.2.2.1 r hr).1; omega, h.2.2.2.2.1⟩
theorem keyC_iff {rows : List (List Int)} {out cls : List Int} {n : Nat} (A : Auto rows out n) {i j : Nat} (hi : i < rows.length) (hj : j < rows.length) :
    keyC rows out cls i = keyC rows out cls j ↔ out.getD i 0 = out.getD j 0 ∧ ∀ d < n, cls.getD ((rows.getD i []).getD d 0).toNat 0 = cls.getD ((rows.getD j []).getD d 0).toNat 0 := by
  have w : ∀ i < rows.length, (rows.getD i []).length = n := fun i hi => by
    rw [List.getD_eq_getElem?_getD, List.getElem?_eq_getElem hi]
    exact A.width _ (List.getElem_mem _)
  have wi := w i hi
  have wj := w j hj
  have g : ∀ (l : List Int), l.length = n → ∀ d < n, (l.map fun x => cls.getD x.toNat 0)[d]? = some (cls.getD (l.getD d 0).toNat 0) := fun l hl d hd => by
    have hd' : d < l.length := by omega
    rw [List.getElem?_map, show l.getD d 0 = l[d] by simp [List.getD_eq_getElem?_getD, hd'], List.getElem?_eq_getElem hd']
    rfl
  unfold keyC
  rw [List.cons.injEq]
  refine and_congr_right fun _ => ⟨fun h d hd => ?_, fun h => ?_⟩
  · have h1 := g _ wi d hd
    rw [h, g _ wj d hd] at h1
    exact (Option.some.inj h1).symm
  · apply List.ext_getElem?
    intro d
    rcases Nat.lt_or_ge d n with hd | hd
    · rw [g _ wi d hd, g _ wj d hd, h d hd]
    · rw [List.getElem?_eq_none (by simp only [List.length_map]; omega), List.getElem?_eq_none (by simp only [List.length_map]; omega)]
theorem cls_iff {rows : List (List Int)} {out : List Int} {k i j : Nat} (hi : i < rows.length) (hj : j < rows.length) :
    (clsR rows out (k + 1)).getD i 0 = (clsR rows out (k + 1)).getD j 0 ↔ keyC rows out (clsR rows out k) i = keyC rows out (clsR rows out k) j := by
  have h1 := keysR_get rows out k hi
  have h2 := keysR_get rows out k hj
  have h3 := numb_eq_iff h1 h2
  rw [← h3, List.getD_eq_getElem?_getD, List.getD_eq_getElem?_getD]
  show ((numb (keysR rows out (k + 1)))[i]?).getD 0 = ((numb (keysR rows out (k + 1)))[j]?).getD 0 ↔ _
  rw [numb_get h1, numb_get h2]
  simp
theorem next_lt {rows : List (List Int)} {out : List Int} {n : Nat} (A : Auto rows out n) {i d : Nat} (hi : i < rows.length) (hd : d < n) : 0 ≤ (rows.getD i []).getD d 0 ∧ ((rows.getD i []).getD d 0).toNat < rows.length := by
  have h1 : rows.getD i [] ∈ rows := by
    rw [List.getD_eq_getElem?_getD, List.getElem?_eq_getElem hi]
    exact List.getElem_mem _
  have h2 := A.width _ h1
  have h3 : (rows.getD i []).getD d 0 ∈ rows.getD i [] := by
    rw [List.getD_eq_getElem?_getD (l := rows.getD i []), List.getElem?_eq_getElem (by omega)]
    exact List.getElem_mem _
  have := A.closed.2 _ h1 _ h3
  omega
/-- Each round divides the classes of the round before. -/
theorem refines {rows : List (List Int)} {out : List Int} {n : Nat} (A : Auto rows out n) : ∀ (k : Nat) {i j : Nat}, i < rows.length → j < rows.length → (clsR rows out (k + 1)).getD i 0 = (clsR rows out (k + 1)).getD j 0 → (clsR rows out k).getD i 0 = (clsR rows out k).getD j 0
  | 0, i, j, hi, hj, _ => by
    rw [clsR_zero]
    simp [List.getD_eq_getElem?_getD, hi, hj]
  | k + 1, i, j, hi, hj, h => by
    rw [cls_iff hi hj, keyC_iff A hi hj] at h ⊢
    exact ⟨h.1, fun d hd => refines A k (next_lt A hi hd).2 (next_lt A hj hd).2 (h.2 d hd)⟩
/-- As many classes as before: the same ones. -/
theorem stable {rows : List (List Int)} {out : List Int} {n : Nat} (A : Auto rows out n) {k : Nat} (h : cntR rows out (k + 1) = cntR rows out k) : clsR rows out (k + 1) = clsR rows out k := by
  have hpos : 0 < rows.length := A.closed.1
  -- the classes of round k as a function of those of round k + 1
  have hl1 := keysR_len rows out (k + 1)
  have hl0 := keysR_len rows out k
  let D1 := dist (keysR rows out (k + 1))
  let D0 := dist (keysR rows out k)
  let g : List Int → List Int := fun x => (keysR rows out k).getD (ix (keysR rows out (k + 1)) x) []
  have gk : ∀ i, i < rows.length → ∀ x, (keysR rows out (k + 1))[i]? = some x → (keysR rows out k)[i]? = some (g x) := fun i hi x hx => by
    have hm := List.mem_of_getElem? hx
    have hj := idxOf_lt hm
    rw [hl1] at hj
    have h1 : (clsR rows out (k + 1)).getD (ix (keysR rows out (k + 1)) x) 0 = (clsR rows out (k + 1)).getD i 0 := by
      rw [List.getD_eq_getElem?_getD, List.getD_eq_getElem?_getD]
      show ((numb _)[_]?).getD 0 = ((numb _)[_]?).getD 0
      rw [numb_get hx, numb_get (get_idxOf hm)]
    have h2 := refines A k hj hi h1
    obtain ⟨y, hy⟩ : ∃ y, (keysR rows out k)[i]? = some y := ⟨_, List.getElem?_eq_getElem (by omega)⟩
    obtain ⟨z, hz⟩ : ∃ z, (keysR rows out k)[ix (keysR rows out (k + 1)) x]? = some z := ⟨_, List.getElem?_eq_getElem (by omega)⟩
    have h3 : (numb (keysR rows out k))[ix (keysR rows out (k + 1)) x]? = (numb (keysR rows out k))[i]? := by
      rw [List.getD_eq_getElem?_getD, List.getD_eq_getElem?_getD] at h2
      rw [numb_get hz, numb_get hy]
      have h4 : ((numb (keysR rows out k))[ix (keysR rows out (k + 1)) x]?).getD 0 = ((numb (keysR rows out k))[i]?).getD 0 := h2
      rw [numb_get hz, numb_get hy] at h4
      exact congrArg some h4
    have h5 := (numb_eq_iff hz hy).1 h3
    show _ = some ((keysR rows out k).getD _ [])
    rw [List.getD_eq_getElem?_getD, hz, hy, h5]
    rfl
  have hsub : ∀ y ∈ D0, y ∈ D1.map g := fun y hy => by
    obtain ⟨i, hi⟩ := List.getElem?_of_mem (mem_dist.1 hy)
    have hi' : i < rows.length := by have := (List.getElem?_eq_some_iff.1 hi).1; omega
    obtain ⟨x, hx⟩ : ∃ x, (keysR rows out (k + 1))[i]? = some x := ⟨_, List.getElem?_eq_getElem (by omega)⟩
    have := gk i hi' x hx
    rw [hi] at this
    exact List.mem_map.2 ⟨x, mem_dist.2 (List.mem_of_getElem? hx), (Option.some.inj this).symm⟩
  have hnd : (D1.map g).Nodup := nodup_of_sub_len D0 _ (dist_nodup _) hsub (by
    have h1 : D1.length = D0.length := h
    rw [List.length_map]
    omega)
  have ginj : ∀ x ∈ D1, ∀ x' ∈ D1, g x = g x' → x = x' := fun x hx x' hx' e => by
    obtain ⟨i, hi⟩ := List.getElem?_of_mem hx
    obtain ⟨j, hj⟩ := List.getElem?_of_mem hx'
    have h1 : (D1.map g)[i]? = some (g x) := by rw [List.getElem?_map, hi]; rfl
    have h2 : (D1.map g)[j]? = some (g x) := by rw [List.getElem?_map, hj, e]; rfl
    have := (idxOf_get hnd h1).symm.trans (idxOf_get hnd h2)
    subst this
    rw [hi] at hj
    exact Option.some.inj hj
  refine numb_same _ _ (by omega) fun i j hi hj => ?_
  rw [hl1] at hi hj
  obtain ⟨x, hx⟩ : ∃ x, (keysR rows out (k + 1))[i]? = some x := ⟨_, List.getElem?_eq_getElem (by omega)⟩
  obtain ⟨y, hy⟩ : ∃ y, (keysR rows out (k + 1))[j]? = some y := ⟨_, List.getElem?_eq_getElem (by omega)⟩
  rw [hx, hy, gk i hi x hx, gk j hj y hy]
  constructor
  · intro e; rw [Option.some.inj e]
  · intro e
    rw [ginj x (mem_dist.2 (List.mem_of_getElem? hx)) y (mem_dist.2 (List.mem_of_getElem? hy)) (Option.some.inj e)]
theorem cnt_up {rows : List (List Int)} {out : List Int} {n : Nat} (A : Auto rows out n) (k : Nat) : cntR rows out k ≤ cntR rows out (k + 1) := by
  refine Nat.le_trans (nodup_sub_len (dist (keysR rows out k)) ((dist (keysR rows out (k + 1))).map fun x => (keysR rows out k).getD (ix (keysR rows out (k + 1)) x) []) (dist_nodup _) fun y hy => ?_) (by simp [cntR])
  have hl1 := keysR_len rows out (k + 1)
  have hl0 := keysR_len rows out k
  obtain ⟨i, hi⟩ := List.getElem?_of_mem (mem_dist.1 hy)
  have hi' : i < rows.length := by have := (List.getElem?_eq_some_iff.1 hi).1; omega
  obtain ⟨x, hx⟩ : ∃ x, (keysR rows out (k + 1))[i]? = some x := ⟨_, List.getElem?_eq_getElem (by omega)⟩
  have hm := List.mem_of_getElem? hx
  have hj := idxOf_lt hm
  rw [hl1] at hj
  have h1 : (clsR rows out (k + 1)).getD (ix (keysR rows out (k + 1)) x) 0 = (clsR rows out (k + 1)).getD i 0 := by
    rw [List.getD_eq_getElem?_getD, List.getD_eq_getElem?_getD]
    show ((numb _)[_]?).getD 0 = ((numb _)[_]?).getD 0
    rw [numb_get hx, numb_get (get_idxOf hm)]
  have h2 := refines A k hj hi' h1
  obtain ⟨z, hz⟩ : ∃ z, (keysR rows out k)[ix (keysR rows out (k + 1)) x]? = some z := ⟨_, List.getElem?_eq_getElem (by omega)⟩
  rw [List.getD_eq_getElem?_getD, List.getD_eq_getElem?_getD] at h2
  have h4 : ((numb (keysR rows out k))[ix (keysR rows out (k + 1)) x]?).getD 0 = ((numb (keysR rows out k))[i]?).getD 0 := h2
  rw [numb_get hz, numb_get hi] at h4
  have h5 := (numb_eq_iff hz hi).1 (by rw [numb_get hz, numb_get hi]; exact congrArg some h4)
  refine List.mem_map.2 ⟨x, mem_dist.2 hm, ?_⟩
  rw [List.getD_eq_getElem?_getD, hz, h5]
  rfl
theorem stable_on {rows : List (List Int)} {out : List Int} {k : Nat} (h : clsR rows out (k + 1) = clsR rows out k) : ∀ j, k ≤ j → clsR rows out j = clsR rows out k := by
  intro j hj
  obtain ⟨d, rfl⟩ := Nat.le.dest hj
  induction d with
  | zero => rfl
  | succ d ih =>
    have ih := ih (by omega)
    have e : keysR rows out (k + d + 1) = keysR rows out (k + 1) := by
      show keysOf rows out (clsR rows out (k + d)) = keysOf rows out (clsR rows out k)
      rw [ih]
    show numb (keysR rows out (k + d + 1)) = _
    rw [e]
    exact h
/-- The classes of the states. -/
def classes (rows : List (List Int)) (out : List Int) : List Int := clsR rows out (rows.length + 1)
theorem classes_at {rows : List (List Int)} {out : List Int} {n : Nat} (A : Auto rows out n) {k : Nat} (hk : k ≤ rows.length + 1) (h : cntR rows out (k + 1) = cntR rows out k) : clsR rows out (k + 1) = classes rows out ∧ clsR rows out k = classes rows out := by
  have h1 := stable A h
  have h2 := stable_on h1 (rows.length + 1) hk
  exact ⟨h1.trans h2.symm, h2.symm⟩
/-- The rounds come to an end. -/
theorem stops {rows : List (List Int)} {out : List Int} {n : Nat} (A : Auto rows out n) (k : Nat) (h : ∀ j < k, cntR rows out (j + 1) ≠ cntR rows out j) : k + 1 ≤ cntR rows out k := by
  induction k with
  | zero => rw [cntR_zero out A.closed.1]; omega
  | succ k ih =>
    have h1 := ih (fun j hj => h j (by omega))
    have h2 := cnt_up A (out := out) k
    have h3 := h k (by omega)
    omega
theorem stops_le {rows : List (List Int)} {out : List Int} {n : Nat} (A : Auto rows out n) (k : Nat) (h : ∀ j < k, cntR rows out (j + 1) ≠ cntR rows out j) : k < rows.length := by
  have := stops A k h
  have := cntR_le rows out k
  omega
theorem classes_fix {rows : List (List Int)} {out : List Int} {n : Nat} (A : Auto rows out n) : clsR rows out (rows.length + 2) = classes rows out ∧ clsR rows out rows.length = classes rows out := by
  have : ∃ j < rows.length, cntR rows out (j + 1) = cntR rows out j := by
    refine Classical.byContradiction fun hn => ?_
    have := stops_le A rows.length (fun j hj e => hn ⟨j, hj, e⟩)
    omega
  obtain ⟨j, hj, e⟩ := this
  have h1 := stable A e
  have h2 := stable_on h1
  refine ⟨(h2 _ (by omega)).trans (h2 (rows.length + 1) (by omega)).symm, (h2 _ (by omega)).trans (h2 (rows.length + 1) (by omega)).symm⟩
/-! ### the model's way to the classes -/
/-- The model's key: the state's class and those of its next states. -/
def keyM (rows : List (List Int)) (cls : List Int) (s : Nat) : List Int := cls.getD s 0 :: (rows.getD s []).map fun x => cls.getD x.toNat 0
def clsM (rows : List (List Int)) (out : List Int) : Nat → List Int
  | 0 => numb (out.map fun o => [o])
  | k + 1 => numb ((List.range rows.length).map (keyM rows (clsM rows out k)))
theorem clsM_eq {rows : List (List Int)} {out : List Int} {n : Nat} (A : Auto rows out n) : ∀ k, clsM rows out k = clsR rows out (k + 1)
  | 0 => by
    refine numb_same _ _ (by rw [List.length_map, keysR_len, A.terms]) fun i j hi hj => ?_
    rw [List.length_map, A.terms] at hi hj
    have z : ∀ x : Nat, (clsR rows out 0).getD x 0 = 0 := fun x => by
      rw [clsR_zero, List.getD_eq_getElem?_getD, List.getElem?_replicate]
      split <;> rfl
    have o : ∀ i < rows.length, (out.map fun o => [o])[i]? = some [out.getD i 0] := fun i hi => by
      rw [List.getElem?_map, List.getD_eq_getElem?_getD, List.getElem?_eq_getElem (by rw [A.terms]; exact hi)]
      rfl
    rw [o i hi, o j hj, keysR_get rows out 0 hi, keysR_get rows out 0 hj, Option.some.injEq, Option.some.injEq, keyC_iff A hi hj]
    simp only [z, List.cons.injEq, and_true, implies_true]
  | k + 1 => by
    have ih := clsM_eq A k
    rw [clsM, ih]
    refine numb_same _ _ (by rw [keysR_len]; simp) fun i j hi hj => ?_
    rw [List.length_map, List.length_range] at hi hj
    have o : ∀ i < rows.length, ((List.range rows.length).map (keyM rows (clsR rows out (k + 1))))[i]? = some (keyM rows (clsR rows out (k + 1)) i) := fun i hi => by simp [hi]
    rw [o i hi, o j hj, keysR_get rows out (k + 1) hi, keysR_get rows out (k + 1) hj, Option.some.injEq, Option.some.injEq, keyC_iff A hi hj]
    have A' : Auto rows (clsR rows out (k + 1)) n := ⟨A.closed, A.width, clsR_len _ _ _⟩
    have h0 : keyM rows (clsR rows out (k + 1)) i = keyM rows (clsR rows out (k + 1)) j ↔ _ := keyC_iff (cls := clsR rows out (k + 1)) A' hi hj
    rw [h0]
    refine and_congr_left fun h2 => ⟨fun h1 => ?_, fun h1 => ?_⟩
    · rw [cls_iff hi hj, keyC_iff A hi hj] at h1
      exact h1.1
    · rw [cls_iff hi hj, keyC_iff A hi hj]
      exact ⟨h1, fun d hd => refines A k (next_lt A hi hd).2 (next_lt A hj hd).2 (h2 d hd)⟩
theorem clsM_end {rows : List (List Int)} {out : List Int} {n : Nat} (A : Auto rows out n) : clsM rows out rows.length = classes rows out := clsM_eq A _
def classV (b : Int) (rows : List (List Int)) (out : List Int) : List Int := if seqB b rows out = true then classes rows out else []
/-! ### the merged sequence and the minimal form -/
/-- The keys of the classes, in the order of their numbers. -/
def keysQ (rows : List (List Int)) (out : List Int) : List (List Int) := dist (keysOf rows out (classes rows out))
def rowsQ (rows : List (List Int)) (out : List Int) : List (List Int) := (keysQ rows out).map List.tail
def outQ (rows : List (List Int)) (out : List Int) : List Int := (keysQ rows out).map fun k => k.headD 0
theorem keysR_fix {rows : List (List Int)} {out : List Int} {n : Nat} (A : Auto rows out n) : numb (keysOf rows out (classes rows out)) = classes rows out := (classes_fix A).1
theorem keysQ_at {rows : List (List Int)} {out : List Int} {n : Nat} (A : Auto rows out n) {k : Nat} (hk : k ≤ rows.length + 1) (h : cntR rows out (k + 1) = cntR rows out k) : dist (keysR rows out (k + 1)) = keysQ rows out := by
  show dist (keysOf rows out (clsR rows out k)) = _
  rw [(classes_at A hk h).2]
  rfl
theorem keysQ_len (rows : List (List Int)) (out : List Int) : (keysQ rows out).length ≤ rows.length := by
  have := dist_le (keysOf rows out (classes rows out))
  simpa [keysQ, keysOf] using this
theorem classes_len (rows : List (List Int)) (out : List Int) : (classes rows out).length = rows.length := clsR_len _ _ _
/-- A state's class is the place of its key. -/
theorem class_at {rows : List (List Int)} {out : List Int} {n : Nat} (A : Auto rows out n) {s : Nat} (hs : s < rows.length) :
    (classes rows out).getD s 0 = (ix (keysQ rows out) (keyC rows out (classes rows out) s) : Int) ∧ (keysQ rows out)[((classes rows out).getD s 0).toNat]? = some (keyC rows out (classes rows out) s) := by
  have h1 : (keysOf rows out (classes rows out))[s]? = some (keyC rows out (classes rows out) s) := by simp [keysOf, hs]
  have h2 := numb_get h1
  rw [keysR_fix A] at h2
  have h3 : (classes rows out).getD s 0 = (ix (keysQ rows out) (keyC rows out (classes rows out) s) : Int) := by
    rw [List.getD_eq_getElem?_getD, h2]
    rfl
  refine ⟨h3, ?_⟩
  rw [h3]
  exact get_idxOf (mem_dist.2 (List.mem_of_getElem? h1))
theorem class_lt {rows : List (List Int)} {out : List Int} {n : Nat} (A : Auto rows out n) {s : Nat} (hs : s < rows.length) : 0 ≤ (classes rows out).getD s 0 ∧ (classes rows out).getD s 0 < (rowsQ rows out).length := by
  have h := (class_at A hs).2
  have h1 := (List.getElem?_eq_some_iff.1 h).1
  have h2 := (class_at A hs).1
  simp only [rowsQ, List.length_map]
  omega
/-- The row and the term of a state's class. -/
theorem rowsQ_at {rows : List (List Int)} {out : List Int} {n : Nat} (A : Auto rows out n) {s : Nat} (hs : s < rows.length) :
    rowOf (rowsQ rows out) ((classes rows out).getD s 0) = (rows.getD s []).map (fun x => (classes rows out).getD x.toNat 0) ∧ (outQ rows out).getD ((classes rows out).getD s 0).toNat 0 = out.getD s 0 := by
  have h := (class_at A hs).2
  constructor
  · rw [rowOf, rowsQ, List.getD_eq_getElem?_getD, List.getElem?_map, h]
    rfl
  · rw [outQ, List.getD_eq_getElem?_getD (l := List.map _ _), List.getElem?_map, h]
    rfl
theorem keysQ_mem {rows : List (List Int)} {out k : List Int} (h : k ∈ keysQ rows out) : ∃ s < rows.length, k = keyC rows out (classes rows out) s := by
  have h1 := mem_dist.1 h
  simp only [keysOf, List.mem_map, List.mem_range] at h1
  obtain ⟨s, hs, rfl⟩ := h1
  exact ⟨s, hs, rfl⟩
theorem class_zero {rows : List (List Int)} {out : List Int} {n : Nat} (A : Auto rows out n) : (classes rows out).getD 0 0 = 0 := by
  have h := (class_at A A.closed.1).1
  rw [h]
  have h1 : (keysOf rows out (classes rows out))[0]? = some (keyC rows out (classes rows out) 0) := by simp [keysOf, A.closed.1]
  obtain ⟨t, ht⟩ : ∃ t, keysOf rows out (classes rows out) = [keyC rows out (classes rows out) 0] ++ t := by
    cases hk : keysOf rows out (classes rows out) with
    | nil => rw [hk] at h1; simp at h1
    | cons a l =>
      rw [hk] at h1
      simp at h1
      exact ⟨l, by rw [h1]; rfl⟩
  have h2 : ix (keysQ rows out) (keyC rows out (classes rows out) 0) = ix (dist [keyC rows out (classes rows out) 0]) (keyC rows out (classes rows out) 0) := by
    rw [keysQ, ht]
    exact idxOf_prefix (dist_prefix _ _) (mem_dist.2 (by simp))
  rw [h2]
  simp [dist, addAll, addTo, ix]
/-- The merged sequence. -/
theorem rowsQ_auto {rows : List (List Int)} {out : List Int} {n : Nat} (A : Auto rows out n) : Auto (rowsQ rows out) (outQ rows out) n := by
  have hrow : ∀ r ∈ rowsQ rows out, ∃ s < rows.length, r = (rows.getD s []).map fun x => (classes rows out).getD x.toNat 0 := fun r hr => by
    obtain ⟨k, hk, rfl⟩ := List.mem_map.1 hr
    obtain ⟨s, hs, rfl⟩ := keysQ_mem hk
    exact ⟨s, hs, rfl⟩
  have hget : ∀ s < rows.length, rows.getD s [] ∈ rows := fun s hs => by
    rw [List.getD_eq_getElem?_getD, List.getElem?_eq_getElem hs]
    exact List.getElem_mem _
  refine ⟨⟨?_, fun r hr x hx => ?_⟩, fun r hr => ?_, by simp [outQ, rowsQ]⟩
  · have := class_lt A A.closed.1
    omega
  · obtain ⟨s, hs, rfl⟩ := hrow r hr
    obtain ⟨y, hy, rfl⟩ := List.mem_map.1 hx
    have := A.closed.2 _ (hget s hs) y hy
    exact class_lt A (by omega)
  · obtain ⟨s, hs, rfl⟩ := hrow r hr
    rw [List.length_map]
    exact A.width _ (hget s hs)
/-- The states of the minimal form as classes; its rows; its terms. -/
def minS (rows : List (List Int)) (out : List Int) : List Int := reached (rowsQ rows out)
def minRow (Q : List (List Int)) (L : List Int) (s : Int) : List Int := (rowOf Q s).map fun x => (ix L x : Int)
def searchR (Q : List (List Int)) : List (List Int) := (reached Q).map (minRow Q (reached Q))
def searchO (Q : List (List Int)) (o : List Int) : List Int := (reached Q).map fun s => o.getD s.toNat 0
def minR (rows : List (List Int)) (out : List Int) : List (List Int) := searchR (rowsQ rows out)
def minO (rows : List (List Int)) (out : List Int) : List Int := searchO (rowsQ rows out) (outQ rows out)
theorem searchR_auto {Q : List (List Int)} {o : List Int} {n : Nat} (A : Auto Q o n) : Auto (searchR Q) (searchO Q o) n := by
  have hz := reached_zero Q
  have hm : ∀ r ∈ searchR Q, ∃ s ∈ reached Q, r = minRow Q (reached Q) s := fun r hr => by
    obtain ⟨s, hs, rfl⟩ := List.mem_map.1 hr
    exact ⟨s, hs, rfl⟩
  have hb : ∀ s ∈ reached Q, 0 ≤ s ∧ s < Q.length := (reachI_ok A.closed _).2
  refine ⟨⟨?_, fun r hr x hx => ?_⟩, fun r hr => ?_, by simp [searchO, searchR]⟩
  · rw [searchR, List.length_map]
    exact (List.getElem?_eq_some_iff.1 hz).1
  · obtain ⟨s, hs, rfl⟩ := hm r hr
    obtain ⟨y, hy, rfl⟩ := List.mem_map.1 hx
    have h1 := idxOf_lt (reached_next A.closed hs hy)
    rw [searchR, List.length_map]
    omega
  · obtain ⟨s, hs, rfl⟩ := hm r hr
    rw [minRow, List.length_map]
    exact A.width _ (rowOf_mem (hb s hs).1 (hb s hs).2)
theorem searchO_mem {Q : List (List Int)} {o : List Int} {n : Nat} (A : Auto Q o n) : ∀ x ∈ searchO Q o, x ∈ o := fun x hx => by
  obtain ⟨s, hs, rfl⟩ := List.mem_map.1 hx
  have hb := (reachI_ok A.closed _).2 s hs
  rw [List.getD_eq_getElem?_getD, List.getElem?_eq_getElem (show s.toNat < o.length by rw [A.terms]; omega)]
  exact List.getElem_mem _
theorem outQ_mem {rows : List (List Int)} {out : List Int} {n : Nat} (A : Auto rows out n) : ∀ x ∈ outQ rows out, x ∈ out := fun x hx => by
  obtain ⟨k, hk, rfl⟩ := List.mem_map.1 hx
  obtain ⟨s, hs, rfl⟩ := keysQ_mem hk
  show out.getD s 0 ∈ out
  rw [List.getD_eq_getElem?_getD, List.getElem?_eq_getElem (show s < out.length by rw [A.terms]; omega)]
  exact List.getElem_mem _
theorem rowsQ_len (rows : List (List Int)) (out : List Int) : (rowsQ rows out).length ≤ rows.length := by
  rw [rowsQ, List.length_map]
  exact keysQ_len rows out
theorem searchR_len {Q : List (List Int)} (hc : Closed Q) : (searchR Q).length ≤ Q.length := by
  rw [searchR, List.length_map]
  exact reached_len hc
theorem isSeq_of_auto {b : Int} {rows : List (List Int)} {out : List Int} {n : Nat} (A : Auto rows out n) (hn : (n : Int) = b) (h2 : 2 ≤ b) (h4 : b ≤ 4) (hl : rows.length ≤ 16) (ho : ∀ x ∈ out, 0 ≤ x ∧ x ≤ 3) : IsSeq b rows out :=
  ⟨h2, h4, A.closed.1, hl, A.terms, fun r hr => ⟨by rw [A.width r hr]; exact hn, A.closed.2 r hr⟩, ho⟩
theorem IsSeq.merged {b : Int} {rows : List (List Int)} {out : List Int} (h : IsSeq b rows out) : IsSeq b (rowsQ rows out) (outQ rows out) := by
  have A := h.auto
  refine isSeq_of_auto (rowsQ_auto A) ?_ h.1 h.2.1 (Nat.le_trans (rowsQ_len _ _) h.2.2.2.1) fun x hx => h.2.2.2.2.2.2 x (outQ_mem A x hx)
  have := h.1
  omega
theorem IsSeq.searched {b : Int} {rows : List (List Int)} {out : List Int} (h : IsSeq b rows out) : IsSeq b (searchR rows) (searchO rows out) := by
  have A := h.auto
  refine isSeq_of_auto (searchR_auto A) ?_ h.1 h.2.1 (Nat.le_trans (searchR_len A.closed) h.2.2.2.1) fun x hx => h.2.2.2.2.2.2 x (searchO_mem A x hx)
  have := h.1
  omega
theorem IsSeq.minimal {b : Int} {rows : List (List Int)} {out : List Int} (h : IsSeq b rows out) : IsSeq b (minR rows out) (minO rows out) := h.merged.searched
end Go.Proofs.Ytodnkkofammhbaa.Plain
/- Plain facts on the model's way to the minimal form: a search over states that looks at their classes. No conditions beyond those that each fact states. -/
namespace Go.Proofs.Ytodnkkofammhbaa.Plain
set_option linter.unusedVariables false
/-- A state's class. -/
def clsF (rows : List (List Int)) (out : List Int) (s : Int) : Int := (classes rows out).getD s.toNat 0
/-- The states of a search and their classes. -/
def Order (rows : List (List Int)) (out od L : List Int) : Prop := od.map (clsF rows out) = L ∧ ∀ x ∈ od, 0 ≤ x ∧ x < (rows.length : Int)
theorem order_start {rows : List (List Int)} {out : List Int} {n : Nat} (A : Auto rows out n) : Order rows out [0] (reachI (rowsQ rows out) 0) := by
  refine ⟨?_, fun x hx => ?_⟩
  · show [clsF rows out 0] = [0]
    rw [clsF]
    congr 1
    exact class_zero A
  · simp at hx
    subst hx
    have := A.closed.1
    omega
/-- What a round finds. -/
theorem order_round {rows : List (List Int)} {out od : List Int} {n i : Nat} (A : Auto rows out n) (h : Order rows out od (reachI (rowsQ rows out) i)) (hi : i < od.length) :
    ∃ (tn : Nat) (r : List Int) (o : Int), od[i]? = some (tn : Int) ∧ tn < rows.length ∧ rows[tn]? = some r ∧ out[tn]? = some o ∧ r.length = n ∧ (∀ y ∈ r, 0 ≤ y ∧ y < (rows.length : Int)) ∧
      (reached (rowsQ rows out))[i]? = some (clsF rows out tn) ∧ rowOf (rowsQ rows out) (clsF rows out tn) = r.map (clsF rows out) ∧ (outQ rows out).getD (clsF rows out tn).toNat 0 = o ∧ reachI (rowsQ rows out) (i + 1) = addAll (reachI (rowsQ rows out) i) (r.map (clsF rows out)) := by
  have h1 : od[i]? = some od[i] := List.getElem?_eq_getElem hi
  have h2 := h.2 _ (List.getElem_mem hi)
  obtain ⟨tn, htn⟩ : ∃ tn : Nat, (tn : Int) = od[i] := ⟨od[i].toNat, by omega⟩
  rw [← htn] at h1 h2
  have ht : tn < rows.length := by omega
  obtain ⟨r, hr⟩ : ∃ r, rows[tn]? = some r := ⟨_, List.getElem?_eq_getElem ht⟩
  obtain ⟨o, ho⟩ : ∃ o, out[tn]? = some o := ⟨_, List.getElem?_eq_getElem (by rw [A.terms]; exact ht)⟩
  have hq := rowsQ_at A ht
  have hL : (reachI (rowsQ rows out) i)[i]? = some (clsF rows out tn) := by
    rw [← h.1, List.getElem?_map, h1]
    rfl
  have hrD : rows.getD tn [] = r := by rw [List.getD_eq_getElem?_getD, hr]; rfl
  have hoD : out.getD tn 0 = o := by rw [List.getD_eq_getElem?_getD, ho]; rfl
  have hrow : rowOf (rowsQ rows out) (clsF rows out tn) = r.map (clsF rows out) := by
    rw [clsF, Int.toNat_natCast, hq.1, hrD]
    rfl
  refine ⟨tn, r, o, h1, ht, hr, ho, A.width r (List.mem_of_getElem? hr), A.closed.2 r (List.mem_of_getElem? hr), ?_, hrow, ?_, ?_⟩
  · obtain ⟨t, ht'⟩ := reachI_sub (rowsQ_auto A).closed i
    have hl := (List.getElem?_eq_some_iff.1 hL).1
    rw [← ht', List.getElem?_append_left hl]
    exact hL
  · rw [clsF, Int.toNat_natCast, hq.2, hoD]
  · rw [reachI_step hL, hrow]
/-- The classes that are found in the middle of a round. -/
def midL (rows : List (List Int)) (out : List Int) (i : Nat) (r : List Int) (k : Nat) : List Int := addAll (reachI (rowsQ rows out) i) ((r.take k).map (clsF rows out))
theorem midL_zero (rows : List (List Int)) (out : List Int) (i : Nat) (r : List Int) : midL rows out i r 0 = reachI (rowsQ rows out) i := rfl
theorem midL_succ {rows : List (List Int)} {out : List Int} {i k : Nat} {r : List Int} {y : Int} (h : r[k]? = some y) : midL rows out i r (k + 1) = addTo (midL rows out i r k) (clsF rows out y) := by
  obtain ⟨hk, rfl⟩ := List.getElem?_eq_some_iff.1 h
  rw [midL, List.take_succ_eq_append_getElem hk, List.map_append, List.map_singleton, addAll_snoc]
  rfl
theorem midL_end {rows : List (List Int)} {out : List Int} {i : Nat} {r : List Int} (h : reachI (rowsQ rows out) (i + 1) = addAll (reachI (rowsQ rows out) i) (r.map (clsF rows out))) : midL rows out i r r.length = reachI (rowsQ rows out) (i + 1) := by rw [midL, List.take_length, h]
theorem midL_sub {rows : List (List Int)} {out : List Int} {n i k : Nat} {r : List Int} (A : Auto rows out n) (h : reachI (rowsQ rows out) (i + 1) = addAll (reachI (rowsQ rows out) i) (r.map (clsF rows out))) : midL rows out i r k <+: reached (rowsQ rows out) := by
  refine List.IsPrefix.trans ?_ (reachI_sub (rowsQ_auto A).closed (i + 1))
  rw [h, midL]
  have e : (r.map (clsF rows out)) = (r.take k).map (clsF rows out) ++ (r.drop k).map (clsF rows out) := by rw [← List.map_append, List.take_append_drop]
  rw [e, addAll_append]
  exact addAll_prefix _ _
theorem midL_len {rows : List (List Int)} {out : List Int} {n i k : Nat} {r : List Int} (A : Auto rows out n) (h : reachI (rowsQ rows out) (i + 1) = addAll (reachI (rowsQ rows out) i) (r.map (clsF rows out))) : (midL rows out i r k).length ≤ rows.length := by
  have h1 := (midL_sub (k := k) A h).length_le
  have h2 := reached_len (rowsQ_auto A).closed
  have h3 := rowsQ_len rows out
  omega
theorem midL_nodup {rows : List (List Int)} {out : List Int} {n i k : Nat} {r : List Int} (A : Auto rows out n) : (midL rows out i r k).Nodup := addAll_nodup _ _ (reachI_ok (rowsQ_auto A).closed i).1
/-- A class that is there already. -/
theorem mid_old {rows : List (List Int)} {out : List Int} {n i k : Nat} {r : List Int} {y : Int} (A : Auto rows out n) (h : reachI (rowsQ rows out) (i + 1) = addAll (reachI (rowsQ rows out) i) (r.map (clsF rows out))) (hy : r[k]? = some y) (hc : clsF rows out y ∈ midL rows out i r k) :
    midL rows out i r (k + 1) = midL rows out i r k ∧ ix (reached (rowsQ rows out)) (clsF rows out y) = ix (midL rows out i r k) (clsF rows out y) :=
  ⟨by rw [midL_succ hy, addTo_in hc], idxOf_prefix (midL_sub A h) hc⟩
/-- A new class. -/
theorem mid_new {rows : List (List Int)} {out od : List Int} {n i k : Nat} {r : List Int} {y : Int} (A : Auto rows out n) (h : reachI (rowsQ rows out) (i + 1) = addAll (reachI (rowsQ rows out) i) (r.map (clsF rows out))) (hy : r[k]? = some y) (hc : clsF rows out y ∉ midL rows out i r k)
    (ho : Order rows out od (midL rows out i r k)) (hb : 0 ≤ y ∧ y < (rows.length : Int)) :
    Order rows out (od ++ [y]) (midL rows out i r (k + 1)) ∧ ix (reached (rowsQ rows out)) (clsF rows out y) = (midL rows out i r k).length := by
  have e : midL rows out i r (k + 1) = midL rows out i r k ++ [clsF rows out y] := by rw [midL_succ hy, addTo_new hc]
  refine ⟨⟨by rw [List.map_append, ho.1, e]; rfl, fun x hx => ?_⟩, ?_⟩
  · rcases List.mem_append.1 hx with hx | hx
    · exact ho.2 x hx
    · simp at hx
      subst hx
      exact hb
  · have hm : clsF rows out y ∈ midL rows out i r (k + 1) := by rw [e]; simp
    rw [idxOf_prefix (midL_sub A h) hm, e, ix, List.idxOf_append, if_neg hc]
    simp
/-- What the search for a class has found. -/
def FoundC (L : List Int) (c : Int) (k : Nat) (f : Int) : Prop := (f = -1 ∧ ∀ j < k, L[j]? ≠ some c) ∨ (0 ≤ f ∧ c ∈ L ∧ f = (ix L c : Int))
theorem foundC_yes {L : List Int} {c : Int} {k : Nat} (hn : L.Nodup) (h : L[k]? = some c) : FoundC L c (k + 1) (k : Int) :=
  .inr ⟨Int.natCast_nonneg _, List.mem_of_getElem? h, by rw [idxOf_get hn h]⟩
theorem foundC_no {L : List Int} {c x : Int} {k : Nat} {f : Int} (hf : FoundC L c k f) (h0 : f < 0) (h : L[k]? = some x) (hx : ¬ x = c) : FoundC L c (k + 1) f := by
  rcases hf with ⟨h1, h2⟩ | h1
  · refine .inl ⟨h1, fun j hj hje => ?_⟩
    by_cases e : j = k
    · subst e
      rw [h] at hje
      exact hx (Option.some.inj hje)
    · exact h2 j (by omega) hje
  · omega
theorem foundC_end {L : List Int} {c : Int} {k : Nat} {f : Int} (hf : FoundC L c k f) (he : k = L.length ∨ 0 ≤ f) (hk : k ≤ L.length) : (f = -1 ∧ c ∉ L) ∨ (0 ≤ f ∧ c ∈ L ∧ f = (ix L c : Int)) := by
  rcases hf with ⟨h1, h2⟩ | h1
  · refine .inl ⟨h1, fun hm => ?_⟩
    obtain ⟨j, hj⟩ := List.getElem?_of_mem hm
    have := (List.getElem?_eq_some_iff.1 hj).1
    exact h2 j (by omega) hj
  · exact .inr h1
/-- A row in the making. -/
def partR (rows : List (List Int)) (out r : List Int) (k : Nat) : List Int := (r.take k).map fun y => (ix (reached (rowsQ rows out)) (clsF rows out y) : Int)
theorem partR_succ {rows : List (List Int)} {out r : List Int} {k : Nat} {y : Int} (h : r[k]? = some y) : partR rows out r (k + 1) = partR rows out r k ++ [(ix (reached (rowsQ rows out)) (clsF rows out y) : Int)] := by
  obtain ⟨hk, rfl⟩ := List.getElem?_eq_some_iff.1 h
  rw [partR, List.take_succ_eq_append_getElem hk, List.map_append]
  rfl
theorem partR_len {rows : List (List Int)} {out r : List Int} {k : Nat} (h : k ≤ r.length) : (partR rows out r k).length = k := by simp [partR]; omega
theorem partR_end {rows : List (List Int)} {out r : List Int} {s : Int} (h : rowOf (rowsQ rows out) s = r.map (clsF rows out)) : partR rows out r r.length = minRow (rowsQ rows out) (reached (rowsQ rows out)) s := by
  rw [partR, List.take_length, minRow, h, List.map_map]
  rfl
theorem order_end {rows : List (List Int)} {out od : List Int} {n i : Nat} (A : Auto rows out n) (h : Order rows out od (reachI (rowsQ rows out) i)) (hi : ¬ i < od.length) (hl : i ≤ od.length) : i = (reached (rowsQ rows out)).length ∧ od.length = i := by
  have h1 : (reachI (rowsQ rows out) i).length = od.length := by rw [← h.1, List.length_map]
  have h2 := reachI_end (rowsQ_auto A).closed (i := i) (by omega)
  rw [← h2]
  omega
end Go.Proofs.Ytodnkkofammhbaa.Plain
/- What a first difference says of the terms. No conditions beyond those that each fact states. -/
namespace Go.Proofs.Ytodnkkofammhbaa
open Go.ChangeShapes Go.WideShapes Go.ChangeAt Go.RowKit
open Go.PlainAid Plain
set_option linter.unusedVariables false
namespace Mins
open Seqs Digits
/-- Where a difference is found, the terms at it differ. -/
theorem diff_differs {b b' : Int} {rows rows' : List (List Int)} {out out' : List Int} (h : diffK b b' rows rows' out out' = true) :
    ∃ n : Nat, n < 2000 ∧ diffV b b' rows rows' out out' = (n : Int) ∧ termV b rows out (n : Int) ≠ termV b' rows' out' (n : Int) := by
  rw [diffK, Bool.and_eq_true] at h
  obtain ⟨hd, hs⟩ := h
  obtain ⟨n, hn⟩ := Option.isSome_iff_exists.1 hs
  have hd2 := hd
  simp only [diffOK, Bool.and_eq_true, decide_eq_true_eq] at hd2
  obtain ⟨⟨hq, hq'⟩, rfl⟩ := hd2
  have h1 := List.find?_some hn
  have h2 := List.mem_range.1 (List.mem_of_find?_eq_some hn)
  refine ⟨n, h2, by rw [diffV, if_pos hd, hn]; rfl, ?_⟩
  rw [ask_small' hq n (by omega), ask_small' hq' n (by omega)]
  exact of_decide_eq_true h1
/-- Sequences with the same terms have no difference. -/
theorem diff_same {b : Int} {rows rows' : List (List Int)} {out out' : List Int} (h : ∀ j < 2000, termG b rows out j = termG b rows' out' j) : diffK b b rows rows' out out' = false := by
  rw [diffK, diffAt_none h]
  simp
/-- A map of states that starts at 0 and goes along with every digit goes along with every list of digits. -/
theorem after_sim {rows rows' : List (List Int)} {b : Int} (φ : Int → Int) (P : Int → Prop) (h0 : P 0) (hφ : φ 0 = 0)
    (hs : ∀ s d, P s → 0 ≤ d → d < b → P (nextS rows s d) ∧ φ (nextS rows s d) = nextS rows' (φ s) d) :
    ∀ ds : List Int, (∀ d ∈ ds, 0 ≤ d ∧ d < b) → P (afterS rows ds) ∧ φ (afterS rows ds) = afterS rows' ds := by
  have key : ∀ (ds : List Int) (s : Int), P s → (∀ d ∈ ds, 0 ≤ d ∧ d < b) → P (ds.foldl (nextS rows) s) ∧ φ (ds.foldl (nextS rows) s) = ds.foldl (nextS rows') (φ s) := by
    intro ds
    induction ds with
    | nil => intro s hp _; exact ⟨hp, rfl⟩
    | cons d ds ih =>
      intro s hp hd
      have h1 := hd d List.mem_cons_self
      have h2 := hs s d hp h1.1 h1.2
      have h3 := ih (nextS rows s d) h2.1 (fun x hx => hd x (List.mem_cons_of_mem _ hx))
      rw [List.foldl_cons, List.foldl_cons, ← h2.2]
      exact h3
  intro ds hd
  have h := key ds 0 h0 hd
  rw [hφ] at h
  exact h
/-- The merged automaton has the terms of the automaton. -/
theorem quot_out {rows : List (List Int)} {out : List Int} {n : Nat} (A : Auto rows out n) (ds : List Int) (hd : ∀ d ∈ ds, 0 ≤ d ∧ d < (n : Int)) :
    (0 ≤ afterS rows ds ∧ afterS rows ds < (rows.length : Int)) ∧ (outQ rows out).getD (afterS (rowsQ rows out) ds).toNat 0 = out.getD (afterS rows ds).toNat 0 := by
  have h := after_sim (rows := rows) (rows' := rowsQ rows out) (b := n) (clsF rows out) (fun s => 0 ≤ s ∧ s < (rows.length : Int)) ⟨by omega, by have := A.closed.1; omega⟩ (by rw [clsF]; exact class_zero A) (by
    intro s d ⟨h0, h1⟩ hd0 hd1
    obtain ⟨k, rfl⟩ := Int.eq_ofNat_of_zero_le h0
    obtain ⟨e, rfl⟩ := Int.eq_ofNat_of_zero_le hd0
    have hk : k < rows.length := by omega
    have he : e < n := by omega
    have h2 := next_lt A hk he
    have h3 : nextS rows (k : Int) (e : Int) = (rows.getD k []).getD e 0 := rfl
    rw [h3]
    refine ⟨⟨h2.1, by omega⟩, ?_⟩
    have hq := (rowsQ_at A hk).1
    have h4 : nextS (rowsQ rows out) (clsF rows out (k : Int)) (e : Int) = (rowOf (rowsQ rows out) ((classes rows out).getD k 0)).getD e 0 := rfl
    rw [h4, hq]
    have hl : e < (rows.getD k []).length := by
      rw [A.width _ (by rw [List.getD_eq_getElem?_getD, List.getElem?_eq_getElem hk]; exact List.getElem_mem hk)]
      exact he
    rw [List.getD_eq_getElem?_getD (l := List.map _ _), List.getElem?_map, List.getD_eq_getElem?_getD (l := rows.getD k []), List.getElem?_eq_getElem hl]
    rfl) ds hd
  refine ⟨h.1, ?_⟩
  rw [← h.2]
  obtain ⟨k, hk⟩ := Int.eq_ofNat_of_zero_le h.1.1
  have hkl : k < rows.length := by have := h.1.2; omega
  rw [hk, clsF, Int.toNat_natCast]
  exact (rowsQ_at A hkl).2
/-- The automaton of the reached states in their order has the terms of the automaton. -/
theorem search_out {Q : List (List Int)} {o : List Int} {n : Nat} (A : Auto Q o n) (ds : List Int) (hd : ∀ d ∈ ds, 0 ≤ d ∧ d < (n : Int)) :
    (searchO Q o).getD (afterS (searchR Q) ds).toNat 0 = o.getD (afterS Q ds).toNat 0 := by
  have hz := reached_zero Q
  have hnd : (reached Q).Nodup := (reachI_ok A.closed _).1
  have hb : ∀ s ∈ reached Q, 0 ≤ s ∧ s < Q.length := (reachI_ok A.closed _).2
  have h := after_sim (rows := Q) (rows' := searchR Q) (b := n) (fun s => (ix (reached Q) s : Int)) (fun s => s ∈ reached Q) (List.mem_of_getElem? hz) (by rw [idxOf_get hnd hz]; rfl) (by
    intro s d hs hd0 hd1
    obtain ⟨k, rfl⟩ := Int.eq_ofNat_of_zero_le (hb s hs).1
    obtain ⟨e, rfl⟩ := Int.eq_ofNat_of_zero_le hd0
    have hk : k < Q.length := by have := (hb _ hs).2; omega
    have he : e < n := by omega
    have hr : rowOf Q (k : Int) = Q.getD k [] := rfl
    have hl : e < (rowOf Q (k : Int)).length := by
      rw [A.width _ (rowOf_mem (by omega) (by omega))]
      exact he
    have h3 : nextS Q (k : Int) (e : Int) = (rowOf Q (k : Int))[e] := by
      show (rowOf Q (k : Int)).getD e 0 = _
      rw [List.getD_eq_getElem?_getD, List.getElem?_eq_getElem hl]
      rfl
    rw [h3]
    refine ⟨reached_next A.closed hs (List.getElem_mem hl), ?_⟩
    have hg := get_idxOf hs
    have h4 : nextS (searchR Q) (ix (reached Q) (k : Int) : Int) (e : Int) = ((searchR Q).getD (ix (reached Q) (k : Int)) []).getD e 0 := rfl
    rw [h4, searchR, List.getD_eq_getElem?_getD (l := List.map _ _), List.getElem?_map, hg, Option.map_some, Option.getD_some, minRow, List.getD_eq_getElem?_getD, List.getElem?_map, List.getElem?_eq_getElem hl]
    rfl) ds hd
  rw [← h.2, searchO, Int.toNat_natCast, List.getD_eq_getElem?_getD, List.getElem?_map, get_idxOf h.1, Option.map_some, Option.getD_some]
/-- The minimal automaton has the terms of the automaton. -/
theorem min_out {rows : List (List Int)} {out : List Int} {n : Nat} (A : Auto rows out n) (ds : List Int) (hd : ∀ d ∈ ds, 0 ≤ d ∧ d < (n : Int)) :
    (minO rows out).getD (afterS (minR rows out) ds).toNat 0 = out.getD (afterS rows ds).toNat 0 := by
  rw [minO, minR, search_out (rowsQ_auto A) ds hd, (quot_out A ds hd).2]
end Mins
end Go.Proofs.Ytodnkkofammhbaa
/- Contracts of the copies of sequences, of the program and of the model. No conditions beyond those that each states. -/
namespace Go.Proofs.Ytodnkkofammhbaa
open Go.ChangeShapes Go.WideShapes Go.ChangeAt Go.RowKit
open Go.PlainAid Plain
set_option linter.unusedVariables false
namespace Seqs
open Digits
theorem liesS_open {w : World} {v : Value} {b : Int} {rows : List (List Int)} {out : List Int} (h : LiesS w v b rows out) : ∃ an cn ao co, v = .agg #[.int .i64 b, .slice an rows.length cn, .slice ao out.length co] ∧ LiesR w (.slice an rows.length cn) rows ∧ Lies (Value.int .i64) w (.slice ao out.length co) out := by
  obtain ⟨vn, vo, rfl, hn, ho⟩ := h
  obtain ⟨an, cn, rfl, _⟩ := hn.row
  obtain ⟨_, ao, co, rfl, _⟩ := id ho
  exact ⟨an, cn, ao, co, rfl, hn, ho⟩
theorem has_row {w : World} {base : Nat} {v : Value} {us : List Value} (h : Has id 25 w base v us) : w.ownsRow base 25 1 v us.length (us.map id) := h
theorem impl_copied (v : Value) (b : Int) (rows : List (List Int)) (out : List Int) (w : World) (h : LiesS w v b rows out) (hs : rows.length + tot rows + out.length ≤ 1048576) :
    Calls Try.prog 53 #[v] w (GivesS b rows out w) := by
  obtain ⟨i0, hi, hz0, hz1, hz2⟩ := info_parts infoR
  obtain ⟨an, cn, ao, co, rfl, hN, hO⟩ := liesS_open h
  have HN := Lib.hid hN
  have HO := Lib.hid hO
  clear h hN hO
  have hB : Below w.heap.size w ((w.alloc (Obj.cells #[Value.int .i64 b, Value.slice an rows.length cn, Value.slice ao out.length co] 27)).alloc (Obj.cells #[Value.int .i64 0, Value.slice none 0 0, Value.slice none 0 0] 27)) := ((Below.refl _ _).alloc (Nat.le_refl _) _).alloc (by simp) _
  have hA := Lib.hid ((Cells3.new w 27 (.int .i64 b) (.slice an rows.length cn) (.slice ao out.length co)).alloc (Obj.cells #[Value.int .i64 0, Value.slice none 0 0, Value.slice none 0 0] 27))
  have hZ := Lib.hid (Cells3.new (w.alloc (Obj.cells #[Value.int .i64 b, Value.slice an rows.length cn, Value.slice ao out.length co] 27)) 27 (.int .i64 0) (.slice none 0 0) (.slice none 0 0))
  rw [size_alloc'] at hZ
  have HB := Lib.hid hB
  have hz : ((w.alloc (Obj.cells #[Value.int .i64 b, Value.slice an rows.length cn, Value.slice ao out.length co] 27)).alloc (Obj.cells #[Value.int .i64 0, Value.slice none 0 0, Value.slice none 0 0] 27)).heap.size = w.heap.size + 2 := by simp
  have HZ := Lib.hid hz
  clear hB hz
  go_enter Try.func53, Try.ntmps53
  go_wp2_with (at_make; obtain ⟨W0, hW0⟩ : ∃ W, W = (w.alloc (Obj.cells #[Value.int .i64 b, Value.slice an rows.length cn, Value.slice ao out.length co] 27)).alloc (Obj.cells #[Value.int .i64 0, Value.slice none 0 0, Value.slice none 0 0] 27) := ⟨_, rfl⟩; rw [← hW0] at hA hZ HB HZ ⊢; refine wpList_make_full W0 rfl _ _ 24 rfl W0.heap.size 25 i0 (.slice none 0 0) 1 Try.underlying24 hi hz0 hz1 .i64 .i64 _ _ rows.length rfl rfl rfl rfl (by rw [hz2]; omega) (by unfold maxLen; omega) (Nat.le_refl _) ?_; intro w1 hown hgrow; clear hW0)
  have hb1 := below_of_grown hgrow
  have hown0 : Hid (Has id 25 w1 (w.heap.size + 2) (.slice (some ⟨w.heap.size + 2, 0, none⟩) rows.length rows.length) ([] ++ List.replicate (rows.length - 0) (.slice none 0 0))) := by
    have := made_rows hown
    rw [HZ.out] at this
    exact this
  have HA1 := Lib.hid (hA.out.below hb1)
  have HZ1 := Lib.hid (hZ.out.below hb1)
  have HB1 := Lib.hid (HB.out.trans (hb1.mono HB.out.size))
  have hsz : Hid (w.heap.size + 2 ≤ w1.heap.size) := by have := hb1.size; rw [HZ.out] at this; exact this
  rw [HZ.out] at *
  clear hown hgrow hb1 hA hZ HB HZ
  go_loopw [11] (fun i' wr => ∃ (i : Nat) (us : List Value) (hi : Nat), i ≤ rows.length ∧ us.length = i ∧ i' = .int .i64 i ∧ Hid (Has id 25 wr (w.heap.size + 2) (.slice (some ⟨w.heap.size + 2, 0, none⟩) rows.length rows.length) (us ++ List.replicate (rows.length - i) (.slice none 0 0))) ∧ Hid (OwnRows wr (w.heap.size + 2) hi us (rows.take i)) ∧ Hid (w.heap.size + 2 ≤ hi ∧ hi ≤ wr.heap.size) ∧ Hid (Cells3 wr w.heap.size 27 (.int .i64 b) (.slice an rows.length cn) (.slice ao out.length co)) ∧ Hid (Cells3 wr (w.heap.size + 1) 27 (.int .i64 0) (.slice none 0 0) (.slice none 0 0)) ∧ Hid (Below w.heap.size w wr)) (fun i' _ => rows.length - (intOf i').toNat)
  case atStart => exact ⟨0, [], w.heap.size + 2, Nat.zero_le _, rfl, rfl, hown0, OwnRows.nil _ _ _, ⟨Nat.le_refl _, hsz.out⟩, HA1, HZ1, HB1⟩
  case round =>
    obtain ⟨i, us, hi, hile, hul, rfl, hown, hrows, hle, hA, hZ, hbel⟩ := hrel
    by_cases hlt : i < rows.length
    · obtain ⟨r, hr⟩ : ∃ r, rows[i]? = some r := ⟨_, List.getElem?_eq_getElem hlt⟩
      obtain ⟨a0, c0, hv0, _, hcl⟩ := (HN.out.below hbel.out).row
      obtain ⟨p, off, u, rfl, hcell, hlies⟩ := hcl i r hr
      have HL := Lib.hid hlies
      have HRL := Lib.hid (row_le rows i r hr)
      have HT := Lib.hid (show rows.take (i + 1) = rows.take i ++ [r] from by
        obtain ⟨h1, rfl⟩ := List.getElem?_eq_some_iff.1 hr
        exact List.take_succ_eq_append_getElem h1)
      have HUL := Lib.hid hul
      injection hv0 with e1 e2 e3
      subst e1; subst e3
      have k0 := hA.out.c0
      have k1 := hA.out.c1
      have k2 := hA.out.c2
      clear hlies hr hul hcl
      go_wp2_with fail
      refine (clone_lies _ r _ HL.out (by have := HRL.out; omega)).mono ?_
      rintro e W1 ⟨v1, rfl, hv1, hb1⟩
      obtain ⟨a1, cap1, rfl, _⟩ := hv1.form
      have HN1 := Lib.hid (hown.out.below hb1)
      have HR1 := Lib.hid ((hrows.out.below hb1).snoc ((OwnI.of_gives hv1).mono hle.out.2 (Nat.le_refl _) (Nat.le_refl _)) hle.out.1 (Nat.le_trans hle.out.2 hb1.size))
      have HB1 := Lib.hid (hbel.out.trans (hb1.mono hbel.out.size))
      have HS1 := Lib.hid (Nat.le_trans hle.out.1 (Nat.le_trans hle.out.2 hb1.size))
      have HA1 := Lib.hid (hA.out.below hb1)
      have HZ1 := Lib.hid (hZ.out.below hb1)
      clear hown hrows hb1 hv1 hle hbel hA hZ k0 k1 k2 HL hcell
      have H1 : W1.ownsRow (w.heap.size + 2) 25 1 (.slice (some ⟨w.heap.size + 2, 0, none⟩) rows.length rows.length) rows.length ((us ++ List.replicate (rows.length - i) (Value.slice none 0 0)).map id) := by
        have := HN1.out
        unfold Has at this
        rw [show (us ++ List.replicate (rows.length - i) (Value.slice none 0 0)).length = rows.length from by rw [List.length_append, List.length_replicate, HUL.out]; omega] at this
        exact this
      have hc : W1.cell? ⟨w.heap.size + 2, i, none⟩ = some (.slice none 0 0) := by
        rw [H1.cellAt i (by omega), List.getElem?_map, List.getElem?_append_right (by rw [HUL.out]; omega), List.getElem?_replicate, if_pos (by rw [HUL.out]; omega)]
        rfl
      have hfr := H1.frozenAt i
      have hst := H1.stored i (id (.slice a1 r.length cap1))
      rw [← HUL.out, set_next us _ _ (.slice a1 r.length cap1) (by rw [HUL.out]; omega), HUL.out] at hst
      have HST := Lib.hid hst
      clear hst H1
      go_wp2
      go_roundw
      case rel =>
        refine ⟨i + 1, us ++ [.slice a1 r.length cap1], W1.heap.size, by omega, by simp [HUL.out], by go_num, ?_, ?_, ⟨HS1.out, HST.out.2.size⟩, HA1.out.grown HST.out.2 (by simp), HZ1.out.grown HST.out.2 (by simp), HB1.out.grown HST.out.2 HB1.out.size (fun k hk => by cases hk; omega)⟩
        · show World.ownsRow _ _ _ _ _ _ _
          rw [show (us ++ [Value.slice a1 r.length cap1] ++ List.replicate (rows.length - (i + 1)) (Value.slice none 0 0)).length = rows.length from by simp [HUL.out]; omega]
          exact HST.out.1
        · rw [HT.out]
          exact HR1.out.top_grown HN1.out HST.out.2
      case measure => simp [intOf]; omega
    · obtain rfl : i = rows.length := by omega
      have HE : Hid (OwnR wr (w.heap.size + 2) wr.heap.size (.slice (some ⟨w.heap.size + 2, 0, none⟩) rows.length rows.length) us rows) := by
        have h1 := hown.out
        have h2 := hrows.out
        rw [List.take_length] at h2
        rw [Nat.sub_self, List.replicate_zero, List.append_nil] at h1
        exact ⟨h1, fun k hk => (h1.lt k hk).2, Nat.le_refl _, h2.mono hle.out.2 (Nat.le_refl _)⟩
      have HUL := Lib.hid hul
      clear hown hrows hul
      go_wp2
      have bd := below_drew' wr
      obtain ⟨Wd, hWd⟩ : ∃ W, W = wr.drew := ⟨_, rfl⟩
      rw [← hWd] at bd
      have HEd := Lib.hid (HE.out.below bd)
      have HAd := Lib.hid (hA.out.below bd)
      have HZd := Lib.hid (hZ.out.below bd)
      have HBd := Lib.hid (hbel.out.trans (bd.mono hbel.out.size))
      clear bd HE hA hZ hbel
      have k0 := HAd.out.c0
      have k1 := HAd.out.c1
      have k2 := HAd.out.c2
      have z0 := HZd.out.c0
      have z1 := HZd.out.c1
      have z2 := HZd.out.c2
      have z3 := HZd.out.f
      rw [hWd] at k0 k1 k2 z0 z1 z2 z3
      go_region_with (go_at_call 73; rw [← hWd]; refine (clone_lies _ out _ (HO.out.below HBd.out) (by omega)).mono ?_; rintro e Wt ⟨vt, rfl, ht, bt⟩; obtain ⟨av, cv, rfl, _⟩ := ht.form; have m0 := (HAd.out.below bt).c0; have m2 := (HAd.out.below bt).c2; have n0 := (HZd.out.below bt).c0; have n1 := (HZd.out.below bt).c1; have n2 := (HZd.out.below bt).c2; have n3 := (HZd.out.below bt).f)
      all_goals
        have HE2 := Lib.hid (HEd.out.below bt)
        have HO2 := Lib.hid ((OwnI.of_gives ht).mono HEd.out.le (Nat.le_refl _) (Nat.le_refl _))
        have HB2 := Lib.hid (HBd.out.trans (bt.mono HBd.out.size))
        have HZ2 := Lib.hid ((((HZd.out.below bt).set0 (.int .i64 b)).set1 (.slice (some ⟨w.heap.size + 2, 0, none⟩) rows.length rows.length)).set2 (.slice av out.length cv))
        have hz1 := Lib.hid bt.size
        have hz2 := Lib.hid HEd.out.le
        have hz3 : Hid (w.heap.size + 2 ≤ wr.heap.size) := by show _ ≤ _; have := hle.out; omega
        clear ht bt k0 k1 k2 z0 z1 z2 z3 m0 m2 n0 n1 n2 n3
        go_wp2
        have m0 := HZ2.out.c0
        have m1 := HZ2.out.c1
        have m2 := HZ2.out.c2
        refine bodyPost_ret (v := .agg #[.int .i64 b, (.slice (some ⟨w.heap.size + 2, 0, none⟩) rows.length rows.length), .slice av out.length cv]) (by simp [results, Try.results53, go_sem, m0, m1, m2]) rfl ⟨_, rfl, ?_, ?_⟩
        · have T0 : Plain.Touch w.heap.size (w.heap.size + 2) Wt (((Wt.setCell ⟨w.heap.size + 1, 0, none⟩ (.int .i64 b)).setCell ⟨w.heap.size + 1, 1, none⟩ (.slice (some ⟨w.heap.size + 2, 0, none⟩) rows.length rows.length)).setCell ⟨w.heap.size + 1, 2, none⟩ (.slice av out.length cv)) :=
            ((Plain.Touch.of_set _ (by show _ ≤ _ + 1; omega) (by show _ + 1 < _; omega)).trans (Plain.Touch.of_set _ (by show _ ≤ _ + 1; omega) (by show _ + 1 < _; omega))).trans (Plain.Touch.of_set _ (by show _ ≤ _ + 1; omega) (by show _ + 1 < _; omega))
          have g1 := hz1.out
          have g2 := hz2.out
          have g3 := hz3.out
          simp only [size_setCell']
          exact OwnS.make (HE2.out.touch T0 (.inr (Nat.le_refl _))) (HO2.out.touch T0 (.inr (by omega))) (by omega) (by omega) (by omega)
        · exact ((HB2.out.setCell (by show _ ≤ _ + 1; omega) _).setCell (by show _ ≤ _ + 1; omega) _).setCell (by show _ ≤ _ + 1; omega) _
end Seqs
end Go.Proofs.Ytodnkkofammhbaa
/- Contract of the model's copy of a sequence. No conditions beyond those that each states. -/
namespace Go.Proofs.Ytodnkkofammhbaa
open Go.ChangeShapes Go.WideShapes Go.ChangeAt Go.RowKit
open Go.PlainAid Plain
set_option linter.unusedVariables false
namespace Seqs
open Digits
theorem copy_held {w wo w' : World} {t : TypeId} {x y z : Value} {pa o : Nat} {u : Value} (hA : Cells3 wo w.heap.size t x y z) (hpa : pa < w.heap.size) (hc : wo.cell? ⟨pa, o, none⟩ = some u) (h : Below (w.heap.size + 2) wo w') :
    w'.cell? ⟨w.heap.size, 0, none⟩ = some x ∧ w'.cell? ⟨w.heap.size, 1, none⟩ = some y ∧ w'.cell? ⟨w.heap.size, 2, none⟩ = some z ∧ w'.cell? ⟨pa, o, none⟩ = some u := by
  have hA' := c3_of_below h hA (by omega)
  exact ⟨hA'.c0, hA'.c1, hA'.c2, (h.cell (p := ⟨pa, o, none⟩) (by show pa < _; omega)).trans hc⟩
set_option maxHeartbeats 1000000 in
theorem spec_copied (v : Value) (b : Int) (rows : List (List Int)) (out : List Int) (w : World) (h : LiesS w v b rows out) (hs : rows.length + tot rows + out.length ≤ 1048576) :
    Calls Try.prog 54 #[v] w (GivesS b rows out w) := by
  obtain ⟨i0, hi, hz0, hz1, hz2⟩ := info_parts infoR
  obtain ⟨i1, hi1, hz01, hz11, hz21⟩ := info_parts Ints.infoI
  obtain ⟨an, cn, ao, co, rfl, hN, hO⟩ := liesS_open h
  have HN := Lib.hid hN
  have HO := Lib.hid hO
  clear h hN hO
  have hB : Below w.heap.size w ((w.alloc (Obj.cells #[Value.int .i64 b, Value.slice an rows.length cn, Value.slice ao out.length co] 27)).alloc (Obj.cells #[Value.int .i64 0, Value.slice none 0 0, Value.slice none 0 0] 27)) := ((Below.refl _ _).alloc (Nat.le_refl _) _).alloc (by simp) _
  have hA := Lib.hid ((Cells3.new w 27 (.int .i64 b) (.slice an rows.length cn) (.slice ao out.length co)).alloc (Obj.cells #[Value.int .i64 0, Value.slice none 0 0, Value.slice none 0 0] 27))
  have hZ := Lib.hid (Cells3.new (w.alloc (Obj.cells #[Value.int .i64 b, Value.slice an rows.length cn, Value.slice ao out.length co] 27)) 27 (.int .i64 0) (.slice none 0 0) (.slice none 0 0))
  rw [size_alloc'] at hZ
  have HB := Lib.hid hB
  have hz : ((w.alloc (Obj.cells #[Value.int .i64 b, Value.slice an rows.length cn, Value.slice ao out.length co] 27)).alloc (Obj.cells #[Value.int .i64 0, Value.slice none 0 0, Value.slice none 0 0] 27)).heap.size = w.heap.size + 2 := by simp
  have HZ := Lib.hid hz
  clear hB hz
  go_enter Try.func54, Try.ntmps54
  go_wp2_with fail
  obtain ⟨W0, hW0⟩ : ∃ W, W = (w.alloc (Obj.cells #[Value.int .i64 b, Value.slice an rows.length cn, Value.slice ao out.length co] 27)).alloc (Obj.cells #[Value.int .i64 0, Value.slice none 0 0, Value.slice none 0 0] 27) := ⟨_, rfl⟩
  rw [← hW0] at hA hZ HB HZ ⊢
  clear hW0
  go_cut [3] (fun s wx => ∃ (p : Nat) (vo : Value), s = .pointer (some ⟨p, 0, none⟩) ∧ Hid (w.heap.size + 2 ≤ p ∧ p < wx.heap.size) ∧ Hid (Cells3 wx p 27 (.int .i64 b) (.slice none 0 0) vo) ∧ Hid (OwnI wx (w.heap.size + 2) wx.heap.size vo out) ∧ Hid (Cells3 wx w.heap.size 27 (.int .i64 b) (.slice an rows.length cn) (.slice ao out.length co)) ∧ Hid (Cells3 wx (w.heap.size + 1) 27 (.int .i64 0) (.slice none 0 0) (.slice none 0 0)) ∧ Hid (Below w.heap.size w wx))
  case first =>
    have HOW := Lib.hid (HO.out.below HB.out)
    go_region_held3 (fun w' => w'.cell? ⟨w.heap.size, 0, none⟩ = some (.int .i64 b) ∧ w'.cell? ⟨w.heap.size, 1, none⟩ = some (.slice an rows.length cn) ∧ w'.cell? ⟨w.heap.size, 2, none⟩ = some (.slice ao out.length co))
      ((refine c3_all (t := 27) ?_; repeat (first | with_reducible exact hA.out | with_reducible apply c3_drew | with_reducible apply Cells3.alloc | (refine Cells3.grown ?_ hg (by have := HZ.out; simp [Value.ownBlock]; omega)) | (with_reducible refine Cells3.other ?_ (by have := HZ.out; simp; omega) _))))
      ((refine step_append_list (enc := Value.int .i64) (e := 3) rfl _ _ 25 rfl (w.heap.size + 2) i1 (.int .i64 0) 8 Try.underlying25 hi1 hz01 hz11 hz21 rfl (Value.slice (some ⟨_, 0, none⟩) 0 0) [] rfl (by repeat (first | with_reducible apply has_drew | ((with_reducible apply has_lit0) <;> (have := HZ.out; simp <;> omega)) | with_reducible apply has_alloc)) (Value.slice ao out.length co) out rfl (by repeat (first | with_reducible exact HOW.out | with_reducible apply lies_drew | with_reducible apply lies_alloc)) (fun _ _ => rfl) (by simp only [List.length_nil]; omega) (by simp only [List.length_nil]; omega) (by have := HZ.out; simp; omega) ?_; intro vo w1 ho hg; rw [List.nil_append] at ho; obtain ⟨av, cv, rfl, _⟩ := ho.form; (first | (refine with_fact (T := Cells3 w1 (W0.heap.size) 27 (.int .i64 0) (.slice none 0 0) (.slice none 0 0)) ?_ ?_; (refine Cells3.grown ?_ hg ?_; (focus ((repeat (first | with_reducible apply c3_drew | (with_reducible refine c3_new' ?_; simp; done) | with_reducible apply Cells3.alloc)); done)); (focus (simp [Value.ownBlock]; done))); intro hZ1; have q0 := hZ1.c0; have q1 := hZ1.c1; have q2 := hZ1.c2; have q3 := hZ1.f) | (refine with_fact (T := Cells3 w1 (W0.heap.size + 1) 27 (.int .i64 0) (.slice none 0 0) (.slice none 0 0)) ?_ ?_; (refine Cells3.grown ?_ hg ?_; (focus ((repeat (first | with_reducible apply c3_drew | (with_reducible refine c3_new' ?_; simp; done) | with_reducible apply Cells3.alloc)); done)); (focus (simp [Value.ownBlock]; done))); intro hZ1; have q0 := hZ1.c0; have q1 := hZ1.c1; have q2 := hZ1.c2; have q3 := hZ1.f) | skip)))
    all_goals
      have hgW : W0.grownBy w1 (some W0.heap.size) ∨ W0.grownBy w1 (some (W0.heap.size + 1)) := by
        first
        | exact Or.inl (grown_alloc (grown_drew hg))
        | exact Or.inl (grown_alloc (grown_alloc (grown_drew hg)))
        | exact Or.inr (grown_alloc (grown_alloc (grown_drew hg)))
      have hA1 : Cells3 w1 w.heap.size 27 (.int .i64 b) (.slice an rows.length cn) (.slice ao out.length co) := by
        rcases hgW with h | h
        · exact hA.out.grown h (by have := HZ.out; simp; omega)
        · exact hA.out.grown h (by have := HZ.out; simp; omega)
      have hZ1' : Cells3 w1 (w.heap.size + 1) 27 (.int .i64 0) (.slice none 0 0) (.slice none 0 0) := by
        rcases hgW with h | h
        · exact hZ.out.grown h (by have := HZ.out; simp; omega)
        · exact hZ.out.grown h (by have := HZ.out; simp; omega)
      have hB1 : Below w.heap.size w w1 := by
        rcases hgW with h | h
        · exact HB.out.grown h HB.out.size (fun k hk => by cases hk; exact HB.out.size)
        · exact HB.out.grown h HB.out.size (fun k hk => by cases hk; have := HB.out.size; omega)
      have hs1 : w.heap.size + 2 ≤ w1.heap.size := by
        have := HZ.out
        rcases hgW with h | h
        · have := h.size; omega
        · have := h.size; omega
      have hO1 : OwnI w1 (w.heap.size + 2) w1.heap.size (.slice av out.length cv) out := ⟨ho, fun k hk => (ho.lt k hk).2, Nat.le_refl _⟩
      have HA1 := Lib.hid hA1
      have HZ1 := Lib.hid hZ1'
      have HB1 := Lib.hid hB1
      have HS1 := Lib.hid hs1
      have HO1 := Lib.hid hO1
      clear hA1 hZ1' hB1 hs1 hO1 hgW hg ho
    · go_wp2_with fail
      go_meet
      refine ⟨_, _, rfl, ⟨HS1.out, ?_⟩, c3_new' rfl, (HO1.out.below ((Below.refl _ _).alloc (Nat.le_refl _) _)).mono (Nat.le_refl _) (by simp) (Nat.le_refl _), HA1.out.alloc _, HZ1.out.alloc _, HB1.out.alloc HB1.out.size _⟩
      simp
    all_goals
      have HC1 := Lib.hid hZ1
      have HNE := Lib.hid (has_ne_c3 HO1.out.has hZ1 (by decide))
      clear hZ1 q0 q1 q2 q3
      go_wp2_with fail
      go_meet
      refine ⟨_, _, rfl, ⟨by have := HZ.out; omega, by simpa [World.setCell] using HC1.out.lt⟩, ((HC1.out.set0 _).set1 _).set2 _, (((HO1.out.set HNE.out _).set HNE.out _).set HNE.out _).mono (Nat.le_refl _) (by simp [World.setCell]) (Nat.le_refl _), ((HA1.out.other ?_ _).other ?_ _).other ?_ _, ((HZ1.out.other ?_ _).other ?_ _).other ?_ _, ((HB1.out.setCell ?_ _).setCell ?_ _).setCell ?_ _⟩
      all_goals (have := HZ.out; simp; omega)
  case rest =>
    obtain ⟨p, vo, rfl, hp, hC, hO, hA, hZ, hB⟩ := hcut
    obtain ⟨W1, rfl⟩ : ∃ W, W = wc := ⟨_, rfl⟩
    go_wp2_with fail
    obtain ⟨M, hM⟩ : ∃ M, M = W1.heap.size := ⟨_, rfl⟩
    have hp1 := hp.out.1
    have hp2 := hp.out.2
    have hMl : M ≤ W1.heap.size := by omega
    rw [← hM] at hp2 hO
    have HML := Lib.hid hMl
    clear hM hp hMl
    go_loopw [4] (fun i' wr => ∃ (i : Nat) (us : List Value) (vn : Value) (hi : Nat), i ≤ rows.length ∧ us.length = i ∧ i' = .int .i64 i ∧ Hid (Has id 25 wr M vn us) ∧ Hid (OwnRows wr M hi us (rows.take i)) ∧ Hid (M ≤ hi ∧ hi ≤ wr.heap.size) ∧ Hid (Cells3 wr p 27 (.int .i64 b) vn vo) ∧ Hid (OwnI wr (w.heap.size + 2) M vo out) ∧ Hid (Cells3 wr w.heap.size 27 (.int .i64 b) (.slice an rows.length cn) (.slice ao out.length co)) ∧ Hid (Cells3 wr (w.heap.size + 1) 27 (.int .i64 0) (.slice none 0 0) (.slice none 0 0)) ∧ Hid (Below w.heap.size w wr)) (fun i' _ => rows.length - (intOf i').toNat)
    case atStart => exact ⟨0, [], _, M, Nat.zero_le _, rfl, rfl, World.ownsRow_nil _ _ _ _, OwnRows.nil _ _ _, ⟨Nat.le_refl _, HML.out⟩, hC, hO, hA, hZ, hB⟩
    case round =>
      obtain ⟨i, us, vn, hi', hile, hul, rfl, hown, hrows, hle, hC, hO, hA, hZ, hB⟩ := hrel
      obtain ⟨wo, rfl⟩ : ∃ wo : World, wo = wr := ⟨_, rfl⟩
      by_cases hlt : i < rows.length
      · obtain ⟨r, hr⟩ : ∃ r, rows[i]? = some r := ⟨_, List.getElem?_eq_getElem hlt⟩
        obtain ⟨a0, c0, hv0, _, hcl⟩ := (HN.out.below hB.out).row
        obtain ⟨pa, off, u, rfl, hcell, hlies⟩ := hcl i r hr
        have HL := Lib.hid hlies
        have hpa : pa < w.heap.size := by
          obtain ⟨a0', c0', hv0', _, hcl'⟩ := HN.out.row
          injection hv0' with e1 e2 e3
          obtain ⟨pa', off', u', h1, h2, h3⟩ := hcl' i r hr
          injection hv0 with f1 f2 f3
          rw [← e1, f1] at h1
          injection h1 with h1
          injection h1 with h1 h4
          subst h1
          exact World.block_lt_of_cell? w _ h2
        have HRL := Lib.hid (row_le rows i r hr)
        have HT := Lib.hid (show rows.take (i + 1) = rows.take i ++ [r] from by
          obtain ⟨h1, rfl⟩ := List.getElem?_eq_some_iff.1 hr
          exact List.take_succ_eq_append_getElem h1)
        have HUL := Lib.hid hul
        injection hv0 with e1 e2 e3
        subst e1; subst e3
        have hw2 : w.heap.size + 2 ≤ wo.heap.size := by have := hle.out; omega
        have k0 := hA.out.c0
        have k1 := hA.out.c1
        have k2 := hA.out.c2
        have HCELL := Lib.hid hcell
        clear hlies hr hul hcl hcell
        go_wp2_with fail
        have c1 := hC.out.c1
        have c1' := (hC.out.alloc (Obj.cells #[] 3)).c1
        have hpl := hC.out.lt
        have i0' : (0 : Int) ≤ (i : Int) := Int.natCast_nonneg _
        have i1' : (i : Int) < (rows.length : Int) := by omega
        have HUS := Lib.hid (show (us.length + 1) * 24 ≤ 140737488355328 ∧ us.length + 1 ≤ 9223372036854775807 by have := HUL.out; omega)
        have HRS := Lib.hid (show (0 + r.length) * 8 ≤ 140737488355328 ∧ 0 + r.length ≤ 9223372036854775807 by have := HRL.out; omega)
        have HMO := Lib.hid (show M ≤ wo.heap.size by have := hle.out; omega)
        have d0 := (hA.out.alloc (Obj.cells #[] 3)).c1
        have d1 := (World.cell?_alloc_some wo ⟨pa, off + i, none⟩ (Obj.cells #[] 3) (by rw [HCELL.out]; rfl)).trans HCELL.out
        have d2 := HCELL.out
        go_region_law (first
            | (refine step_append_list (enc := Value.int .i64) (e := 3) rfl (.tmp 21) (.tmp 26) 25 rfl wo.heap.size i1 (.int .i64 0) 8 Try.underlying25 hi1 hz01 hz11 hz21 rfl (Value.slice (some ⟨_, 0, none⟩) 0 0) [] rfl (by repeat (first | with_reducible apply has_drew | ((with_reducible apply has_lit0) <;> simp) | with_reducible apply has_alloc)) u r rfl (by repeat (first | with_reducible exact HL.out | with_reducible apply lies_drew | with_reducible apply lies_alloc)) (fun _ _ => rfl) HRS.out.1 HRS.out.2 (by simp) ?_; intro vr w1 ho hg; rw [List.nil_append] at ho; obtain ⟨ar, cr, rfl, _⟩ := ho.form;
                have hg1 := grown_alloc (grown_drew hg);
                have hbw1 : Below (w.heap.size + 2) wo w1 := (Below.refl _ _).grown hg1 hw2 (fun k hk => by cases hk; omega);
                have hc1 := hC.out.grown hg1 (by simp [Value.ownBlock]; omega);
                have q1 := hc1.c1; have q2 := (hc1.alloc (Obj.cells #[Value.slice ar r.length cr] 25)).c1; have q3 := hg1.size; have hN1 := hown.out.of_same (fun k hk => hg1.block k (hown.out.lt k hk).2 (fun e => by have h1 := (hown.out.lt k hk).2; have e2 : k = wo.heap.size := Option.some.inj e; omega)))
            | (refine step_append_list (enc := id) (e := 25) rfl (.tmp 20) (.tmp 28) 24 rfl M i0 (.slice none 0 0) 24 Try.underlying24 hi hz0 hz1 hz2 rfl vn us rfl (by repeat (first | with_reducible exact hN1 | with_reducible apply has_drew | with_reducible apply has_alloc)) (Value.slice (some ⟨_, 0, none⟩) 1 1) [.slice ar r.length cr] rfl (by repeat (first | with_reducible apply lies_drew | (with_reducible refine lies_lit1v _ rfl) | with_reducible apply lies_alloc)) (fun y hy => by simp at hy; subst hy; rfl) HUS.out.1 HUS.out.2 (by have := HMO.out; simp; omega) ?_; intro vt w2 ho2 hg2; obtain ⟨at2, ct2, rfl, _⟩ := ho2.form; rw [show (us ++ [Value.slice ar r.length cr]).length = us.length + 1 from by simp] at ho2; refine with_fact (T := w1.grownBy w2 vn.ownBlock) ?_ ?_; (focus (first | exact grown_alloc hg2 | exact grown_alloc (grown_drew hg2))); intro hg3; have hbw2 : Below (w.heap.size + 2) wo w2 := hbw1.grown hg3 (by omega) (fun k hk => by have := (hown.out.lt k hk).1; omega); have hc2 := hc1.grown hg3 (has_ne_c3 hN1 hc1 (by decide)); have r1 := hc2.c1; have r3 := hc2.f))
        all_goals
          have HB2 := Lib.hid hbw2
          have HC2 := Lib.hid hc2
          have HT2 := Lib.hid ho2
          have HNT := Lib.hid (has_ne_c3 ho2 hc2 (by decide))
          have HR1 := Lib.hid ((hrows.out.below ((Below.refl _ _).grown hg1 (Nat.le_refl _) (fun k hk => by cases hk; exact Nat.le_refl _))).snoc ((OwnI.of_gives ho).mono hle.out.2 (Nat.le_refl _) (Nat.le_refl _)) hle.out.1 (Nat.le_trans hle.out.2 hg1.size))
          have HR2 := Lib.hid (HR1.out.top_grown hN1 hg3)
          have HRN := Lib.hid (HR2.out.ne_c3 hc2 (by decide))
          have hs1 := hg1.size
          have hs2 := hg3.size
          have HSZ := Lib.hid (show M ≤ w1.heap.size ∧ w1.heap.size ≤ w2.heap.size by have := HMO.out; omega)
          have HO2 := Lib.hid ((hO.out.grown hg1 (fun k hk => by have e2 : wo.heap.size = k := Option.some.inj hk; have := hO.out.le; omega)).grown hg3 (fun k hk => by have := (hown.out.lt k hk).1; omega))
          have HON := Lib.hid (has_ne_c3 HO2.out.has hc2 (by decide))
          clear d0 d1 d2 hg hg1 hbw1 hc1 q1 q2 q3 hN1 hg2 hg3 hbw2 hc2 r1 r3 ho2 ho hs1 hs2 c1 c1' k0 k1 k2
          go_wp2
          go_roundw
          case rel =>
            refine ⟨i + 1, us ++ [Value.slice ar r.length cr], Value.slice at2 (us.length + 1) ct2, w1.heap.size, by omega, by simp [HUL.out], by go_num, HT2.out.set (a := ⟨p, 1, none⟩) HNT.out (.slice at2 (us.length + 1) ct2), ?_, ⟨HSZ.out.1, by simpa [World.setCell] using HSZ.out.2⟩, HC2.out.set1 (.slice at2 (us.length + 1) ct2), HO2.out.set (a := ⟨p, 1, none⟩) HON.out (.slice at2 (us.length + 1) ct2), (c3_of_below HB2.out hA.out (by omega)).other (by show p ≠ _; omega) _, (c3_of_below HB2.out hZ.out (by omega)).other (by show p ≠ _; omega) _, (hB.out.trans (HB2.out.mono (by omega))).setCell (by show _ ≤ p; omega) _⟩
            rw [HT.out]
            exact HR2.out.set (a := ⟨p, 1, none⟩) HRN.out (.slice at2 (us.length + 1) ct2)
          case measure => simp [intOf]; omega
      · obtain rfl : i = rows.length := by omega
        have HE : Hid (OwnR wo M wo.heap.size vn us rows) := by
          have h1 := hown.out
          have h2 := hrows.out
          rw [List.take_length] at h2
          exact ⟨h1, fun k hk => (h1.lt k hk).2, Nat.le_refl _, h2.mono hle.out.2 (Nat.le_refl _)⟩
        have hw2 : M ≤ wo.heap.size := by have := hle.out; omega
        obtain ⟨a1, c1, hv1⟩ : ∃ a1 c1, vn = .slice a1 rows.length c1 := by
          obtain ⟨a1, c1, h1, _⟩ := hown.out.form
          exact ⟨a1, c1, by rw [h1, hul]⟩
        obtain ⟨a2, c2, hv2⟩ := hO.out.form
        subst hv1; subst hv2
        have k0 := hA.out.c0
        have k1 := hA.out.c1
        have k2 := hA.out.c2
        have p0 := hC.out.c0
        have p1 := hC.out.c1
        have p2 := hC.out.c2
        have p3 := hC.out.f
        have z0 := hZ.out.c0
        have z1 := hZ.out.c1
        have z2 := hZ.out.c2
        have z3 := hZ.out.f
        have HUL := Lib.hid hul
        clear hown hrows hle hul
        go_wp2
        have m0 := (((hZ.out.set0 (.int .i64 b)).set1 (.slice a1 rows.length c1)).set2 (.slice a2 out.length c2)).c0
        have m1 := (((hZ.out.set0 (.int .i64 b)).set1 (.slice a1 rows.length c1)).set2 (.slice a2 out.length c2)).c1
        have m2 := (((hZ.out.set0 (.int .i64 b)).set1 (.slice a1 rows.length c1)).set2 (.slice a2 out.length c2)).c2
        refine bodyPost_ret (v := .agg #[.int .i64 b, .slice a1 rows.length c1, .slice a2 out.length c2]) (by simp [results, Try.results54, go_sem, m0, m1, m2]) rfl ⟨_, rfl, ?_, ?_⟩
        · have T0 : Plain.Touch w.heap.size (w.heap.size + 2) wo (((wo.setCell ⟨w.heap.size + 1, 0, none⟩ (.int .i64 b)).setCell ⟨w.heap.size + 1, 1, none⟩ (.slice a1 rows.length c1)).setCell ⟨w.heap.size + 1, 2, none⟩ (.slice a2 out.length c2)) :=
            ((Plain.Touch.of_set _ (by show _ ≤ _ + 1; omega) (by show _ + 1 < _; omega)).trans (Plain.Touch.of_set _ (by show _ ≤ _ + 1; omega) (by show _ + 1 < _; omega))).trans (Plain.Touch.of_set _ (by show _ ≤ _ + 1; omega) (by show _ + 1 < _; omega))
          simp only [size_setCell']
          exact OwnS.make_out (hO.out.touch T0 (.inr (Nat.le_refl _))) (HE.out.touch T0 (.inr (by omega))) (by omega) (by omega) hw2
        · exact ((hB.out.setCell (by show _ ≤ _ + 1; omega) _).setCell (by show _ ≤ _ + 1; omega) _).setCell (by show _ ≤ _ + 1; omega) _
end Seqs
end Go.Proofs.Ytodnkkofammhbaa
/- Contract of raised: a new row whose states are one higher. No conditions beyond those that it states. -/
namespace Go.Proofs.Ytodnkkofammhbaa
open Go.ChangeShapes Go.WideShapes Go.ChangeAt Go.RowKit
open Go.PlainAid Plain
set_option linter.unusedVariables false
namespace Seqs
theorem raise_len (r : List Int) : (raise r).length = r.length := by simp [raise]
theorem raise_set (xs : List Int) (i : Nat) (h : i < xs.length) : (((raise xs).take i ++ List.replicate (xs.length - i) (0 : Int)).map (Value.int .i64)).set i (.int .i64 (xs[i] + 1)) = ((raise xs).take (i + 1) ++ List.replicate (xs.length - (i + 1)) (0 : Int)).map (Value.int .i64) := by
  have h1 := Ints.take_set (raise xs) i (by rw [raise_len]; exact h)
  have e : (raise xs)[i]'(by rw [raise_len]; exact h) = xs[i] + 1 := by simp [raise]
  rw [e] at h1
  simpa only [raise_len] using h1
theorem raised_any (v : Value) (xs : List Int) (w : World) (h : Lies (Value.int .i64) w v xs) (hs : xs.length ≤ 1048576) (hb : ∀ x ∈ xs, 0 ≤ x ∧ x < 1000) :
    Calls Try.prog 71 #[v] w (Gives (Value.int .i64) 3 (raise xs) w) := by
  obtain ⟨i0, hi, hz0, hz1, hz2⟩ := info_parts Ints.infoI
  obtain ⟨hl, a, ca, rfl, _, hc⟩ := h
  have HC := Lib.hid hc
  have HBD := Lib.hid hb
  clear hc hb
  go_enter Try.func71, Try.ntmps71
  go_wp2_with (at_make; refine wpList_make_full w rfl _ _ 25 rfl w.heap.size 3 i0 (.int .i64 0) 1 Try.underlying25 hi hz0 hz1 .i64 .i64 _ _ xs.length rfl rfl rfl rfl (by rw [hz2]; omega) (by unfold maxLen; omega) (Nat.le_refl _) ?_; intro w1 hown hgrow)
  have hown0 : Hid (w1.ownsRow w.heap.size 3 1 (.slice (some ⟨w.heap.size, 0, none⟩) xs.length xs.length) xs.length (((raise xs).take 0 ++ List.replicate (xs.length - 0) (0 : Int)).map (Value.int .i64))) := by
    show w1.ownsRow _ _ _ _ _ _
    rw [Ints.zero_made] at hown
    simpa using hown
  have hbel0 := Lib.hid (below_of_grown hgrow)
  clear hown hgrow
  go_loopw [11] (fun i' wr => ∃ i : Nat, i ≤ xs.length ∧ i' = .int .i64 i ∧ Hid (wr.ownsRow w.heap.size 3 1 (.slice (some ⟨w.heap.size, 0, none⟩) xs.length xs.length) xs.length (((raise xs).take i ++ List.replicate (xs.length - i) (0 : Int)).map (Value.int .i64))) ∧ Hid (Below w.heap.size w wr)) (fun i' _ => xs.length - (intOf i').toNat)
  case atStart => exact ⟨0, Nat.zero_le _, rfl, hown0, hbel0⟩
  case round =>
    obtain ⟨i, hi, rfl, hown, hbel⟩ := hrel
    by_cases hlt : i < xs.length
    · obtain ⟨b, o, rfl, hc1⟩ := HC.out i _ (List.getElem?_eq_getElem hlt)
      have hx := HBD.out xs[i] (List.getElem_mem _)
      have hx0 := hx.1
      have hx1 := hx.2
      have hc2 : wr.cell? ⟨b, o + i, none⟩ = some (.int .i64 xs[i]) := (hbel.out.cell (p := ⟨b, o + i, none⟩) (World.block_lt_of_cell? w _ hc1)).trans hc1
      have hne : b ≠ w.heap.size := by have := World.block_lt_of_cell? w _ hc1; simp at this; omega
      have hc : wr.cell? ⟨w.heap.size, i, none⟩ = some (.int .i64 0) := by
        rw [hown.out.cellAt i (by omega)]
        rw [List.getElem?_map, List.getElem?_append_right (by rw [List.length_take, raise_len]; omega), List.length_take, List.getElem?_replicate, if_pos (by rw [raise_len]; omega)]
        rfl
      have hfr := hown.out.frozenAt i
      have hst := hown.out.stored i (.int .i64 (xs[i] + 1))
      rw [raise_set xs i hlt] at hst
      have HS := Lib.hid hst
      clear hst hown hc1 hx
      go_wp2
      go_roundw
      case rel => exact ⟨i + 1, by omega, by go_num, HS.out.1, hbel.out.setCell (Nat.le_refl _) _⟩
      case measure => simp [intOf]; omega
    · obtain rfl : i = xs.length := by omega
      have H2 : Hid (Has (Value.int .i64) 3 wr w.heap.size (.slice (some ⟨w.heap.size, 0, none⟩) xs.length xs.length) (raise xs)) := by
        show wr.ownsRow _ _ _ _ _ _
        have := hown.out
        rw [raise_len]
        rw [Nat.sub_self, List.replicate_zero, List.append_nil, List.take_of_length_le (by rw [raise_len]; exact Nat.le_refl _)] at this
        exact this
      clear hown hlt hi
      go_wp2
      go_ret
      exact ⟨_, rfl, H2.out, hbel.out⟩
end Seqs
end Go.Proofs.Ytodnkkofammhbaa
/- Contract of the program's SteadyForm. No conditions beyond those that each states. -/
namespace Go.Proofs.Ytodnkkofammhbaa
open Go.ChangeShapes Go.WideShapes Go.ChangeAt Go.RowKit
open Go.PlainAid Plain
set_option linter.unusedVariables false
namespace Seqs
open Digits

theorem impl_form_no (v : Value) (b : Int) (rows : List (List Int)) (out : List Int) (w : World) (h : LiesS w v b rows out) (hno : formK b rows out = false) :
    Calls Try.prog 46 #[v] w (GivesK 0 [] [] false w) := by
  have HS := Lib.hid h
  obtain ⟨an, cn, ao, co, rfl⟩ := h.form
  clear h
  have hst : steadyB b rows out = false := by simp [formK] at hno; exact hno.1
  have HST := Lib.hid hst
  have hB : Below w.heap.size w ((w.alloc (Obj.cells #[Value.int .i64 b, Value.slice an rows.length cn, Value.slice ao out.length co] 27)).alloc (Obj.cells #[Value.int .i64 0, Value.slice none 0 0, Value.slice none 0 0] 27)) := ((Below.refl _ _).alloc (Nat.le_refl _) _).alloc (by simp) _
  have hA := Lib.hid ((Cells3.new w 27 (.int .i64 b) (.slice an rows.length cn) (.slice ao out.length co)).alloc (Obj.cells #[Value.int .i64 0, Value.slice none 0 0, Value.slice none 0 0] 27))
  have hZ := Lib.hid (Cells3.new (w.alloc (Obj.cells #[Value.int .i64 b, Value.slice an rows.length cn, Value.slice ao out.length co] 27)) 27 (.int .i64 0) (.slice none 0 0) (.slice none 0 0))
  rw [size_alloc'] at hZ
  have HB := Lib.hid hB
  have hz : ((w.alloc (Obj.cells #[Value.int .i64 b, Value.slice an rows.length cn, Value.slice ao out.length co] 27)).alloc (Obj.cells #[Value.int .i64 0, Value.slice none 0 0, Value.slice none 0 0] 27)).heap.size = w.heap.size + 2 := by simp
  have HZ := Lib.hid hz
  clear hB hz
  have hwf : (rows.length : Int) = 16 ∨ ¬ (rows.length : Int) = 16 := by omega
  cases hq : seqB b rows out with
  | false =>
    have HQ := Lib.hid hq
    clear hq hno hst hwf
    go_enter Try.func46, Try.ntmps46
    go_wp2_with fail
    refine (impl_steady _ b rows out _ (HS.out.below HB.out)).mono ?_
    rintro e W1 ⟨rfl, b1⟩
    rw [HST.out]
    have HB1 := Lib.hid (HB.out.trans (b1.mono HB.out.size))
    have hA1 := Lib.hid (hA.out.below b1)
    have hZ1 := Lib.hid (hZ.out.below b1)
    clear b1 HB hA hZ HZ
    have k0 := hA1.out.c0
    have k1 := hA1.out.c1
    have k2 := hA1.out.c2
    go_wp2_with fail
    refine (impl_is _ b rows out _ (HS.out.below HB1.out)).mono ?_
    rintro e W2 ⟨rfl, b1⟩
    rw [HQ.out]
    have HB2 := Lib.hid (HB1.out.trans (b1.mono HB1.out.size))
    have hZ2 := Lib.hid (hZ1.out.below b1)
    clear b1 HB1 hA1 hZ1 k0 k1 k2
    have z0 := hZ2.out.c0
    have z1 := hZ2.out.c1
    have z2 := hZ2.out.c2
    have z3 := hZ2.out.f
    go_wp2
    have m0 := (((hZ2.out.set0 (.int .i64 0)).set1 (.slice none 0 0)).set2 (.slice none 0 0)).c0
    have m1 := (((hZ2.out.set0 (.int .i64 0)).set1 (.slice none 0 0)).set2 (.slice none 0 0)).c1
    have m2 := (((hZ2.out.set0 (.int .i64 0)).set1 (.slice none 0 0)).set2 (.slice none 0 0)).c2
    refine bodyPost_ret (v := .tuple #[.agg #[.int .i64 0, .slice none 0 0, .slice none 0 0], .bool false]) (by simp [results, Try.results46, go_sem, m0, m1, m2]) rfl ⟨_, rfl, OwnS.zero _, ?_⟩
    exact ((HB2.out.setCell (by show _ ≤ _ + 1; omega) _).setCell (by show _ ≤ _ + 1; omega) _).setCell (by show _ ≤ _ + 1; omega) _
  | true =>
    have hl : rows.length = 16 := by
      have h1 := seqB_out hq
      simp [formK, hq] at hno
      have := h1.2.2.2.1
      omega
    have HQ := Lib.hid hq
    have hd := decide_eq_true (show (rows.length : Int) = 16 by omega)
    have hd2 : ((rows.length : Int) == 16) = true := by simp [hl]
    clear hq hno hst hwf hl
    go_enter Try.func46, Try.ntmps46
    go_wp2_with fail
    refine (impl_steady _ b rows out _ (HS.out.below HB.out)).mono ?_
    rintro e W1 ⟨rfl, b1⟩
    rw [HST.out]
    have HB1 := Lib.hid (HB.out.trans (b1.mono HB.out.size))
    have hA1 := Lib.hid (hA.out.below b1)
    have hZ1 := Lib.hid (hZ.out.below b1)
    clear b1 HB hA hZ HZ
    have k0 := hA1.out.c0
    have k1 := hA1.out.c1
    have k2 := hA1.out.c2
    go_wp2_with fail
    refine (impl_is _ b rows out _ (HS.out.below HB1.out)).mono ?_
    rintro e W2 ⟨rfl, b1⟩
    rw [HQ.out]
    have HB2 := Lib.hid (HB1.out.trans (b1.mono HB1.out.size))
    have hZ2 := Lib.hid (hZ1.out.below b1)
    have hA2 := Lib.hid (hA1.out.below b1)
    clear b1 HB1 hA1 hZ1 k0 k1 k2
    have k0 := hA2.out.c0
    have k1 := hA2.out.c1
    have k2 := hA2.out.c2
    have z0 := hZ2.out.c0
    have z1 := hZ2.out.c1
    have z2 := hZ2.out.c2
    have z3 := hZ2.out.f
    go_wp2
    have m0 := (((hZ2.out.set0 (.int .i64 0)).set1 (.slice none 0 0)).set2 (.slice none 0 0)).c0
    have m1 := (((hZ2.out.set0 (.int .i64 0)).set1 (.slice none 0 0)).set2 (.slice none 0 0)).c1
    have m2 := (((hZ2.out.set0 (.int .i64 0)).set1 (.slice none 0 0)).set2 (.slice none 0 0)).c2
    refine bodyPost_ret (v := .tuple #[.agg #[.int .i64 0, .slice none 0 0, .slice none 0 0], .bool false]) (by simp [results, Try.results46, go_sem, m0, m1, m2]) rfl ⟨_, rfl, OwnS.zero _, ?_⟩
    exact ((HB2.out.setCell (by show _ ≤ _ + 1; omega) _).setCell (by show _ ≤ _ + 1; omega) _).setCell (by show _ ≤ _ + 1; omega) _
theorem impl_form_same (v : Value) (b : Int) (rows : List (List Int)) (out : List Int) (w : World) (h : LiesS w v b rows out) (hst : steadyB b rows out = true) (hs : rows.length + tot rows + out.length ≤ 1048576) :
    Calls Try.prog 46 #[v] w (GivesK b rows out true w) := by
  have HS := Lib.hid h
  obtain ⟨an, cn, ao, co, rfl⟩ := h.form
  clear h
  have HST := Lib.hid hst
  clear hst
  have hB : Below w.heap.size w ((w.alloc (Obj.cells #[Value.int .i64 b, Value.slice an rows.length cn, Value.slice ao out.length co] 27)).alloc (Obj.cells #[Value.int .i64 0, Value.slice none 0 0, Value.slice none 0 0] 27)) := ((Below.refl _ _).alloc (Nat.le_refl _) _).alloc (by simp) _
  have hA := Lib.hid ((Cells3.new w 27 (.int .i64 b) (.slice an rows.length cn) (.slice ao out.length co)).alloc (Obj.cells #[Value.int .i64 0, Value.slice none 0 0, Value.slice none 0 0] 27))
  have hZ := Lib.hid (Cells3.new (w.alloc (Obj.cells #[Value.int .i64 b, Value.slice an rows.length cn, Value.slice ao out.length co] 27)) 27 (.int .i64 0) (.slice none 0 0) (.slice none 0 0))
  rw [size_alloc'] at hZ
  have HB := Lib.hid hB
  have hz : ((w.alloc (Obj.cells #[Value.int .i64 b, Value.slice an rows.length cn, Value.slice ao out.length co] 27)).alloc (Obj.cells #[Value.int .i64 0, Value.slice none 0 0, Value.slice none 0 0] 27)).heap.size = w.heap.size + 2 := by simp
  have HZ := Lib.hid hz
  clear hB hz
  go_enter Try.func46, Try.ntmps46
  go_wp2_with fail
  refine (impl_steady _ b rows out _ (HS.out.below HB.out)).mono ?_
  rintro e W1 ⟨rfl, b1⟩
  rw [HST.out]
  have HB1 := Lib.hid (HB.out.trans (b1.mono HB.out.size))
  have hA1 := Lib.hid (hA.out.below b1)
  have hZ1 := Lib.hid (hZ.out.below b1)
  have HZ1 := Lib.hid (show w.heap.size + 2 ≤ W1.heap.size by have := b1.size; rw [HZ.out] at this; exact this)
  clear b1 HB hA hZ HZ
  have k0 := hA1.out.c0
  have k1 := hA1.out.c1
  have k2 := hA1.out.c2
  go_wp2_with fail
  refine (impl_copied _ b rows out _ (HS.out.below HB1.out) hs).mono ?_
  rintro e W2 ⟨v2, rfl, ho, b1⟩
  obtain ⟨a1, c1, a2, c2, rfl⟩ := ho.form
  have HB2 := Lib.hid (HB1.out.trans (b1.mono HB1.out.size))
  have hZ2 := Lib.hid (hZ1.out.below b1)
  have HO := Lib.hid ho
  clear b1 HB1 hA1 hZ1 k0 k1 k2 ho
  have z0 := hZ2.out.c0
  have z1 := hZ2.out.c1
  have z2 := hZ2.out.c2
  have z3 := hZ2.out.f
  go_wp2
  have hZ3 := (((hZ2.out.set0 (.int .i64 b)).set1 (.slice a1 rows.length c1)).set2 (.slice a2 out.length c2))
  have m0 := hZ3.c0
  have m1 := hZ3.c1
  have m2 := hZ3.c2
  refine bodyPost_ret (v := .tuple #[.agg #[.int .i64 b, .slice a1 rows.length c1, .slice a2 out.length c2], .bool true]) (by simp [results, Try.results46, go_sem, m0, m1, m2]) rfl ⟨_, rfl, ?_, ?_⟩
  · have T0 : Plain.Touch w.heap.size (w.heap.size + 2) W2 (((W2.setCell ⟨w.heap.size + 1, 0, none⟩ (.int .i64 b)).setCell ⟨w.heap.size + 1, 1, none⟩ (.slice a1 rows.length c1)).setCell ⟨w.heap.size + 1, 2, none⟩ (.slice a2 out.length c2)) :=
      ((Plain.Touch.of_set _ (by show _ ≤ _ + 1; omega) (by show _ + 1 < _; omega)).trans (Plain.Touch.of_set _ (by show _ ≤ _ + 1; omega) (by show _ + 1 < _; omega))).trans (Plain.Touch.of_set _ (by show _ ≤ _ + 1; omega) (by show _ + 1 < _; omega))
    have g1 := HZ1.out
    have := (HO.out.touch T0 (.inr g1)).lower (show w.heap.size ≤ W1.heap.size by omega)
    simpa only [size_setCell'] using this
  · exact ((HB2.out.setCell (by show _ ≤ _ + 1; omega) _).setCell (by show _ ≤ _ + 1; omega) _).setCell (by show _ ≤ _ + 1; omega) _

theorem set_first (xs : List Int) (h : 0 < xs.length) : (raise xs).set 0 0 = 0 :: raise (xs.drop 1) := by
  cases xs with
  | nil => simp at h
  | cons x l => simp [raise]
theorem form_meet {wx w W4 : World} {b o0 : Int} {row : List Int} {v1 vn vo A1 A2 s : Value} {p : Nat} (HF : OwnI W4 (w.heap.size + 2) W4.heap.size v1 row) (HB : Below w.heap.size w W4) (HA : Cells3 W4 w.heap.size 27 (.int .i64 b) A1 A2) (HZ : Cells3 W4 (w.heap.size + 1) 27 (.int .i64 0) (.slice none 0 0) (.slice none 0 0)) (hs : w.heap.size + 2 ≤ W4.heap.size)
    (hbel : Below W4.heap.size W4 wx) (hp : W4.heap.size ≤ p) (hc : Cells3 wx p 27 (.int .i64 b) vn vo) (hn : Has id 25 wx W4.heap.size vn [v1]) (ho : Has (Value.int .i64) 3 wx W4.heap.size vo [o0]) (hsv : s = .pointer (some ⟨p, 0, none⟩)) :
    ∃ (p : Nat) (vn vo : Value), s = .pointer (some ⟨p, 0, none⟩) ∧ Hid (w.heap.size + 2 ≤ p ∧ p < wx.heap.size) ∧ Hid (Has id 25 wx (w.heap.size + 2) vn [v1]) ∧ Hid (OwnRows wx (w.heap.size + 2) wx.heap.size (vo :: [v1]) ([o0] :: [row])) ∧ Hid (Cells3 wx p 27 (.int .i64 b) vn vo) ∧ Hid (Below w.heap.size w wx) ∧ Hid (Cells3 wx w.heap.size 27 (.int .i64 b) A1 A2) ∧ Hid (Cells3 wx (w.heap.size + 1) 27 (.int .i64 0) (.slice none 0 0) (.slice none 0 0)) :=
  ⟨p, vn, vo, hsv, ⟨Nat.le_trans hs hp, hc.lt⟩, hn.mono hs, own_pair (HF.below hbel) (own_of_has ho) hs hbel.size, hc, HB.trans (hbel.mono HB.size), c3_of_below hbel HA (by omega), c3_of_below hbel HZ (by omega)⟩
set_option maxHeartbeats 2000000 in
theorem impl_form_make (v : Value) (b : Int) (rows : List (List Int)) (out : List Int) (w : World) (h : LiesS w v b rows out) (hq : seqB b rows out = true) (hst : steadyB b rows out = false) (hlen : rows.length < 16) (hs : rows.length + tot rows + out.length ≤ 1048576) :
    Calls Try.prog 46 #[v] w (GivesK b (steadyRows rows) (steadyOut out) true w) := by
  obtain ⟨i0, hi, hz0, hz1, hz2⟩ := info_parts infoR
  obtain ⟨i1, hi1, hz01, hz11, hz21⟩ := info_parts Ints.infoI
  have HS := Lib.hid h
  obtain ⟨an, cn, ao, co, rfl, hN, hO⟩ := liesS_open h
  have HN := Lib.hid hN
  have HO := Lib.hid hO
  clear h hN hO
  have HST := Lib.hid hst
  have HQ := Lib.hid hq
  have hv := seqB_out hq
  have hr1 : 0 < rows.length := by have := hv.2.2.1; omega
  have hol : out.length = rows.length := hv.2.2.2.2.1
  have hb2 : 2 ≤ b := hv.1
  have hb4 : b ≤ 4 := hv.2.1
  have HROW := Lib.hid (fun (i : Nat) (r : List Int) (hr : rows[i]? = some r) => hv.2.2.2.2.2.1 r (List.mem_of_getElem? hr))
  obtain ⟨o0, ho0⟩ : ∃ o0, out[0]? = some o0 := ⟨_, List.getElem?_eq_getElem (by omega)⟩
  obtain ⟨r0, hr0⟩ : ∃ r0, rows[0]? = some r0 := ⟨_, List.getElem?_eq_getElem hr1⟩
  have hr0b := HROW.out 0 r0 hr0
  have hr0l : 0 < r0.length := by omega
  have hr0s : r0.length ≤ 4 := by omega
  have HR0B := Lib.hid (show ∀ x ∈ r0, 0 ≤ x ∧ x < 1000 from fun x hx => by have := hr0b.2 x hx; omega)
  have HO0 := Lib.hid ho0
  have HR0 := Lib.hid hr0
  have HSR := Lib.hid (show steadyRows rows = (0 :: raise (r0.drop 1)) :: rows.map raise by rw [steadyRows, List.getD_eq_getElem?_getD, hr0]; rfl)
  have HSO := Lib.hid (show steadyOut out = o0 :: out by rw [steadyOut, List.getD_eq_getElem?_getD, ho0]; rfl)
  have HOL := Lib.hid hol
  have hd := decide_eq_false (show ¬ (rows.length : Int) = 16 by omega)
  have hd2 : ((rows.length : Int) == 16) = false := by simp; omega
  clear hst hq hv hr0b ho0 hr0 hol
  have hB : Below w.heap.size w ((w.alloc (Obj.cells #[Value.int .i64 b, Value.slice an rows.length cn, Value.slice ao out.length co] 27)).alloc (Obj.cells #[Value.int .i64 0, Value.slice none 0 0, Value.slice none 0 0] 27)) := ((Below.refl _ _).alloc (Nat.le_refl _) _).alloc (by simp) _
  have hA := Lib.hid ((Cells3.new w 27 (.int .i64 b) (.slice an rows.length cn) (.slice ao out.length co)).alloc (Obj.cells #[Value.int .i64 0, Value.slice none 0 0, Value.slice none 0 0] 27))
  have hZ := Lib.hid (Cells3.new (w.alloc (Obj.cells #[Value.int .i64 b, Value.slice an rows.length cn, Value.slice ao out.length co] 27)) 27 (.int .i64 0) (.slice none 0 0) (.slice none 0 0))
  rw [size_alloc'] at hZ
  have HB := Lib.hid hB
  have hz : ((w.alloc (Obj.cells #[Value.int .i64 b, Value.slice an rows.length cn, Value.slice ao out.length co] 27)).alloc (Obj.cells #[Value.int .i64 0, Value.slice none 0 0, Value.slice none 0 0] 27)).heap.size = w.heap.size + 2 := by simp
  have HZ := Lib.hid hz
  clear hB hz
  go_enter Try.func46, Try.ntmps46
  go_wp2_with fail
  refine (impl_steady _ b rows out _ (HS.out.below HB.out)).mono ?_
  rintro e W1 ⟨rfl, b1⟩
  rw [HST.out]
  have HB1 := Lib.hid (HB.out.trans (b1.mono HB.out.size))
  have hA1 := Lib.hid (hA.out.below b1)
  have hZ1 := Lib.hid (hZ.out.below b1)
  have hs1 : w.heap.size + 2 ≤ W1.heap.size := by have := b1.size; rw [HZ.out] at this; exact this
  clear b1 HB hA hZ HZ
  have k0 := hA1.out.c0
  have k1 := hA1.out.c1
  have k2 := hA1.out.c2
  go_wp2_with fail
  refine (impl_is _ b rows out _ (HS.out.below HB1.out)).mono ?_
  rintro e W2 ⟨rfl, b1⟩
  rw [HQ.out]
  have HB2 := Lib.hid (HB1.out.trans (b1.mono HB1.out.size))
  have hZ2 := Lib.hid (hZ1.out.below b1)
  have hA2 := Lib.hid (hA1.out.below b1)
  have hs2 : w.heap.size + 2 ≤ W2.heap.size := by have := b1.size; omega
  clear b1 HB1 hA1 hZ1 k0 k1 k2 hs1
  have k0 := hA2.out.c0
  have k1 := hA2.out.c1
  have k2 := hA2.out.c2
  obtain ⟨a0, c0, hv0, _, hcl⟩ := (HN.out.below HB2.out).row
  obtain ⟨pa, off, u, rfl, hcell, hlies⟩ := hcl 0 r0 HR0.out
  injection hv0 with e1 e2 e3
  subst e1; subst e3
  rw [Nat.add_zero] at hcell
  have HL := Lib.hid hlies
  clear hcl hlies
  have hrr : (0 : Int) < (rows.length : Int) := by omega
  go_wp2_with fail
  refine (raised_any _ r0 _ HL.out (by omega) HR0B.out).mono ?_
  rintro e W3 ⟨v1, rfl, hv1, b1⟩
  obtain ⟨a1, c1, rfl, hf1⟩ := hv1.form
  rw [raise_len] at hf1
  obtain ⟨g1, rfl⟩ := hf1 hr0l
  have hrl := raise_len r0
  rw [hrl] at hv1 ⊢
  have hW1 : W3.ownsRow W2.heap.size 3 1 (.slice (some ⟨g1, 0, none⟩) r0.length c1) r0.length ((raise r0).map (Value.int .i64)) := by
    have := hv1
    unfold Has at this
    rw [hrl] at this
    exact this
  have hg1 : W2.heap.size ≤ g1 := (hv1.lt g1 rfl).1
  have hg1' : g1 < W3.heap.size := (hv1.lt g1 rfl).2
  have hc : ∃ x, W3.cell? ⟨g1, 0, none⟩ = some (.int .i64 x) := by
    refine ⟨(raise r0)[0]'(by rw [hrl]; exact hr0l), ?_⟩
    rw [hW1.cellAt 0 (by omega), List.getElem?_map, List.getElem?_eq_getElem (by rw [hrl]; exact hr0l)]
    rfl
  obtain ⟨x0, hc⟩ := hc
  have hfr := hW1.frozenAt 0
  have hst := hW1.stored 0 (.int .i64 0)
  rw [show ((raise r0).map (Value.int .i64)).set 0 (.int .i64 0) = (0 :: raise (r0.drop 1)).map (Value.int .i64) from by rw [← set_first r0 hr0l, List.map_set]] at hst
  have HST3 := Lib.hid hst
  have HB3 := Lib.hid (HB2.out.trans (b1.mono HB2.out.size))
  have hZ3 := Lib.hid (hZ2.out.below b1)
  have hA3 := Lib.hid (hA2.out.below b1)
  have hs3 : w.heap.size + 2 ≤ W3.heap.size := by have := b1.size; omega
  clear b1 HB2 hA2 hZ2 k0 k1 k2 hv1 hW1 hst hrl hf1 hcell HL
  have hr0i : (0 : Int) < (r0.length : Int) := by omega
  go_wp2_with fail
  obtain ⟨W4, hW4⟩ : ∃ W, W = W3.setCell ⟨g1, 0, none⟩ (.int .i64 0) := ⟨_, rfl⟩
  have HF : Hid (OwnI W4 (w.heap.size + 2) W4.heap.size (.slice (some ⟨g1, 0, none⟩) r0.length c1) (0 :: raise (r0.drop 1))) := by
    have h1 := HST3.out.1
    rw [← hW4] at h1
    have h2 : Has (Value.int .i64) 3 W4 W2.heap.size (.slice (some ⟨g1, 0, none⟩) r0.length c1) (0 :: raise (r0.drop 1)) := by
      unfold Has
      rw [show (0 :: raise (r0.drop 1)).length = r0.length from by simp [raise]; omega]
      exact h1
    exact ⟨h2.mono hs2, fun k hk => (h2.lt k hk).2, Nat.le_refl _⟩
  have hB4 : Below w.heap.size w (W3.setCell ⟨g1, 0, none⟩ (.int .i64 0)) := HB3.out.setCell (by show _ ≤ g1; omega) _
  have HB4 := Lib.hid hB4
  have HZ4 := Lib.hid (hZ3.out.other (a := ⟨g1, 0, none⟩) (by show g1 ≠ _; omega) (.int .i64 0))
  have HA4 := Lib.hid (hA3.out.other (a := ⟨g1, 0, none⟩) (by show g1 ≠ _; omega) (.int .i64 0))
  have hs4 : w.heap.size + 2 ≤ (W3.setCell ⟨g1, 0, none⟩ (.int .i64 0)).heap.size := by simpa [World.setCell] using hs3
  rw [← hW4] at HB4 HZ4 HA4 hs4 ⊢
  clear hB4 HB3 hZ3 hA3 HST3 hs3 hc hfr hg1 hg1' hs2 hW4
  obtain ⟨_, ao', co', hv0, _, hco⟩ := HO.out.below HB4.out
  injection hv0 with e1 e2 e3
  subst e1; subst e3
  obtain ⟨po, oo, rfl, hoc⟩ := hco 0 o0 HO0.out
  rw [Nat.add_zero] at hoc
  have hpo : po < w.heap.size := by
    obtain ⟨_, ao', co', hv0, _, hco'⟩ := HO.out
    injection hv0 with e1 e2 e3
    subst e1
    obtain ⟨po', oo', h1, h2⟩ := hco' 0 o0 HO0.out
    injection h1 with h1
    injection h1 with h1 h3
    subst h1
    exact World.block_lt_of_cell? w _ h2
  have HOC := Lib.hid hoc
  have hol : 0 < out.length := by have := HOL.out; omega
  clear hco hoc
  go_cut [5] (fun s wx => ∃ (p : Nat) (vn vo : Value), s = .pointer (some ⟨p, 0, none⟩) ∧ Hid (w.heap.size + 2 ≤ p ∧ p < wx.heap.size) ∧ Hid (Has id 25 wx (w.heap.size + 2) vn [.slice (some ⟨g1, 0, none⟩) r0.length c1]) ∧ Hid (OwnRows wx (w.heap.size + 2) wx.heap.size (vo :: [.slice (some ⟨g1, 0, none⟩) r0.length c1]) ([o0] :: [0 :: raise (r0.drop 1)])) ∧ Hid (Cells3 wx p 27 (.int .i64 b) vn vo) ∧ Hid (Below w.heap.size w wx) ∧ Hid (Cells3 wx w.heap.size 27 (.int .i64 b) (.slice (some ⟨pa, off, none⟩) rows.length cn) (.slice (some ⟨po, oo, none⟩) out.length co)) ∧ Hid (Cells3 wx (w.heap.size + 1) 27 (.int .i64 0) (.slice none 0 0) (.slice none 0 0)))
  case first =>
    go_region_held3 (fun w' => w'.cell? ⟨w.heap.size, 0, none⟩ = some (.int .i64 b) ∧ w'.cell? ⟨w.heap.size, 1, none⟩ = some (.slice (some ⟨pa, off, none⟩) rows.length cn) ∧ w'.cell? ⟨w.heap.size, 2, none⟩ = some (.slice (some ⟨po, oo, none⟩) out.length co) ∧ w'.cell? ⟨po, oo, none⟩ = some (.int .i64 o0))
      ((refine copy_held (w := w) (wo := W4) (t := 27) HA4.out hpo HOC.out ?_; repeat (first | with_reducible exact Below.refl _ _ | with_reducible apply Below.drew | (with_reducible refine Below.alloc ?_ (by first | omega | (simp; omega)) _))))
      (fail)
    all_goals
      go_wp2_with fail
      go_meet
      apply form_meet HF.out HB4.out HA4.out HZ4.out hs4 (hsv := rfl)
      case hc => repeat (first | with_reducible apply c3_drew | ((with_reducible refine c3_new' ?_) <;> (first | rfl | exact Nat.le_refl _ | omega | (simp; done) | (simp; omega))) | with_reducible apply Cells3.alloc)
      case hbel => repeat (first | with_reducible exact Below.refl _ _ | with_reducible apply Below.drew | with_reducible apply below_allocs)
      case hn => repeat (first | with_reducible apply has_drew | ((with_reducible refine has_lit1v _ ?_ ?_) <;> (first | rfl | exact Nat.le_refl _ | omega | (simp; done) | (simp; omega))) | with_reducible apply has_alloc)
      case ho => repeat (first | with_reducible apply has_drew | ((with_reducible refine has_lit1 (enc := Value.int .i64) _ ?_ ?_) <;> (first | rfl | exact Nat.le_refl _ | omega | (simp; done) | (simp; omega))) | with_reducible apply has_alloc)
      case hp => first | exact Nat.le_refl _ | (simp; done) | omega
  case rest =>
    obtain ⟨p, vn, vo, rfl, hp, hN1, hR1, hC1, hB1, hA1, hZ1⟩ := hcut
    obtain ⟨W5, rfl⟩ : ∃ W, W = wc := ⟨_, rfl⟩
    have hp1 := hp.out.1
    clear hp HF HB4 HZ4 HA4 hs4 HOC
    have k0 := hA1.out.c0
    have k1 := hA1.out.c1
    have k2 := hA1.out.c2
    go_wp2_with fail
    go_loopw [42] (fun i' wr => ∃ (i : Nat) (us : List Value) (vn vo : Value), i ≤ rows.length ∧ i' = .int .i64 i ∧ Hid (Has id 25 wr (w.heap.size + 2) vn us) ∧ Hid (OwnRows wr (w.heap.size + 2) wr.heap.size (vo :: us) ((o0 :: out.take i) :: ((0 :: raise (r0.drop 1)) :: (rows.take i).map raise))) ∧ Hid (Cells3 wr p 27 (.int .i64 b) vn vo) ∧ Hid (Below w.heap.size w wr) ∧ Hid (Cells3 wr w.heap.size 27 (.int .i64 b) (.slice (some ⟨pa, off, none⟩) rows.length cn) (.slice (some ⟨po, oo, none⟩) out.length co)) ∧ Hid (Cells3 wr (w.heap.size + 1) 27 (.int .i64 0) (.slice none 0 0) (.slice none 0 0))) (fun i' _ => rows.length - (intOf i').toNat)
    case atStart => exact ⟨0, [_], vn, vo, Nat.zero_le _, rfl, hN1, hR1, hC1, hB1, hA1, hZ1⟩
    case round =>
      clear k0 k1 k2
      obtain ⟨i, us, vn, vo, hile, rfl, hN, hR, hC, hB, hA, hZ⟩ := hrel
      obtain ⟨wo, rfl⟩ : ∃ wo : World, wo = wr := ⟨_, rfl⟩
      by_cases hlt : i < rows.length
      · obtain ⟨r, hr⟩ : ∃ r, rows[i]? = some r := ⟨_, List.getElem?_eq_getElem hlt⟩
        obtain ⟨oi, hoi⟩ : ∃ o, out[i]? = some o := ⟨_, List.getElem?_eq_getElem (by have := HOL.out; omega)⟩
        obtain ⟨a0, c0, hv0, _, hcl⟩ := (HN.out.below hB.out).row
        obtain ⟨pa', off', u, h1, hcell, hlies⟩ := hcl i r hr
        injection hv0 with e1 e2 e3
        rw [← e1] at h1
        injection h1 with h1
        injection h1 with h1 h2
        subst h1; subst h2
        have HL := Lib.hid hlies
        have hrb := HROW.out i r hr
        have hrl : r.length ≤ 4 := by omega
        have HRB := Lib.hid (show ∀ x ∈ r, 0 ≤ x ∧ x < 1000 from fun x hx => by have := hrb.2 x hx; omega)
        have HT := Lib.hid (show rows.take (i + 1) = rows.take i ++ [r] from by
          obtain ⟨h1, rfl⟩ := List.getElem?_eq_some_iff.1 hr
          exact List.take_succ_eq_append_getElem h1)
        have HTO := Lib.hid (show out.take (i + 1) = out.take i ++ [oi] from by
          obtain ⟨h1, rfl⟩ := List.getElem?_eq_some_iff.1 hoi
          exact List.take_succ_eq_append_getElem h1)
        have HOI := Lib.hid hoi
        have hul : us.length = i + 1 := by
          have := hR.out.len
          simp at this
          omega
        have HUL := Lib.hid hul
        have hw2 : w.heap.size + 2 ≤ wo.heap.size := by have := hC.out.lt; omega
        have hi0 : (0 : Int) ≤ (i : Int) := Int.natCast_nonneg _
        have hi1' : (i : Int) < (rows.length : Int) := by omega
        have HCELL := Lib.hid hcell
        have d2 := hcell
        clear hlies hr hul hcl hcell e1 e2 e3 hrb hoi
        go_wp2_with fail
        go_cut [] (fun wx => ∃ (us' : List Value) (vn' : Value), Hid (us'.length = i + 2) ∧ Hid (Has id 25 wx (w.heap.size + 2) vn' us') ∧ Hid (OwnRows wx (w.heap.size + 2) wx.heap.size (vo :: us') ((o0 :: out.take i) :: ((0 :: raise (r0.drop 1)) :: (rows.take (i + 1)).map raise))) ∧ Hid (Cells3 wx p 27 (.int .i64 b) vn' vo) ∧ Hid (Below w.heap.size w wx) ∧ Hid (Cells3 wx w.heap.size 27 (.int .i64 b) (.slice (some ⟨pa, off, none⟩) rows.length cn) (.slice (some ⟨po, oo, none⟩) out.length co)) ∧ Hid (Cells3 wx (w.heap.size + 1) 27 (.int .i64 0) (.slice none 0 0) (.slice none 0 0)))
        case first =>
          have c1 := hC.out.c1
          have hpl := hC.out.lt
          have HUS := Lib.hid (show (us.length + 1) * 24 ≤ 140737488355328 ∧ us.length + 1 ≤ 9223372036854775807 by have := HUL.out; omega)
          clear d2
          go_region_law (first
            | (go_simp; go_at_call 71; refine (raised_any _ r _ (lies_drew HL.out) (by omega) HRB.out).mono ?_; rintro e wa ⟨va, rfl, hva, ba⟩; obtain ⟨aa, ca, hvf, _⟩ := hva.form; rw [raise_len] at hvf; subst hvf; have hba := (below_drew' wo).trans ba; have hca := hC.out.below hba; have q1 := hca.c1; have q2 := (hca.alloc (Obj.cells #[Value.slice aa r.length ca] 25)).c1; have hna := hN.out.below hba)
            | (refine step_append_list (enc := id) (e := 25) rfl (.tmp 48) (.tmp 51) 24 rfl (w.heap.size + 2) i0 (.slice none 0 0) 24 Try.underlying24 hi hz0 hz1 hz2 rfl vn us rfl (by repeat (first | with_reducible exact hna | with_reducible apply has_drew | with_reducible apply has_alloc)) (Value.slice (some ⟨_, 0, none⟩) 1 1) [Value.slice aa r.length ca] rfl (by repeat (first | with_reducible apply lies_drew | (with_reducible refine lies_lit1v _ rfl) | with_reducible apply lies_alloc)) (fun y hy => by simp at hy; subst hy; rfl) HUS.out.1 HUS.out.2 (by have := hba.size; simp; omega) ?_; intro vt w2 ho2 hg2; obtain ⟨at2, ct2, rfl, _⟩ := ho2.form; rw [show (us ++ [Value.slice aa r.length ca]).length = us.length + 1 from by simp] at ho2; refine with_fact (T := wa.grownBy w2 vn.ownBlock) ?_ ?_; (focus (first | exact grown_alloc hg2 | exact grown_alloc (grown_drew hg2))); intro hg3; have hc2 := hca.grown hg3 (has_ne_c3 hna hca (by decide)); have r1 := hc2.c1; have r3 := hc2.f))
          all_goals
            have HC2 := Lib.hid hc2
            have HT2 := Lib.hid ho2
            have HNT := Lib.hid (has_ne_c3 ho2 hc2 (by decide))
            have HR1 : Hid (OwnRows wa (w.heap.size + 2) wa.heap.size (vo :: (us ++ [Value.slice aa r.length ca])) ((o0 :: out.take i) :: ((0 :: raise (r0.drop 1)) :: (rows.take (i + 1)).map raise))) := by
              have h1 : OwnI wa wo.heap.size wa.heap.size (Value.slice aa r.length ca) (raise r) := OwnI.of_gives hva
              have h2 := (hR.out.below hba).snoc h1 hw2 hba.size
              rw [HT.out, List.map_append]
              exact h2
            have HR2 := Lib.hid ((HR1.out.top_grown hna hg3).mono hg3.size (Nat.le_refl _))
            have HRN := Lib.hid (HR2.out.ne_c3 hc2 (by decide))
            have hvp : w.heap.size + 2 ≤ p := hp1
            have HB2 := Lib.hid (((Below.refl (w.heap.size + 2) wo).trans (hba.mono hw2)).grown hg3 (Nat.le_trans hw2 hba.size) (fun k hk => (hN.out.lt k hk).1))
            clear hg2 hg3 hc2 r1 r3 ho2 hva ba hba hca q1 q2 hna c1 hpl
            go_wp2_with fail
            go_meet
            refine ⟨us ++ [Value.slice aa r.length ca], Value.slice at2 (us.length + 1) ct2, Lib.hid (by simp [HUL.out]), HT2.out.set (a := ⟨p, 1, none⟩) HNT.out (.slice at2 (us.length + 1) ct2), ?_, HC2.out.set1 (.slice at2 (us.length + 1) ct2), (hB.out.trans (HB2.out.mono (by omega))).setCell (by show _ ≤ p; omega) _, (c3_of_below HB2.out hA.out (by omega)).other (by show p ≠ _; omega) _, (c3_of_below HB2.out hZ.out (by omega)).other (by show p ≠ _; omega) _⟩
            have := HR2.out.set (a := ⟨p, 1, none⟩) HRN.out (.slice at2 (us.length + 1) ct2)
            show OwnRows _ _ _ _ _
            simpa only [size_setCell'] using this
        case rest =>
          clear hN hR hC hB hA hZ HL HRB HCELL HUL hw2
          obtain ⟨us', vn', hul, hN, hR, hC, hB, hA, hZ⟩ := hcut
          obtain ⟨W6, rfl⟩ : ∃ W, W = wc := ⟨_, rfl⟩
          have hw2 : w.heap.size + 2 ≤ W6.heap.size := by have := hC.out.lt; omega
          obtain ⟨_, ao', co', hv0, _, hco⟩ := HO.out.below hB.out
          injection hv0 with e1 e2 e3
          obtain ⟨po', oo', h1, hoc⟩ := hco i oi HOI.out
          rw [← e1] at h1
          injection h1 with h1
          injection h1 with h1 h2
          subst h1; subst h2
          have k1 := hA.out.c2
          have c2 := hC.out.c2
          have c3 := (hC.out.alloc (Obj.cells #[Value.int .i64 oi] 3)).c2
          have hpl := hC.out.lt
          have hol1 : (i : Int) < (out.length : Int) := by have := HOL.out; omega
          have hon1 : i < out.length := by have := HOL.out; omega
          have HVO := Lib.hid (hR.out.row 0 vo (o0 :: out.take i) rfl rfl)
          have HLE := Lib.hid (show ((o0 :: out.take i).length + 1) * 8 ≤ 140737488355328 ∧ (o0 :: out.take i).length + 1 ≤ 9223372036854775807 by simp; omega)
          clear hco e1 e2 e3
          go_wp2_with fail
          go_region_law ((refine step_append_at_list (enc := Value.int .i64) (e := 3) rfl (.tmp 55) (.tmp 61) 25 rfl (w.heap.size + 2) i1 (.int .i64 0) 8 Try.underlying25 hi1 hz01 hz11 hz21 rfl vo (o0 :: out.take i) rfl (by repeat (first | with_reducible exact HVO.out.has | with_reducible apply has_drew | with_reducible apply has_alloc)) (Value.slice (some ⟨_, 0, none⟩) 1 1) [oi] rfl (by repeat (first | with_reducible apply lies_drew | (with_reducible refine lies_lit1 (enc := Value.int .i64) _ rfl) | with_reducible apply lies_alloc)) (fun _ _ => rfl) HLE.out.1 HLE.out.2 (by simp; omega) ?_; intro vt w2 ho2 hg2 hb2; obtain ⟨at2, ct2, hvf, _⟩ := ho2.form; rw [show (o0 :: out.take i ++ [oi]).length = i + 2 from by simp; omega] at hvf; subst hvf; rw [List.cons_append] at ho2; refine with_fact (T := W6.grownBy w2 vo.ownBlock) ?_ ?_; (focus (exact grown_alloc (grown_drew hg2))); intro hg3; have hc2 := hC.out.grown hg3 (has_ne_c3 HVO.out.has hC.out (by decide)); have r1 := hc2.c2; have r3 := hc2.f))
          all_goals
            have HC2 := Lib.hid hc2
            have HT2 := Lib.hid ho2
            have HR2 := Lib.hid (hR.out.head_grown ho2 (Nat.le_refl _) (Nat.le_refl _) hg3 (fun k hk => (hb2 k hk).imp id (fun h => by simp at h; omega)))
            have HRN := Lib.hid (HR2.out.ne_c3 hc2 (by decide))
            have HN2 := Lib.hid (hN.out.grown hg3 (hN.out.ne_top HVO.out.has))
            have HNN := Lib.hid (has_ne_c3 HN2.out hc2 (by decide))
            have HB2 := Lib.hid ((Below.refl (w.heap.size + 2) W6).grown hg3 hw2 (fun k hk => (HVO.out.has.lt k hk).1))
            clear hg2 hg3 hc2 r1 r3 ho2 hb2 c2 c3 hpl k1 hoc
            go_wp2
            go_roundw
            case rel =>
              refine ⟨i + 1, us', vn', .slice at2 (i + 2) ct2, by omega, by go_num, HN2.out.set (a := ⟨p, 2, none⟩) HNN.out (.slice at2 (i + 2) ct2), ?_, HC2.out.set2 (.slice at2 (i + 2) ct2), (hB.out.trans (HB2.out.mono (by omega))).setCell (by show _ ≤ p; omega) _, (c3_of_below HB2.out hA.out (by omega)).other (by show p ≠ _; omega) _, (c3_of_below HB2.out hZ.out (by omega)).other (by show p ≠ _; omega) _⟩
              have := HR2.out.set (a := ⟨p, 2, none⟩) HRN.out (.slice at2 (i + 2) ct2)
              show OwnRows _ _ _ _ _
              rw [HTO.out]
              simpa only [size_setCell'] using this
            case measure => simp [intOf]; omega
      · obtain rfl : i = rows.length := by omega
        have hw2 : w.heap.size + 2 ≤ wo.heap.size := by have := hC.out.lt; omega
        have hus : us.length = (steadyRows rows).length := by
          have := hR.out.len
          rw [HSR.out]
          simp at this ⊢
          omega
        have hol : (o0 :: out.take rows.length).length = (steadyOut out).length := by
          rw [HSO.out]
          have := HOL.out
          simp
          omega
        have HE : Hid (OwnRows wo (w.heap.size + 2) wo.heap.size (vo :: us) (steadyOut out :: steadyRows rows)) := by
          have h1 := hR.out
          rw [List.take_length] at h1
          rw [show out.take rows.length = out from List.take_of_length_le (by have := HOL.out; omega)] at h1
          rw [HSR.out, HSO.out]
          exact h1
        obtain ⟨an1, cn1, hv1, _⟩ := hN.out.form
        obtain ⟨ao1, co1, hv2, _⟩ := (hR.out.row 0 vo _ rfl rfl).has.form
        rw [hus] at hv1
        rw [hol] at hv2
        subst hv1; subst hv2
        have k0 := hA.out.c0
        have k1 := hA.out.c1
        have k2 := hA.out.c2
        have p0 := hC.out.c0
        have p1 := hC.out.c1
        have p2 := hC.out.c2
        have p3 := hC.out.f
        have z0 := hZ.out.c0
        have z1 := hZ.out.c1
        have z2 := hZ.out.c2
        have z3 := hZ.out.f
        clear hus hol hR
        go_wp2
        have hZ3 := (((hZ.out.set0 (.int .i64 b)).set1 (.slice an1 (steadyRows rows).length cn1)).set2 (.slice ao1 (steadyOut out).length co1))
        have m0 := hZ3.c0
        have m1 := hZ3.c1
        have m2 := hZ3.c2
        refine bodyPost_ret (v := .tuple #[.agg #[.int .i64 b, .slice an1 (steadyRows rows).length cn1, .slice ao1 (steadyOut out).length co1], .bool true]) (by simp [results, Try.results46, go_sem, m0, m1, m2]) rfl ⟨_, rfl, ?_, ?_⟩
        · have T0 : Plain.Touch w.heap.size (w.heap.size + 2) wo (((wo.setCell ⟨w.heap.size + 1, 0, none⟩ (.int .i64 b)).setCell ⟨w.heap.size + 1, 1, none⟩ (.slice an1 (steadyRows rows).length cn1)).setCell ⟨w.heap.size + 1, 2, none⟩ (.slice ao1 (steadyOut out).length co1)) :=
            ((Plain.Touch.of_set _ (by show _ ≤ _ + 1; omega) (by show _ + 1 < _; omega)).trans (Plain.Touch.of_set _ (by show _ ≤ _ + 1; omega) (by show _ + 1 < _; omega))).trans (Plain.Touch.of_set _ (by show _ ≤ _ + 1; omega) (by show _ + 1 < _; omega))
          have hS : OwnS wo (w.heap.size + 2) wo.heap.size (.agg #[.int .i64 b, .slice an1 (steadyRows rows).length cn1, .slice ao1 (steadyOut out).length co1]) b (steadyRows rows) (steadyOut out) := OwnS.make_head hN.out HE.out
          have := (hS.touch T0 (.inr (Nat.le_refl _))).lower (show w.heap.size ≤ w.heap.size + 2 by omega)
          simpa only [size_setCell'] using this
        · exact ((hB.out.setCell (by show _ ≤ _ + 1; omega) _).setCell (by show _ ≤ _ + 1; omega) _).setCell (by show _ ≤ _ + 1; omega) _
end Seqs
end Go.Proofs.Ytodnkkofammhbaa
