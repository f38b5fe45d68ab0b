/- Plain facts on borders and periods of a word, on its root and on its palindromes. No conditions beyond those that each fact states. -/
import Derived.Test.YtcnejfihpaicdaaFacVal
namespace Go.Proofs.Ytcnejfihpaicdaa.Plain
/-- A beginning of at least one letter has a border. -/
theorem bd_pos (u : List Int) {n : Nat} (h : 0 < n) : 0 ≤ bd u n := by
  by_cases hb : bd u n < 0
  · have := gr_above (p := sfx u n) (n := n) (j := 0) h hb
    simp [sfx] at this
  · omega
/-- All borders of the first n letters, in ascending order. -/
def brs (u : List Int) (n : Nat) : List Int :=
  if _h : n = 0 then [] else brs u (bd u n).toNat ++ [bd u n]
termination_by n
decreasing_by have := bd_ge u n; omega
theorem brs_zero (u : List Int) : brs u 0 = [] := by unfold brs; simp
theorem brs_pos (u : List Int) {n : Nat} (h : 0 < n) : brs u n = brs u (bd u n).toNat ++ [bd u n] := by
  conv => lhs; unfold brs
  rw [dif_neg (by omega)]
theorem brs_len (u : List Int) : ∀ n, (brs u n).length ≤ n := fun n => by
  induction n using Nat.strongRecOn with
  | ind n ih =>
    by_cases h : n = 0
    · subst h; rw [brs_zero]; exact Nat.le_refl _
    · rw [brs_pos u (by omega)]
      have h1 := bd_ge u n
      have h2 := bd_pos u (n := n) (by omega)
      have := ih (bd u n).toNat (by omega)
      simp; omega
theorem brs_range (u : List Int) : ∀ n x, x ∈ brs u n → 0 ≤ x ∧ x < n := fun n => by
  induction n using Nat.strongRecOn with
  | ind n ih =>
    intro x hx
    by_cases h : n = 0
    · subst h; rw [brs_zero] at hx; cases hx
    · rw [brs_pos u (by omega)] at hx
      have h1 := bd_ge u n
      have h2 := bd_pos u (n := n) (by omega)
      rcases List.mem_append.1 hx with hx | hx
      · have := ih (bd u n).toNat (by omega) x hx
        omega
      · obtain rfl := List.mem_singleton.1 hx
        omega
/-- The borders of a word; what is left of its length; the least of that. -/
def brV (u : List Int) : List Int := brs u u.length
def prV (u : List Int) : List Int := (brV u).reverse.map fun b => (u.length : Int) - b
def lpN (u : List Int) : Nat := ((u.length : Int) - bd u u.length).toNat
def lpV (u : List Int) : Int := if u.length = 0 then 0 else (u.length : Int) - bd u u.length
theorem brV_len (u : List Int) : (brV u).length ≤ u.length := brs_len u _
theorem prV_len (u : List Int) : (prV u).length ≤ u.length := by simpa [prV] using brV_len u
theorem brV_nil {u : List Int} (h : u.length = 0) : brV u = [] := by unfold brV; rw [h]; exact brs_zero u
theorem prV_nil {u : List Int} (h : u.length = 0) : prV u = [] := by simp [prV, brV_nil h]
theorem lpV_nil {u : List Int} (h : u.length = 0) : lpV u = 0 := by simp [lpV, h]
theorem prV_first {u : List Int} (h : 0 < u.length) : (prV u)[0]? = some (lpV u) := by
  unfold prV brV lpV
  rw [brs_pos u h, List.reverse_append, if_neg (by omega)]
  rfl
theorem prV_pos {u : List Int} (h : 0 < u.length) : 0 < (prV u).length := by
  have := prV_first h
  exact (List.getElem?_eq_some_iff.1 this).1
theorem lpV_range {u : List Int} (h : 0 < u.length) : 0 < lpV u ∧ lpV u ≤ u.length := by
  have h1 := bd_ge u u.length
  have h2 := bd_pos u h
  unfold lpV
  rw [if_neg (by omega)]
  omega
theorem lpN_eq {u : List Int} (h : 0 < u.length) : (lpN u : Int) = lpV u := by
  have h1 := bd_ge u u.length
  unfold lpN lpV
  rw [if_neg (by omega)]
  omega
/-- p is a period: letters at that distance are equal. -/
def Per (u : List Int) (p : Nat) : Prop := ∀ j, j + p < u.length → u[j + p]? = u[j]?
theorem per_iff {u : List Int} {j : Nat} (hj : j ≤ u.length) : sfx u u.length j = true ↔ Per u (u.length - j) := by
  unfold sfx Per
  rw [decide_eq_true_eq, List.take_length]
  constructor
  · rintro ⟨s, hs⟩ i hi
    have hl := congrArg List.length hs
    rw [List.length_append, List.length_take] at hl
    have e : u[i + (u.length - j)]? = (s ++ u.take j)[i + (u.length - j)]? := by rw [hs]
    rw [e, List.getElem?_append_right (by omega), List.getElem?_take]
    rw [show i + (u.length - j) - s.length = i from by omega]
    rw [if_pos (by omega)]
  · intro h
    refine ⟨u.take (u.length - j), ?_⟩
    refine List.ext_getElem? fun i => ?_
    rcases Nat.lt_or_ge i (u.length - j) with h1 | h1
    · rw [List.getElem?_append_left (by rw [List.length_take]; omega), List.getElem?_take, if_pos h1]
    · rw [List.getElem?_append_right (by rw [List.length_take]; omega), List.getElem?_take, List.length_take, show i - min (u.length - j) u.length = i - (u.length - j) from by omega]
      rcases Nat.lt_or_ge i u.length with h2 | h2
      · rw [if_pos (by omega)]
        have := h (i - (u.length - j)) (by omega)
        rw [show i - (u.length - j) + (u.length - j) = i from by omega] at this
        exact this.symm
      · rw [List.getElem?_eq_none h2]
        split
        · omega
        · rfl
theorem lpN_per {u : List Int} (h : 0 < u.length) : 0 < lpN u ∧ lpN u ≤ u.length ∧ Per u (lpN u) ∧ ∀ q, 0 < q → q ≤ u.length → Per u q → lpN u ≤ q := by
  have h1 := bd_ge u u.length
  have h2 := bd_pos u h
  obtain ⟨b, hb⟩ : ∃ b : Nat, bd u u.length = b := ⟨(bd u u.length).toNat, by omega⟩
  have e : lpN u = u.length - b := by unfold lpN; omega
  have hg := gr_is (p := sfx u u.length) hb
  refine ⟨by omega, by omega, ?_, fun q hq hqn hp => ?_⟩
  · rw [e]; exact (per_iff (by omega)).1 hg.1
  · rcases Nat.lt_or_ge q (lpN u) with h3 | h3
    · have hf := gr_above (p := sfx u u.length) (n := u.length) (j := u.length - q) (by omega) (by unfold bd at hb; omega)
      have := (per_iff (u := u) (j := u.length - q) (by omega)).2 (by rw [show u.length - (u.length - q) = q from by omega]; exact hp)
      rw [this] at hf
      cases hf
    · exact h3
theorem per_mod {u : List Int} {p : Nat} (hp : 0 < p) (h : Per u p) : ∀ j, j < u.length → u[j]? = u[j % p]? := fun j => by
  induction j using Nat.strongRecOn with
  | ind j ih =>
    intro hj
    rcases Nat.lt_or_ge j p with h1 | h1
    · rw [Nat.mod_eq_of_lt h1]
    · have h2 := ih (j - p) (by omega) (by omega)
      have h3 := h (j - p) (by omega)
      rw [show j - p + p = j from by omega] at h3
      rw [h3, h2, ← Nat.mod_eq_sub_mod h1]
/-- Periods that are short enough: what is left of one by the other is one, too. -/
theorem per_sub {u : List Int} {p q : Nat} (hp : Per u p) (hq : Per u q) (hpq : p ≤ q) (hs : p + q ≤ u.length) : Per u (q - p) := by
  intro j hj
  rcases Nat.lt_or_ge j p with h | h
  · have h1 := hq j (by omega)
    have h2 := hp (j + (q - p)) (by omega)
    rw [show j + (q - p) + p = j + q from by omega] at h2
    rw [← h2, h1]
  · have h1 := hp (j - p) (by omega)
    rw [show j - p + p = j from by omega] at h1
    have h2 := hq (j - p) (by omega)
    rw [show j - p + q = j + (q - p) from by omega] at h2
    rw [h2, h1]
theorem per_rem {u : List Int} {p : Nat} (h0 : 0 < p) (hp : Per u p) : ∀ q, Per u q → p + q ≤ u.length → Per u (q % p) := fun q => by
  induction q using Nat.strongRecOn with
  | ind q ih =>
    intro hq hs
    rcases Nat.lt_or_ge q p with h1 | h1
    · rw [Nat.mod_eq_of_lt h1]; exact hq
    · rw [Nat.mod_eq_sub_mod h1]
      exact ih (q - p) (by omega) (per_sub hp hq h1 hs) (by omega)
/-- Turning the word by i places leaves it as it is. -/
def Rot (u : List Int) (i : Nat) : Prop := ∀ j, j < u.length → u[(j + i) % u.length]? = u[j]?
theorem rot_sub {u : List Int} {a b : Nat} (ha : Rot u a) (hb : Rot u b) (h : a ≤ b) : Rot u (b - a) := by
  intro j hj
  have h1 := ha ((j + (b - a)) % u.length) (Nat.mod_lt _ (by omega))
  rw [← h1, Nat.mod_add_mod, show j + (b - a) + a = j + b from by omega]
  exact hb j hj
theorem rot_rem {u : List Int} {a : Nat} (h0 : 0 < a) (ha : Rot u a) : ∀ b, Rot u b → Rot u (b % a) := fun b => by
  induction b using Nat.strongRecOn with
  | ind b ih =>
    intro hb
    rcases Nat.lt_or_ge b a with h1 | h1
    · rw [Nat.mod_eq_of_lt h1]; exact hb
    · rw [Nat.mod_eq_sub_mod h1]
      exact ih (b - a) (by omega) (rot_sub ha hb h1)
theorem rot_per {u : List Int} {i : Nat} (h : Rot u i) : Per u i := by
  intro j hj
  have := h j (by omega)
  rw [Nat.mod_eq_of_lt hj] at this
  exact this
theorem per_rot {u : List Int} {p : Nat} (hp : 0 < p) (h : Per u p) (hd : u.length % p = 0) : Rot u p := by
  intro j hj
  have h1 := per_mod hp h _ (Nat.mod_lt (j + p) (show 0 < u.length by omega))
  rw [h1, per_mod hp h j hj, Nat.mod_mod_of_dvd _ (Nat.dvd_of_mod_eq_zero hd), Nat.add_mod_right]
/-- The length of the root. -/
def rlN (u : List Int) : Nat := if u.length % lpN u = 0 then lpN u else u.length
theorem rlN_range {u : List Int} (h : 0 < u.length) : 0 < rlN u ∧ rlN u ≤ u.length := by
  have := lpN_per h
  unfold rlN
  split <;> omega
theorem rlN_rot {u : List Int} (h : 0 < u.length) : Rot u (rlN u) ∧ ∀ d, 0 < d → d < rlN u → ¬ Rot u d := by
  obtain ⟨l1, l2, l3, l4⟩ := lpN_per h
  have hn : Rot u u.length := fun j hj => by rw [Nat.add_mod_right, Nat.mod_eq_of_lt hj]
  by_cases hd : u.length % lpN u = 0
  · have e : rlN u = lpN u := by unfold rlN; rw [if_pos hd]
    rw [e]
    exact ⟨per_rot l1 l3 hd, fun d h1 h2 hr => by
      have := l4 d h1 (by omega) (rot_per hr)
      omega⟩
  · have e : rlN u = u.length := by unfold rlN; rw [if_neg hd]
    rw [e]
    refine ⟨hn, fun d h1 h2 hr => hd ?_⟩
    -- the least turn divides the length, and the least period divides it
    obtain ⟨m, hm⟩ : ∃ m, (0 < m ∧ Rot u m) ∧ ∀ k, k < m → ¬ (0 < k ∧ Rot u k) := by
      have : ∀ n, (0 < n ∧ Rot u n) → ∃ m, (0 < m ∧ Rot u m) ∧ ∀ k, k < m → ¬ (0 < k ∧ Rot u k) := fun n => by
        induction n using Nat.strongRecOn with
        | ind n ih =>
          intro hn
          by_cases hk : ∃ k, k < n ∧ (0 < k ∧ Rot u k)
          · obtain ⟨k, hk1, hk2⟩ := hk
            exact ih k hk1 hk2
          · exact ⟨n, hn, fun k hk1 hk2 => hk ⟨k, hk1, hk2⟩⟩
      exact this d ⟨h1, hr⟩
    have hmd : m ≤ d := Nat.le_of_not_lt fun hlt => hm.2 d hlt ⟨h1, hr⟩
    have hr2 := rot_rem hm.1.1 hm.1.2 _ hn
    have hz : u.length % m = 0 := by
      rcases Nat.eq_zero_or_pos (u.length % m) with h3 | h3
      · exact h3
      · exact absurd ⟨h3, hr2⟩ (hm.2 _ (Nat.mod_lt _ hm.1.1))
    have hpm := rot_per hm.1.2
    have hlm := l4 m hm.1.1 (by omega) hpm
    have hmn : m < u.length := by
      rcases Nat.lt_or_ge m u.length with h3 | h3
      · exact h3
      · omega
    have h2m : m + m ≤ u.length := by
      have h3 := Nat.div_add_mod u.length m
      rw [hz, Nat.add_zero] at h3
      obtain ⟨c, hc⟩ : ∃ c, c = u.length / m := ⟨_, rfl⟩
      rw [← hc] at h3
      clear hc
      rcases Nat.lt_or_ge c 2 with h4 | h4
      · have h5 : c = 0 ∨ c = 1 := by omega
        rcases h5 with h5 | h5 <;> rw [h5] at h3 <;> omega
      · have h6 := Nat.mul_le_mul_left m h4
        omega
    have hrem := per_rem l1 l3 m hpm (by omega)
    have hz2 : m % lpN u = 0 := by
      rcases Nat.eq_zero_or_pos (m % lpN u) with h3 | h3
      · exact h3
      · have h4 := l4 _ h3 (by have := Nat.mod_lt m l1; omega) hrem
        have := Nat.mod_lt m l1
        omega
    exact Nat.mod_eq_zero_of_dvd (Nat.dvd_trans (Nat.dvd_of_mod_eq_zero hz2) (Nat.dvd_of_mod_eq_zero hz))
theorem rot_iff {u : List Int} {i : Nat} (hi : i ≤ u.length) : ((u ++ u).drop i).take u.length = u ↔ Rot u i := by
  have e : ∀ j, j < u.length → (((u ++ u).drop i).take u.length)[j]? = u[(j + i) % u.length]? := fun j hj => by
    rw [List.getElem?_take, if_pos hj, List.getElem?_drop]
    rcases Nat.lt_or_ge (i + j) u.length with h1 | h1
    · rw [List.getElem?_append_left h1, Nat.add_comm j i, Nat.mod_eq_of_lt h1]
    · rw [List.getElem?_append_right h1, Nat.add_comm j i, Nat.mod_eq_sub_mod h1, Nat.mod_eq_of_lt (by omega)]
  constructor
  · intro h j hj
    rw [← e j hj, h]
  · intro h
    refine List.ext_getElem? fun j => ?_
    rcases Nat.lt_or_ge j u.length with h1 | h1
    · rw [e j h1, h j h1]
    · rw [List.getElem?_eq_none h1, List.getElem?_eq_none (by rw [List.length_take]; omega)]
/-- A list of places from 0 on, of which the first two are known. -/
theorem filter_two {p : Nat → Bool} {n d : Nat} (h0 : p 0 = true) (hd : p d = true) (hd0 : 0 < d) (hn : d < n) (hno : ∀ k, 0 < k → k < d → p k = false) : (((List.range n).filter p).map fun i : Nat => (i : Int))[1]? = some (d : Int) := by
  have e : List.range n = [0] ++ ((List.range (d - 1)).map (fun k => k + 1) ++ ([d] ++ (List.range (n - d - 1)).map fun k => k + d + 1)) := by
    refine List.ext_getElem (by simp; omega) fun i h1 h2 => ?_
    rw [List.getElem_range]
    rw [List.length_range] at h1
    rcases Nat.eq_zero_or_pos i with h | h
    · subst h; rfl
    · rw [List.getElem_append_right (show [0].length ≤ i from h)]
      rcases Nat.lt_or_ge i d with h3 | h3
      · rw [List.getElem_append_left (by simp; omega)]
        simp
        omega
      · rw [List.getElem_append_right (by simp <;> omega)]
        rcases Nat.eq_or_lt_of_le h3 with h4 | h4
        · subst h4
          rw [List.getElem_append_left (by simp <;> omega)]
          simp
        · rw [List.getElem_append_right (by simp <;> omega)]
          simp <;> omega
  rw [e, List.filter_append, List.filter_append, List.filter_append]
  have h1 : List.filter p ((List.range (d - 1)).map fun k => k + 1) = [] := by
    rw [List.filter_eq_nil_iff]
    intro a ha
    obtain ⟨k, hk, rfl⟩ := List.mem_map.1 ha
    rw [List.mem_range] at hk
    simp [hno (k + 1) (by omega) (by omega)]
  rw [h1]
  simp [h0, hd]
theorem occ_double {u : List Int} (h : 0 < u.length) : (occ (u ++ u) u)[1]? = some (rlN u : Int) := by
  have hr := rlN_rot h
  have hl := rlN_range h
  unfold occ
  have e : (u ++ u).length + 1 - u.length = u.length + 1 := by rw [List.length_append]; omega
  rw [e]
  refine filter_two ?_ ?_ hl.1 (by omega) fun k hk hk' => ?_
  · exact decide_eq_true ((rot_iff (Nat.zero_le _)).2 fun j hj => by rw [Nat.add_zero, Nat.mod_eq_of_lt hj])
  · exact decide_eq_true ((rot_iff hl.2).2 hr.1)
  · exact decide_eq_false fun hc => hr.2 k hk hk' ((rot_iff (by omega)).1 hc)
def rlV (u : List Int) : Nat := if u.length = 0 then 0 else rlN u
def pmB (u : List Int) : Bool := decide (0 < u.length) && decide (rlV u = u.length)
def rtV (u : List Int) : List Int := u.take (rlV u)
theorem rlV_le (u : List Int) : rlV u ≤ u.length := by
  unfold rlV
  split
  · omega
  · exact (rlN_range (by omega)).2
theorem rtV_len (u : List Int) : (rtV u).length ≤ u.length := by simp [rtV]; omega
theorem rlV_nil {u : List Int} (h : u.length = 0) : rlV u = 0 := by simp [rlV, h]
theorem rlV_yes {u : List Int} (h : 0 < u.length) (hd : (u.length : Int).tmod (lpV u) = 0) : (rlV u : Int) = lpV u := by
  have h1 := lpN_eq h
  have h2 : (u.length : Int).tmod (lpV u) = ((u.length % lpN u : Nat) : Int) := by rw [← h1]; rfl
  unfold rlV rlN
  rw [if_neg (by omega), if_pos (by omega)]
  exact h1
theorem rlV_no {u : List Int} (h : 0 < u.length) (hd : (u.length : Int).tmod (lpV u) ≠ 0) : rlV u = u.length := by
  have h1 := lpN_eq h
  have h2 : (u.length : Int).tmod (lpV u) = ((u.length % lpN u : Nat) : Int) := by rw [← h1]; rfl
  unfold rlV rlN
  rw [if_neg (by omega), if_neg (by omega)]
theorem rlV_occ {u : List Int} (h : 0 < u.length) : (occ (u ++ u) u)[1]? = some (rlV u : Int) := by
  rw [occ_double h]
  unfold rlV
  rw [if_neg (by omega)]
theorem pmB_nil {u : List Int} (h : u.length = 0) : pmB u = false := by simp [pmB, h]
theorem pmB_pos {u : List Int} (h : 0 < u.length) : pmB u = decide ((rlV u : Int) = (u.length : Int)) := by
  unfold pmB
  rw [decide_eq_true h, Bool.true_and]
  exact decide_eq_decide.2 ⟨fun e => by rw [e], fun e => by omega⟩
theorem rtV_yes {u : List Int} {p : Nat} (h : 0 < u.length) (hd : (u.length : Int).tmod (lpV u) = 0) (hp : lpV u = p) : rtV u = u.take p := by
  have := rlV_yes h hd
  unfold rtV
  rw [show rlV u = p from by omega]
theorem rtV_no {u : List Int} (h : 0 < u.length) (hd : (u.length : Int).tmod (lpV u) ≠ 0) : rtV u = u := by
  unfold rtV
  rw [rlV_no h hd, List.take_length]
theorem rtV_nil {u : List Int} (h : u.length = 0) : rtV u = [] := by unfold rtV; rw [List.eq_nil_of_length_eq_zero h]; simp
end Go.Proofs.Ytcnejfihpaicdaa.Plain
