/- Plain facts on parts with a period, on squares and exponents of a word. No conditions beyond those that each fact states. -/
import Derived.Test.YtcnejfihpaicdaaBorVal
namespace Go.Proofs.Ytcnejfihpaicdaa.Plain
set_option linter.unusedSimpArgs false
/-- The part of n letters from place a on has the period p. -/
def PerA (u : List Int) (a p n : Nat) : Prop := a + n ≤ u.length ∧ ∀ j, p ≤ j → j < n → u[a + j]? = u[a + j - p]?
theorem PerA.less {u : List Int} {a p n m : Nat} (h : PerA u a p n) (hm : m ≤ n) : PerA u a p m := ⟨by have := h.1; omega, fun j h1 h2 => h.2 j h1 (by omega)⟩
theorem PerA.short {u : List Int} {a p n : Nat} (h : a + n ≤ u.length) (hn : n ≤ p) : PerA u a p n := ⟨h, fun j h1 h2 => by omega⟩
theorem PerA.more {u : List Int} {a p n : Nat} {x y : Int} (h : PerA u a p n) (h1 : u[a + n]? = some x) (h2 : u[a + n - p]? = some y) (hxy : x = y) : PerA u a p (n + 1) := by
  have hl := (List.getElem?_eq_some_iff.1 h1).1
  refine ⟨by omega, fun j hj hjn => ?_⟩
  by_cases e : j = n
  · subst e
    rw [h1, h2, hxy]
  · exact h.2 j hj (by omega)
theorem PerA.stop {u : List Int} {a p n m : Nat} {x y : Int} (h : PerA u a p m) (hp : p ≤ n) (h1 : u[a + n]? = some x) (h2 : u[a + n - p]? = some y) (hxy : x ≠ y) : m ≤ n := by
  refine Nat.le_of_not_lt fun hlt => ?_
  have := h.2 n hp hlt
  rw [h1, h2] at this
  exact hxy (Option.some.inj this)
/-- How long the word goes on with the period p from the place a. -/
def ml (u : List Int) (a p : Nat) : Nat → Nat
  | 0 => p
  | k + 1 => if PerA' u a p (p + k + 1) then p + k + 1 else ml u a p k
where PerA' (u : List Int) (a p n : Nat) : Bool := decide (a + n ≤ u.length) && (List.range n).all fun j => decide (p ≤ j → u[a + j]? = u[a + j - p]?)
theorem perA'_iff {u : List Int} {a p n : Nat} : ml.PerA' u a p n = true ↔ PerA u a p n := by
  simp only [ml.PerA', Bool.and_eq_true, decide_eq_true_eq, List.all_eq_true, List.mem_range, PerA]
  exact and_congr_right fun _ => ⟨fun h j h1 h2 => h j h2 h1, fun h j h1 h2 => h j h2 h1⟩
theorem ml_prop (u : List Int) (a p : Nat) (h : a + p ≤ u.length) : ∀ k, p ≤ ml u a p k ∧ PerA u a p (ml u a p k) ∧ ∀ n, PerA u a p n → n ≤ p + k → n ≤ ml u a p k := fun k => by
  induction k with
  | zero => exact ⟨Nat.le_refl _, PerA.short h (Nat.le_refl _), fun n _ hn => hn⟩
  | succ k ih =>
    unfold ml
    by_cases hc : ml.PerA' u a p (p + k + 1) = true
    · rw [if_pos hc]
      exact ⟨by omega, perA'_iff.1 hc, fun n _ hn => by omega⟩
    · rw [if_neg hc]
      refine ⟨ih.1, ih.2.1, fun n hn hk => ?_⟩
      by_cases e : n = p + k + 1
      · subst e
        exact absurd (perA'_iff.2 hn) hc
      · exact ih.2.2 n hn (by omega)
/-- The length of the longest part with the period p from the place a on. -/
def mlen (u : List Int) (a p : Nat) : Nat := ml u a p u.length
theorem mlen_ge {u : List Int} {a p : Nat} (h : a + p ≤ u.length) : p ≤ mlen u a p := (ml_prop u a p h _).1
theorem mlen_per {u : List Int} {a p : Nat} (h : a + p ≤ u.length) : PerA u a p (mlen u a p) := (ml_prop u a p h _).2.1
theorem mlen_le {u : List Int} {a p : Nat} (h : a + p ≤ u.length) : a + mlen u a p ≤ u.length := (mlen_per h).1
theorem mlen_max {u : List Int} {a p n : Nat} (h : a + p ≤ u.length) (hn : PerA u a p n) : n ≤ mlen u a p := (ml_prop u a p h _).2.2 n hn (by have := hn.1; omega)
theorem mlen_iff {u : List Int} {a p n : Nat} (h : a + p ≤ u.length) : n ≤ mlen u a p ↔ PerA u a p n := ⟨fun hn => (mlen_per h).less hn, mlen_max h⟩
/-- It ends where the letters differ or the word ends. -/
theorem mlen_stop {u : List Int} {a p n : Nat} {x y : Int} (h : PerA u a p n) (hp : p ≤ n) (h1 : u[a + n]? = some x) (h2 : u[a + n - p]? = some y) (hxy : x ≠ y) : mlen u a p = n := by
  have hl := h.1
  have := mlen_max (by omega) h
  have := (mlen_per (u := u) (a := a) (p := p) (by omega)).stop hp h1 h2 hxy
  omega
theorem mlen_end {u : List Int} {a p n : Nat} (h : PerA u a p n) (hp : p ≤ n) (he : u.length ≤ a + n) : mlen u a p = n := by
  have hl := h.1
  have := mlen_max (by omega) h
  have := mlen_le (u := u) (a := a) (p := p) (by omega)
  omega
/-- The length of the longest part with the period p that ends before place p + k, and of the longest of all till there. -/
def lgT (u : List Int) (p : Nat) : Nat → Nat × Nat
  | 0 => (p, p)
  | k + 1 => let l := if u[p + k]? = u[k]? then (lgT u p k).1 + 1 else p; (l, max (lgT u p k).2 l)
theorem lgT_yes {u : List Int} {p k : Nat} {x y : Int} (h1 : u[p + k]? = some x) (h2 : u[k]? = some y) (h : x = y) : lgT u p (k + 1) = ((lgT u p k).1 + 1, max (lgT u p k).2 ((lgT u p k).1 + 1)) := by simp [lgT, h1, h2, h]
theorem lgT_no {u : List Int} {p k : Nat} {x y : Int} (h1 : u[p + k]? = some x) (h2 : u[k]? = some y) (h : x ≠ y) : lgT u p (k + 1) = (p, max (lgT u p k).2 p) := by simp [lgT, h1, h2, h]
theorem lgT_prop {u : List Int} {p : Nat} (hp : p ≤ u.length) : ∀ k, p + k ≤ u.length → (p ≤ (lgT u p k).1 ∧ (lgT u p k).1 ≤ p + k ∧ PerA u (p + k - (lgT u p k).1) p (lgT u p k).1 ∧ ∀ a n, a + n = p + k → PerA u a p n → n ≤ (lgT u p k).1) ∧
    (p ≤ (lgT u p k).2 ∧ (∃ a, a + (lgT u p k).2 ≤ p + k ∧ PerA u a p (lgT u p k).2) ∧ ∀ a n, a + n ≤ p + k → PerA u a p n → n ≤ (lgT u p k).2) := fun k => by
  induction k with
  | zero =>
    intro h
    refine ⟨⟨Nat.le_refl _, Nat.le_refl _, PerA.short (by show p + 0 - p + p ≤ _; omega) (Nat.le_refl _), fun a n h1 _ => by show n ≤ p; omega⟩, Nat.le_refl _, ⟨0, by show 0 + p ≤ _; omega, PerA.short (by show 0 + p ≤ _; omega) (Nat.le_refl _)⟩, fun a n h1 _ => by show n ≤ p; omega⟩
  | succ k ih =>
    intro h
    obtain ⟨⟨h1, h2, h3, h4⟩, h5, ⟨a5, h6, h7⟩, h8⟩ := ih (by omega)
    obtain ⟨x, hx⟩ : ∃ x, u[p + k]? = some x := ⟨_, List.getElem?_eq_getElem (by omega)⟩
    obtain ⟨y, hy⟩ : ∃ y, u[k]? = some y := ⟨_, List.getElem?_eq_getElem (by omega)⟩
    have key : ∀ l, l = (if x = y then (lgT u p k).1 + 1 else p) → (p ≤ l ∧ l ≤ p + (k + 1) ∧ PerA u (p + (k + 1) - l) p l ∧ ∀ a n, a + n = p + (k + 1) → PerA u a p n → n ≤ l) := fun l hl => by
      by_cases e : x = y
      · rw [if_pos e] at hl
        subst hl
        refine ⟨by omega, by omega, ?_, fun a n hn hper => ?_⟩
        · rw [show p + (k + 1) - ((lgT u p k).1 + 1) = p + k - (lgT u p k).1 from by omega]
          exact h3.more (x := x) (y := y) (by rw [show p + k - (lgT u p k).1 + (lgT u p k).1 = p + k from by omega]; exact hx) (by rw [show p + k - (lgT u p k).1 + (lgT u p k).1 - p = k from by omega]; exact hy) e
        · cases n with
          | zero => omega
          | succ n => have := h4 a n (by omega) (hper.less (by omega)); omega
      · rw [if_neg e] at hl
        rw [hl]
        refine ⟨Nat.le_refl _, by omega, PerA.short (by omega) (Nat.le_refl _), fun a n hn hper => ?_⟩
        refine Nat.le_of_not_lt fun hlt => ?_
        have := hper.stop (n := n - 1) (x := x) (y := y) (by omega) (by rw [show a + (n - 1) = p + k from by omega]; exact hx) (by rw [show a + (n - 1) - p = k from by omega]; exact hy) e
        omega
    have hT : lgT u p (k + 1) = ((if x = y then (lgT u p k).1 + 1 else p), max (lgT u p k).2 (if x = y then (lgT u p k).1 + 1 else p)) := by
      by_cases e : x = y
      · rw [lgT_yes hx hy e, if_pos e]
      · rw [lgT_no hx hy e, if_neg e]
    rw [hT]
    have K := key _ rfl
    generalize (if x = y then (lgT u p k).1 + 1 else p) = l at K
    refine ⟨K, ?_, ?_, ?_⟩
    · show p ≤ max _ _; omega
    · show ∃ a, a + max (lgT u p k).2 l ≤ _ ∧ PerA u a p (max (lgT u p k).2 l)
      rcases Nat.le_total (lgT u p k).2 l with hm | hm
      · rw [Nat.max_eq_right hm]
        exact ⟨p + (k + 1) - l, by omega, K.2.2.1⟩
      · rw [Nat.max_eq_left hm]
        exact ⟨a5, by omega, h7⟩
    · intro a n hn hper
      show n ≤ max _ _
      by_cases e : a + n = p + (k + 1)
      · have := K.2.2.2 a n e hper; omega
      · have := h8 a n (by omega) hper; omega
/-- The length of the longest part with the period p. -/
def lg (u : List Int) (p : Nat) : Nat := (lgT u p (u.length - p)).2
theorem lg_ge {u : List Int} {p : Nat} (h : p ≤ u.length) : p ≤ lg u p := (lgT_prop h (u.length - p) (by omega)).2.1
theorem lg_is {u : List Int} {p : Nat} (h : p ≤ u.length) : ∃ a, PerA u a p (lg u p) := by
  obtain ⟨a, _, h2⟩ := (lgT_prop h (u.length - p) (by omega)).2.2.1
  exact ⟨a, h2⟩
theorem lg_max {u : List Int} {a p n : Nat} (h : p ≤ u.length) (hn : PerA u a p n) : n ≤ lg u p := (lgT_prop h (u.length - p) (by omega)).2.2.2 a n (by have := hn.1; omega) hn
theorem lg_le {u : List Int} {p : Nat} (h : p ≤ u.length) : lg u p ≤ u.length := by
  obtain ⟨a, h1⟩ := lg_is h
  have := h1.1
  omega
theorem lgT_le {u : List Int} {p k : Nat} (h : p + k ≤ u.length) : p ≤ (lgT u p k).1 ∧ (lgT u p k).1 ≤ u.length ∧ p ≤ (lgT u p k).2 ∧ (lgT u p k).2 ≤ u.length := by
  have h1 := lgT_prop (u := u) (p := p) (by omega) k h
  obtain ⟨a, h2, h3⟩ := h1.2.2.1
  exact ⟨h1.1.1, by have := h1.1.2.1; omega, h1.2.1, by omega⟩
theorem lg_at {u : List Int} {p : Nat} (h : p ≤ u.length) : ∃ a, a + p ≤ u.length ∧ mlen u a p = lg u p := by
  obtain ⟨a, h1⟩ := lg_is h
  have h2 := h1.1
  have h3 := lg_ge h
  have h4 := mlen_max (by omega) h1
  have h5 := lg_max h (mlen_per (u := u) (a := a) (p := p) (by omega))
  exact ⟨a, by omega, by omega⟩
theorem mlen_lg {u : List Int} {a p : Nat} (h : a + p ≤ u.length) : mlen u a p ≤ lg u p := lg_max (by omega) (mlen_per h)
/-- The exponents of the longest parts, the first k. -/
def exps (u : List Int) (k : Nat) : List (Nat × Nat) := (List.range k).map fun i => (lg u (i + 1), i + 1)
theorem exps_succ (u : List Int) (k : Nat) : exps u (k + 1) = exps u k ++ [(lg u (k + 1), k + 1)] := by simp [exps, List.range_succ]
theorem exps_len (u : List Int) (k : Nat) : (exps u k).length = k := by simp [exps]
theorem exps_mem {u : List Int} {k : Nat} {e : Nat × Nat} (h : e ∈ exps u k) : 0 < e.2 ∧ e.2 ≤ k ∧ e.1 = lg u e.2 := by
  obtain ⟨i, hi, rfl⟩ := List.mem_map.1 h
  have := List.mem_range.1 hi
  exact ⟨by show 0 < i + 1; omega, by show i + 1 ≤ k; omega, rfl⟩
theorem exps_in {u : List Int} {k p : Nat} (h0 : 0 < p) (hp : p ≤ k) : (lg u p, p) ∈ exps u k := List.mem_map.2 ⟨p - 1, List.mem_range.2 (by omega), by rw [show p - 1 + 1 = p from by omega]⟩
/-- Whether a part is longer than twice a period of its. -/
def ovB (u : List Int) : Bool := decide (u.length ≤ 128) && (exps u u.length).any fun e => decide (e.1 > 2 * e.2)
theorem ov_yes {u : List Int} {a p : Nat} (hl : u.length ≤ 128) (h0 : 0 < p) (h : a + p ≤ u.length) (hm : mlen u a p > 2 * p) : ovB u = true := by
  have := mlen_lg h
  simp only [ovB, hl, decide_true, Bool.true_and, List.any_eq_true, decide_eq_true_eq]
  exact ⟨_, exps_in h0 (by omega), by show lg u p > 2 * p; omega⟩
theorem ov_no {u : List Int} (h : ∀ a p, 0 < p → a + 2 * p < u.length → ¬ mlen u a p > 2 * p) : ovB u = false := by
  rw [← Bool.not_eq_true]
  intro hb
  simp only [ovB, Bool.and_eq_true, List.any_eq_true, decide_eq_true_eq] at hb
  obtain ⟨_, e, he, h2⟩ := hb
  obtain ⟨h3, h4, h5⟩ := exps_mem he
  obtain ⟨a, h6, h7⟩ := lg_at h4
  have h8 := mlen_le h6
  exact h a e.2 h3 (by omega) (by omega)
/-- Whether a part is at least num / den times as long as a period of its. -/
def powB (u : List Int) (num den : Int) : Bool := decide (u.length ≤ 128 ∧ 2 ≤ num ∧ num ≤ 20 ∧ 1 ≤ den ∧ den < num) && (exps u u.length).any fun e => decide ((e.1 : Int) * den ≥ num * (e.2 : Int))
theorem pow_yes {u : List Int} {num den : Int} {a p : Nat} (hl : u.length ≤ 128 ∧ 2 ≤ num ∧ num ≤ 20 ∧ 1 ≤ den ∧ den < num) (h0 : 0 < p) (h : a + p ≤ u.length) (hm : (mlen u a p : Int) * den ≥ (p : Int) * num) : powB u num den = true := by
  have h1 := mlen_lg h
  have h2 : (mlen u a p : Int) * den ≤ (lg u p : Int) * den := Int.mul_le_mul_of_nonneg_right (by omega) (by omega)
  have h3 : (p : Int) * num = num * (p : Int) := Int.mul_comm _ _
  simp only [powB, hl, and_self, decide_true, Bool.true_and, List.any_eq_true, decide_eq_true_eq]
  exact ⟨_, exps_in h0 (by omega), by show (lg u p : Int) * den ≥ num * (p : Int); omega⟩
theorem pow_no {u : List Int} {num den : Int} (h : ∀ a p, 0 < p → a + p < u.length → ¬ (mlen u a p : Int) * den ≥ (p : Int) * num) : powB u num den = false := by
  rw [← Bool.not_eq_true]
  intro hb
  simp only [powB, Bool.and_eq_true, List.any_eq_true, decide_eq_true_eq] at hb
  obtain ⟨h1, e, he, h2⟩ := hb
  obtain ⟨h3, h4, h5⟩ := exps_mem he
  obtain ⟨a, h6, h7⟩ := lg_at h4
  have h9 : (e.2 : Int) * num = num * (e.2 : Int) := Int.mul_comm _ _
  by_cases e1 : a + e.2 < u.length
  · exact h a e.2 h3 e1 (by rw [h7, ← h5]; omega)
  · have h8 := mlen_le h6
    have h10 : e.1 ≤ e.2 := by omega
    have h11 : (e.1 : Int) * den ≤ (e.2 : Int) * den := Int.mul_le_mul_of_nonneg_right (by omega) (by omega)
    have h12 : (e.2 : Int) * den < (e.2 : Int) * num := Int.mul_lt_mul_of_pos_left (by omega) (by omega)
    omega
theorem pow_out {u : List Int} {num den : Int} (h : ¬ (u.length ≤ 128 ∧ 2 ≤ num ∧ num ≤ 20 ∧ 1 ≤ den ∧ den < num)) : powB u num den = false := by simp [powB, h]
theorem pow_in {u : List Int} {num den : Int} (h : u.length ≤ 128 ∧ 2 ≤ num ∧ num ≤ 20 ∧ 1 ≤ den ∧ den < num) : powB u num den = (exps u u.length).any fun e => decide ((e.1 : Int) * den ≥ num * (e.2 : Int)) := by simp [powB, h]
theorem ov_in {u : List Int} (h : u.length ≤ 128) : ovB u = (exps u u.length).any fun e => decide (e.1 > 2 * e.2) := by simp [ovB, h]
theorem ov_out {u : List Int} (h : ¬ u.length ≤ 128) : ovB u = false := by simp [ovB, h]
/-- n letters with the period p are the greatest exponent. -/
def Great (u : List Int) (n p : Nat) : Prop := 0 < p ∧ (∃ a, a + p ≤ u.length ∧ n = mlen u a p) ∧ ∀ a q, 0 < q → a + q ≤ u.length → mlen u a q * p ≤ n * q
theorem great_cross {u : List Int} {n p m q : Nat} (h : Great u n p) (k : Great u m q) : n * q = m * p := by
  obtain ⟨h1, ⟨a, h2, h3⟩, h4⟩ := h
  obtain ⟨k1, ⟨b, k2, k3⟩, k4⟩ := k
  have := h4 b q k1 k2
  have := k4 a p h1 h2
  rw [← k3] at *
  rw [← h3] at *
  omega
theorem low_dvd {n p m q : Nat} (hp : 0 < p) (h : n * q = m * p) : p / Nat.gcd n p ∣ q / Nat.gcd m q ∧ True := by
  refine ⟨?_, trivial⟩
  have hg : 0 < Nat.gcd n p := Nat.gcd_pos_of_pos_right _ hp
  have hc : Nat.Coprime (p / Nat.gcd n p) (n / Nat.gcd n p) := (Nat.coprime_div_gcd_div_gcd hg).symm
  refine hc.dvd_of_dvd_mul_left ?_
  by_cases hq : q = 0
  · subst hq; simp
  · have hg2 : 0 < Nat.gcd m q := Nat.gcd_pos_of_pos_right _ (by omega)
    refine ⟨m / Nat.gcd m q, ?_⟩
    have e1 := Nat.div_mul_cancel (Nat.gcd_dvd_left n p)
    have e2 := Nat.div_mul_cancel (Nat.gcd_dvd_right n p)
    have e3 := Nat.div_mul_cancel (Nat.gcd_dvd_left m q)
    have e4 := Nat.div_mul_cancel (Nat.gcd_dvd_right m q)
    generalize hA : n / Nat.gcd n p = A at *
    generalize hB : p / Nat.gcd n p = B at *
    generalize hC : m / Nat.gcd m q = C at *
    generalize hD : q / Nat.gcd m q = D at *
    generalize Nat.gcd n p = g at *
    generalize Nat.gcd m q = k at *
    rw [← e1, ← e2, ← e3, ← e4] at h
    have h2 : (g * k) * (A * D) = (g * k) * (B * C) := by
      rw [show (g * k) * (A * D) = A * g * (D * k) from by simp [Nat.mul_comm, Nat.mul_left_comm, Nat.mul_assoc], h]
      simp [Nat.mul_comm, Nat.mul_left_comm, Nat.mul_assoc]
    exact Nat.eq_of_mul_eq_mul_left (Nat.mul_pos hg hg2) h2
theorem low_eq {n p m q : Nat} (hp : 0 < p) (hq : 0 < q) (h : n * q = m * p) : n / Nat.gcd n p = m / Nat.gcd m q ∧ p / Nat.gcd n p = q / Nat.gcd m q := by
  have hB : p / Nat.gcd n p = q / Nat.gcd m q := Nat.dvd_antisymm (low_dvd hp h).1 (low_dvd hq h.symm).1
  refine ⟨?_, hB⟩
  have hg : 0 < Nat.gcd n p := Nat.gcd_pos_of_pos_right _ hp
  have hg2 : 0 < Nat.gcd m q := Nat.gcd_pos_of_pos_right _ hq
  have e1 := Nat.div_mul_cancel (Nat.gcd_dvd_left n p)
  have e2 := Nat.div_mul_cancel (Nat.gcd_dvd_right n p)
  have e3 := Nat.div_mul_cancel (Nat.gcd_dvd_left m q)
  have e4 := Nat.div_mul_cancel (Nat.gcd_dvd_right m q)
  have hpos : 0 < p / Nat.gcd n p := Nat.pos_of_ne_zero fun e => by rw [e] at e2; omega
  generalize n / Nat.gcd n p = A at *
  generalize p / Nat.gcd n p = B at *
  generalize m / Nat.gcd m q = C at *
  generalize q / Nat.gcd m q = D at *
  generalize Nat.gcd n p = g at *
  generalize Nat.gcd m q = k at *
  subst hB
  rw [← e1, ← e2, ← e3, ← e4] at h
  have h2 : (g * k * B) * A = (g * k * B) * C := by
    rw [show (g * k * B) * A = A * g * (B * k) from by simp [Nat.mul_comm, Nat.mul_left_comm, Nat.mul_assoc], h]
    simp [Nat.mul_comm, Nat.mul_left_comm, Nat.mul_assoc]
  exact Nat.eq_of_mul_eq_mul_left (Nat.mul_pos (Nat.mul_pos hg hg2) hpos) h2
/-- The first of the greatest exponents of a list, none less than the one at hand. -/
def mxF (e : Nat × Nat) : List (Nat × Nat) → Nat × Nat
  | [] => e
  | f :: l => mxF (if f.1 * e.2 > e.1 * f.2 then f else e) l
def mxE : List (Nat × Nat) → Nat × Nat
  | [] => (0, 0)
  | e :: l => mxF e l
theorem mxF_prop : ∀ (l : List (Nat × Nat)) (e : Nat × Nat), 0 < e.2 → (∀ f ∈ l, 0 < f.2) → (mxF e l = e ∨ mxF e l ∈ l) ∧ e.1 * (mxF e l).2 ≤ (mxF e l).1 * e.2 ∧ ∀ f ∈ l, f.1 * (mxF e l).2 ≤ (mxF e l).1 * f.2
  | [], e, _, _ => ⟨.inl rfl, Nat.le_refl _, fun f hf => by cases hf⟩
  | f :: l, e, he, hl => by
    have hf : 0 < f.2 := hl f (by simp)
    have ih := mxF_prop l (if f.1 * e.2 > e.1 * f.2 then f else e) (by split <;> assumption) fun x hx => hl x (by simp [hx])
    have hm : mxF e (f :: l) = mxF (if f.1 * e.2 > e.1 * f.2 then f else e) l := rfl
    rw [hm]
    generalize hM : mxF (if f.1 * e.2 > e.1 * f.2 then f else e) l = M at ih
    have cr : ∀ {a b c : Nat × Nat}, 0 < b.2 → a.1 * b.2 ≤ b.1 * a.2 → b.1 * c.2 ≤ c.1 * b.2 → a.1 * c.2 ≤ c.1 * a.2 := fun {a b c} hb h1 h2 => by
      refine Nat.le_of_mul_le_mul_right (c := b.2) ?_ hb
      calc a.1 * c.2 * b.2 = (a.1 * b.2) * c.2 := by simp [Nat.mul_comm, Nat.mul_left_comm, Nat.mul_assoc]
        _ ≤ (b.1 * a.2) * c.2 := Nat.mul_le_mul_right _ h1
        _ = (b.1 * c.2) * a.2 := by simp [Nat.mul_comm, Nat.mul_left_comm, Nat.mul_assoc]
        _ ≤ (c.1 * b.2) * a.2 := Nat.mul_le_mul_right _ h2
        _ = c.1 * a.2 * b.2 := by simp [Nat.mul_comm, Nat.mul_left_comm, Nat.mul_assoc]
    by_cases hc : f.1 * e.2 > e.1 * f.2
    · rw [if_pos hc] at ih
      refine ⟨.inr ?_, cr hf (Nat.le_of_lt hc) ih.2.1, fun x hx => ?_⟩
      · rcases ih.1 with h | h
        · rw [h]; simp
        · simp [h]
      · rcases List.mem_cons.1 hx with rfl | hx
        · exact ih.2.1
        · exact ih.2.2 x hx
    · rw [if_neg hc] at ih
      refine ⟨ih.1.imp id fun h => by simp [h], ih.2.1, fun x hx => ?_⟩
      rcases List.mem_cons.1 hx with rfl | hx
      · exact cr he (by omega) ih.2.1
      · exact ih.2.2 x hx
theorem mxF_snoc : ∀ (l : List (Nat × Nat)) (e f : Nat × Nat), mxF e (l ++ [f]) = if f.1 * (mxF e l).2 > (mxF e l).1 * f.2 then f else mxF e l
  | [], e, f => rfl
  | g :: l, e, f => by
    show mxF _ (l ++ [f]) = _
    rw [mxF_snoc l]
    rfl
theorem mxE_one (e : Nat × Nat) : mxE [e] = e := rfl
theorem mxE_snoc {l : List (Nat × Nat)} {f : Nat × Nat} (h : l ≠ []) : mxE (l ++ [f]) = if f.1 * (mxE l).2 > (mxE l).1 * f.2 then f else mxE l := by
  cases l with
  | nil => exact absurd rfl h
  | cons e l => exact mxF_snoc l e f
theorem mxE_great {u : List Int} (h : 0 < u.length) : Great u (mxE (exps u u.length)).1 (mxE (exps u u.length)).2 := by
  have hne : ∃ e l, exps u u.length = e :: l := by
    cases hx : exps u u.length with
    | nil => have := exps_len u u.length; rw [hx] at this; simp at this; omega
    | cons e l => exact ⟨e, l, rfl⟩
  obtain ⟨e, l, hel⟩ := hne
  have hpos : ∀ f ∈ exps u u.length, 0 < f.2 := fun f hf => (exps_mem hf).1
  have hP := mxF_prop l e (hpos e (by rw [hel]; simp)) fun f hf => hpos f (by rw [hel]; simp [hf])
  have hm : mxE (exps u u.length) = mxF e l := by rw [hel]; rfl
  rw [hm]
  have hin : mxF e l ∈ exps u u.length := by
    rw [hel]
    rcases hP.1 with h1 | h1
    · rw [h1]; simp
    · simp [h1]
  have hall : ∀ f ∈ exps u u.length, f.1 * (mxF e l).2 ≤ (mxF e l).1 * f.2 := fun f hf => by
    rw [hel] at hf
    rcases List.mem_cons.1 hf with rfl | hf
    · exact hP.2.1
    · exact hP.2.2 f hf
  generalize mxF e l = M at hin hall
  obtain ⟨h1, h2, h3⟩ := exps_mem hin
  refine ⟨h1, ?_, fun a q hq ha => ?_⟩
  · obtain ⟨a, h4, h5⟩ := lg_at h2
    exact ⟨a, h4, by rw [h5, h3]⟩
  · have h4 := hall _ (exps_in (u := u) (k := u.length) hq (by omega))
    have h5 : mlen u a q * M.2 ≤ lg u q * M.2 := Nat.mul_le_mul_right _ (mlen_lg ha)
    exact Nat.le_trans h5 h4
/-- The greatest exponent in lowest terms. -/
def gN (u : List Int) : Nat := if u.length ≤ 128 then (mxE (exps u u.length)).1 / Nat.gcd (mxE (exps u u.length)).1 (mxE (exps u u.length)).2 else 0
def gD (u : List Int) : Nat := if u.length ≤ 128 then (mxE (exps u u.length)).2 / Nat.gcd (mxE (exps u u.length)).1 (mxE (exps u u.length)).2 else 0
theorem g_great {u : List Int} {n p : Nat} (hl : u.length ≤ 128) (h : Great u n p) : n / Nat.gcd n p = gN u ∧ p / Nat.gcd n p = gD u := by
  have h0 : 0 < u.length := by
    obtain ⟨h1, ⟨a, h2, _⟩, _⟩ := h
    omega
  have k := mxE_great h0
  have := low_eq h.1 k.1 (great_cross h k)
  unfold gN gD
  rw [if_pos hl, if_pos hl]
  exact this
theorem g_out {u : List Int} (h : ¬ u.length ≤ 128) : gN u = 0 ∧ gD u = 0 := by simp [gN, gD, h]
theorem g_nil {u : List Int} (h : u.length = 0) : gN u = 0 ∧ gD u = 0 := by
  rw [List.eq_nil_of_length_eq_zero h]
  exact ⟨rfl, rfl⟩
/-- The scan of the model: the greatest exponent of the places before a, and at a of the periods up to k; (0, 0) if there is none. -/
def Best (u : List Int) (a k n p : Nat) : Prop := (p = 0 → n = 0 ∧ a = 0 ∧ k = 0) ∧ (0 < p → (∃ b, b + p ≤ u.length ∧ n = mlen u b p) ∧ ∀ b q, 0 < q → b + q ≤ u.length → (b < a ∨ b = a ∧ q ≤ k) → mlen u b q * p ≤ n * q)
theorem best_start (u : List Int) : Best u 0 0 0 0 := ⟨fun _ => ⟨rfl, rfl, rfl⟩, fun h => absurd h (Nat.lt_irrefl _)⟩
theorem best_take {u : List Int} {a k n p : Nat} (h : Best u a k n p) (hk : a + (k + 1) ≤ u.length) (hc : p = 0 ∨ mlen u a (k + 1) * p > n * (k + 1)) : Best u a (k + 1) (mlen u a (k + 1)) (k + 1) := by
  refine ⟨fun e => by omega, fun _ => ⟨⟨a, hk, rfl⟩, fun b q hq hb hle => ?_⟩⟩
  by_cases e : b = a ∧ q = k + 1
  · rw [e.1, e.2]; exact Nat.le_refl _
  · rcases hc with hc | hc
    · have := h.1 hc
      omega
    · have hp : 0 < p := Nat.pos_of_ne_zero fun e => by rw [e] at hc; omega
      have h1 := (h.2 hp).2 b q hq hb (by omega)
      refine Nat.le_of_mul_le_mul_right (c := p) ?_ hp
      calc mlen u b q * (k + 1) * p = (mlen u b q * p) * (k + 1) := by simp [Nat.mul_comm, Nat.mul_left_comm, Nat.mul_assoc]
        _ ≤ (n * q) * (k + 1) := Nat.mul_le_mul_right _ h1
        _ = (n * (k + 1)) * q := by simp [Nat.mul_comm, Nat.mul_left_comm, Nat.mul_assoc]
        _ ≤ (mlen u a (k + 1) * p) * q := Nat.mul_le_mul_right _ (Nat.le_of_lt hc)
        _ = mlen u a (k + 1) * q * p := by simp [Nat.mul_comm, Nat.mul_left_comm, Nat.mul_assoc]
theorem best_keep {u : List Int} {a k n p : Nat} (h : Best u a k n p) (hp : 0 < p) (hc : mlen u a (k + 1) * p ≤ n * (k + 1)) : Best u a (k + 1) n p := by
  refine ⟨fun e => by omega, fun _ => ⟨(h.2 hp).1, fun b q hq hb hle => ?_⟩⟩
  by_cases e : b = a ∧ q = k + 1
  · rw [e.1, e.2]; exact hc
  · exact (h.2 hp).2 b q hq hb (by omega)
theorem best_next {u : List Int} {a k n p : Nat} (h : Best u a k n p) (ha : a < u.length) (hk : a + k = u.length) : Best u (a + 1) 0 n p := by
  have hp : 0 < p := Nat.pos_of_ne_zero fun e => by have := h.1 e; omega
  exact ⟨fun e => by omega, fun _ => ⟨(h.2 hp).1, fun b q hq hb hle => (h.2 hp).2 b q hq hb (by omega)⟩⟩
theorem best_end {u : List Int} {n p : Nat} (h : Best u u.length 0 n p) (h0 : 0 < u.length) : Great u n p := by
  have hp : 0 < p := Nat.pos_of_ne_zero fun e => by have := h.1 e; omega
  exact ⟨hp, (h.2 hp).1, fun b q hq hb => (h.2 hp).2 b q hq hb (by omega)⟩
theorem best_size {u : List Int} {a k n p : Nat} (h : Best u a k n p) : n ≤ u.length ∧ p ≤ u.length := by
  by_cases e : p = 0
  · have := h.1 e; omega
  · obtain ⟨⟨b, h1, h2⟩, _⟩ := h.2 (by omega)
    have := mlen_le h1
    omega
/-- A square: its place and its period. -/
abbrev Sqr := Nat × Nat
def sqAt (u : List Int) (a p : Nat) : Bool := decide ((u.drop a).take p = (u.drop (a + p)).take p)
theorem sq_iff {u : List Int} {a p : Nat} (h : a + 2 * p ≤ u.length) : sqAt u a p = true ↔ 2 * p ≤ mlen u a p := by
  rw [mlen_iff (by omega)]
  unfold sqAt
  rw [decide_eq_true_eq]
  constructor
  · intro e
    refine ⟨h, fun j h1 h2 => ?_⟩
    have := congrArg (fun l => l[j - p]?) e
    simp only [List.getElem?_take, List.getElem?_drop] at this
    rw [if_pos (by omega), if_pos (by omega), show a + p + (j - p) = a + j from by omega] at this
    rw [← this]
    congr 1
    omega
  · intro e
    refine List.ext_getElem? fun i => ?_
    simp only [List.getElem?_take, List.getElem?_drop]
    by_cases hi : i < p
    · rw [if_pos hi, if_pos hi]
      have := e.2 (p + i) (by omega) (by omega)
      rw [show a + p + i = a + (p + i) from by omega, this]
      congr 1
      omega
    · rw [if_neg hi, if_neg hi]
/-- The squares at a place with periods up to k; at the places before k. -/
def sqI (u : List Int) (a : Nat) : Nat → List Sqr
  | 0 => []
  | k + 1 => sqI u a k ++ if sqAt u a (k + 1) then [(a, k + 1)] else []
def sqU (u : List Int) : Nat → List Sqr
  | 0 => []
  | a + 1 => sqU u a ++ sqI u a ((u.length - a) / 2)
def sqV (u : List Int) : List Sqr := if u.length ≤ 64 then sqU u u.length else []
theorem sqI_yes {u : List Int} {a k : Nat} (h : sqAt u a (k + 1) = true) : sqI u a (k + 1) = sqI u a k ++ [(a, k + 1)] := by simp [sqI, h]
theorem sqI_no {u : List Int} {a k : Nat} (h : sqAt u a (k + 1) = false) : sqI u a (k + 1) = sqI u a k := by simp [sqI, h]
theorem sqI_len (u : List Int) (a : Nat) : ∀ k, (sqI u a k).length ≤ k := fun k => by
  induction k with
  | zero => exact Nat.le_refl _
  | succ k ih =>
    cases h : sqAt u a (k + 1) with
    | true => rw [sqI_yes h]; simp; omega
    | false => rw [sqI_no h]; omega
theorem sqU_len (u : List Int) : ∀ a, (sqU u a).length ≤ a * u.length := fun a => by
  induction a with
  | zero => exact Nat.zero_le _
  | succ a ih =>
    show (sqU u a ++ sqI u a ((u.length - a) / 2)).length ≤ _
    have := sqI_len u a ((u.length - a) / 2)
    rw [List.length_append, Nat.succ_mul]
    omega
theorem sqV_len (u : List Int) : (sqV u).length ≤ 4096 := by
  unfold sqV
  split
  · have h1 := sqU_len u u.length
    have h2 : u.length * u.length ≤ 64 * 64 := Nat.mul_le_mul (by assumption) (by assumption)
    omega
  · exact Nat.zero_le _
theorem sqI_mem {u : List Int} {a : Nat} {s : Sqr} : ∀ {k}, s ∈ sqI u a k ↔ s.1 = a ∧ 0 < s.2 ∧ s.2 ≤ k ∧ sqAt u s.1 s.2 = true := fun {k} => by
  induction k with
  | zero =>
    constructor
    · intro h; cases h
    · rintro ⟨_, h1, h2, _⟩; omega
  | succ k ih =>
    cases h : sqAt u a (k + 1) with
    | true =>
      rw [sqI_yes h, List.mem_append, ih, List.mem_singleton]
      constructor
      · rintro (⟨h1, h2, h3, h4⟩ | rfl)
        · exact ⟨h1, h2, by omega, h4⟩
        · exact ⟨rfl, Nat.succ_pos _, Nat.le_refl _, h⟩
      · rintro ⟨h1, h2, h3, h4⟩
        by_cases e : s.2 = k + 1
        · exact .inr (Prod.ext h1 e)
        · exact .inl ⟨h1, h2, by omega, h4⟩
    | false =>
      rw [sqI_no h, ih]
      constructor
      · rintro ⟨h1, h2, h3, h4⟩
        exact ⟨h1, h2, by omega, h4⟩
      · rintro ⟨h1, h2, h3, h4⟩
        refine ⟨h1, h2, ?_, h4⟩
        by_cases e : s.2 = k + 1
        · rw [h1, e, h] at h4; cases h4
        · omega
theorem sqU_mem {u : List Int} {s : Sqr} : ∀ {a}, a ≤ u.length → (s ∈ sqU u a ↔ s.1 < a ∧ 0 < s.2 ∧ s.1 + 2 * s.2 ≤ u.length ∧ sqAt u s.1 s.2 = true) := fun {a} => by
  induction a with
  | zero =>
    intro _
    constructor
    · intro h; cases h
    · rintro ⟨h1, _⟩; omega
  | succ a ih =>
    intro ha
    show s ∈ sqU u a ++ sqI u a ((u.length - a) / 2) ↔ _
    rw [List.mem_append, ih (by omega), sqI_mem]
    constructor
    · rintro (⟨h1, h2, h3, h4⟩ | ⟨h1, h2, h3, h4⟩)
      · exact ⟨by omega, h2, h3, h4⟩
      · exact ⟨by omega, h2, by omega, h4⟩
    · rintro ⟨h1, h2, h3, h4⟩
      by_cases e : s.1 = a
      · exact .inr ⟨e, h2, by omega, h4⟩
      · exact .inl ⟨by omega, h2, h3, h4⟩
theorem sqV_mem {u : List Int} {s : Sqr} (h : u.length ≤ 64) : s ∈ sqV u ↔ 0 < s.2 ∧ s.1 + 2 * s.2 ≤ u.length ∧ sqAt u s.1 s.2 = true := by
  unfold sqV
  rw [if_pos h, sqU_mem (Nat.le_refl _)]
  exact ⟨fun h => h.2, fun h => ⟨by omega, h⟩⟩
theorem sqV_fit {u : List Int} {s : Sqr} (h : s ∈ sqV u) : 0 < s.2 ∧ s.1 + 2 * s.2 ≤ u.length ∧ u.length ≤ 64 := by
  by_cases hl : u.length ≤ 64
  · have := (sqV_mem hl).1 h
    exact ⟨this.1, this.2.1, hl⟩
  · simp [sqV, hl] at h
theorem sqV_out {u : List Int} (h : ¬ u.length ≤ 64) : sqV u = [] := by simp [sqV, h]
theorem sqV_in {u : List Int} (h : u.length ≤ 64) : sqV u = sqU u u.length := by simp [sqV, h]
/-- The first of the squares with the least period. -/
def mnF (e : Sqr) : List Sqr → Sqr
  | [] => e
  | f :: l => mnF (if f.2 < e.2 then f else e) l
def mnE : List Sqr → Sqr
  | [] => (0, 0)
  | e :: l => mnF e l
theorem mnF_snoc : ∀ (l : List Sqr) (e f : Sqr), mnF e (l ++ [f]) = if f.2 < (mnF e l).2 then f else mnF e l
  | [], e, f => rfl
  | g :: l, e, f => by
    show mnF _ (l ++ [f]) = _
    rw [mnF_snoc l]
    rfl
theorem mnE_snoc {l : List Sqr} {f : Sqr} (h : l ≠ []) : mnE (l ++ [f]) = if f.2 < (mnE l).2 then f else mnE l := by
  cases l with
  | nil => exact absurd rfl h
  | cons e l => exact mnF_snoc l e f
/-- The parts of the squares. -/
def sqW (u : List Int) (l : List Sqr) : List (List Int) := l.map fun s => (u.drop s.1).take (2 * s.2)
/-- How many different ones there are. -/
def dsq (u : List Int) : Nat := (sdl (sqW u (sqV u))).length
theorem dsq_le (u : List Int) : dsq u ≤ 4096 := by
  have h1 := sdl_len (sqW u (sqV u))
  have h2 := sqV_len u
  unfold dsq
  rw [sqW, List.length_map] at h1
  unfold sqW
  omega
/-- Euclid's algorithm. -/
theorem gcd_step {a b : Nat} : Nat.gcd b (a % b) = Nat.gcd a b := by
  rw [Nat.gcd_comm a b, Nat.gcd_rec b a, Nat.gcd_comm]
end Go.Proofs.Ytcnejfihpaicdaa.Plain
