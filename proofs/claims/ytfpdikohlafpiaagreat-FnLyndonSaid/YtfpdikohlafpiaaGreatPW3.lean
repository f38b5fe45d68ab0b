/- Several texts of this proof, one behind the other: each says ahead of it what it shows and under which conditions. -/
import Derived.Test.YtfpdikohlafpiaaGreatPW2
/- Plain facts on parts with a period, on squares and exponents of a word. No conditions beyond those that each fact states. -/
namespace Go.Proofs.YtfpdikohlafpiaaGreat.Plain
set_option linter.unusedSimpArgs false
/-- The part of n letters from place a on has the period p. -/
def PerA (u : List Int) (a p n : Nat) : Prop := a + n ≤ u.length ∧ ∀ j, p ≤ j → j < n → u[a + j]? = u[a + j - p]?
theorem PerA.less {u : List Int} {a p n m : Nat} (h : PerA u a p n) (hm : m ≤ n) : PerA u a p m := ⟨by have := h.1; omega, fun j h1 h2 => h.2 j h1 (by omega)⟩
theorem PerA.short {u : List Int} {a p n : Nat} (h : a + n ≤ u.length) (hn : n ≤ p) : PerA u a p n := ⟨h, fun j h1 h2 => by omega⟩
theorem PerA.more {u : List Int} {a p n : Nat} {x y : Int} (h : PerA u a p n) (h1 : u[a + n]? = some x) (h2 : u[a + n - p]? = some y) (hxy : x = y) : PerA u a p (n + 1) := by
  have hl := (List.getElem?_eq_some_iff.1 h1).1
  refine ⟨by omega, fun j hj hjn => ?_⟩
  by_cases e : j = n
  · subst e
    rw [h1, h2, hxy]
  · exact h.2 j hj (by omega)
theorem PerA.stop {u : List Int} {a p n m : Nat} {x y : Int} (h : PerA u a p m) (hp : p ≤ n) (h1 : u[a + n]? = some x) (h2 : u[a + n - p]? = some y) (hxy : x ≠ y) : m ≤ n := by
  refine Nat.le_of_not_lt fun hlt => ?_
  have := h.2 n hp hlt
  rw [h1, h2] at this
  exact hxy (Option.some.inj this)
/-- How long the word goes on with the period p from the place a. -/
def ml (u : List Int) (a p : Nat) : Nat → Nat
  | 0 => p
  | k + 1 => if PerA' u a p (p + k + 1) then p + k + 1 else ml u a p k
where PerA' (u : List Int) (a p n : Nat) : Bool := decide (a + n ≤ u.length) && (List.range n).all fun j => decide (p ≤ j → u[a + j]? = u[a + j - p]?)
theorem perA'_iff {u : List Int} {a p n : Nat} : ml.PerA' u a p n = true ↔ PerA u a p n := by
  simp only [ml.PerA', Bool.and_eq_true, decide_eq_true_eq, List.all_eq_true, List.mem_range, PerA]
  exact and_congr_right fun _ => ⟨fun h j h1 h2 => h j h2 h1, fun h j h1 h2 => h j h2 h1⟩
theorem ml_prop (u : List Int) (a p : Nat) (h : a + p ≤ u.length) : ∀ k, p ≤ ml u a p k ∧ PerA u a p (ml u a p k) ∧ ∀ n, PerA u a p n → n ≤ p + k → n ≤ ml u a p k := fun k => by
  induction k with
  | zero => exact ⟨Nat.le_refl _, PerA.short h (Nat.le_refl _), fun n _ hn => hn⟩
  | succ k ih =>
    unfold ml
    by_cases hc : ml.PerA' u a p (p + k + 1) = true
    · rw [if_pos hc]
      exact ⟨by omega, perA'_iff.1 hc, fun n _ hn => by omega⟩
    · rw [if_neg hc]
      refine ⟨ih.1, ih.2.1, fun n hn hk => ?_⟩
      by_cases e : n = p + k + 1
      · subst e
        exact absurd (perA'_iff.2 hn) hc
      · exact ih.2.2 n hn (by omega)
/-- The length of the longest part with the period p from the place a on. -/
def mlen (u : List Int) (a p : Nat) : Nat := ml u a p u.length
theorem mlen_ge {u : List Int} {a p : Nat} (h : a + p ≤ u.length) : p ≤ mlen u a p := (ml_prop u a p h _).1
theorem mlen_per {u : List Int} {a p : Nat} (h : a + p ≤ u.length) : PerA u a p (mlen u a p) := (ml_prop u a p h _).2.1
theorem mlen_le {u : List Int} {a p : Nat} (h : a + p ≤ u.length) : a + mlen u a p ≤ u.length := (mlen_per h).1
theorem mlen_max {u : List Int} {a p n : Nat} (h : a + p ≤ u.length) (hn : PerA u a p n) : n ≤ mlen u a p := (ml_prop u a p h _).2.2 n hn (by have := hn.1; omega)
theorem mlen_iff {u : List Int} {a p n : Nat} (h : a + p ≤ u.length) : n ≤ mlen u a p ↔ PerA u a p n := ⟨fun hn => (mlen_per h).less hn, mlen_max h⟩
/-- It ends where the letters differ or the word ends. -/
theorem mlen_stop {u : List Int} {a p n : Nat} {x y : Int} (h : PerA u a p n) (hp : p ≤ n) (h1 : u[a + n]? = some x) (h2 : u[a + n - p]? = some y) (hxy : x ≠ y) : mlen u a p = n := by
  have hl := h.1
  have := mlen_max (by omega) h
  have := (mlen_per (u := u) (a := a) (p := p) (by omega)).stop hp h1 h2 hxy
  omega
theorem mlen_end {u : List Int} {a p n : Nat} (h : PerA u a p n) (hp : p ≤ n) (he : u.length ≤ a + n) : mlen u a p = n := by
  have hl := h.1
  have := mlen_max (by omega) h
  have := mlen_le (u := u) (a := a) (p := p) (by omega)
  omega
/-- The length of the longest part with the period p that ends before place p + k, and of the longest of all till there. -/
def lgT (u : List Int) (p : Nat) : Nat → Nat × Nat
  | 0 => (p, p)
  | k + 1 => let l := if u[p + k]? = u[k]? then (lgT u p k).1 + 1 else p; (l, max (lgT u p k).2 l)
theorem lgT_yes {u : List Int} {p k : Nat} {x y : Int} (h1 : u[p + k]? = some x) (h2 : u[k]? = some y) (h : x = y) : lgT u p (k + 1) = ((lgT u p k).1 + 1, max (lgT u p k).2 ((lgT u p k).1 + 1)) := by simp [lgT, h1, h2, h]
theorem lgT_no {u : List Int} {p k : Nat} {x y : Int} (h1 : u[p + k]? = some x) (h2 : u[k]? = some y) (h : x ≠ y) : lgT u p (k + 1) = (p, max (lgT u p k).2 p) := by simp [lgT, h1, h2, h]
theorem lgT_prop {u : List Int} {p : Nat} (hp : p ≤ u.length) : ∀ k, p + k ≤ u.length → (p ≤ (lgT u p k).1 ∧ (lgT u p k).1 ≤ p + k ∧ PerA u (p + k - (lgT u p k).1) p (lgT u p k).1 ∧ ∀ a n, a + n = p + k → PerA u a p n → n ≤ (lgT u p k).1) ∧
    (p ≤ (lgT u p k).2 ∧ (∃ a, a + (lgT u p k).2 ≤ p + k ∧ PerA u a p (lgT u p k).2) ∧ ∀ a n, a + n ≤ p + k → PerA u a p n → n ≤ (lgT u p k).2) := fun k => by
  induction k with
  | zero =>
    intro h
    refine ⟨⟨Nat.le_refl _, Nat.le_refl _, PerA.short (by show p + 0 - p + p ≤ _; omega) (Nat.le_refl _), fun a n h1 _ => by show n ≤ p; omega⟩, Nat.le_refl _, ⟨0, by show 0 + p ≤ _; omega, PerA.short (by show 0 + p ≤ _; omega) (Nat.le_refl _)⟩, fun a n h1 _ => by show n ≤ p; omega⟩
  | succ k ih =>
    intro h
    obtain ⟨⟨h1, h2, h3, h4⟩, h5, ⟨a5, h6, h7⟩, h8⟩ := ih (by omega)
    obtain ⟨x, hx⟩ : ∃ x, u[p + k]? = some x := ⟨_, List.getElem?_eq_getElem (by omega)⟩
    obtain ⟨y, hy⟩ : ∃ y, u[k]? = some y := ⟨_, List.getElem?_eq_getElem (by omega)⟩
    have key : ∀ l, l = (if x = y then (lgT u p k).1 + 1 else p) → (p ≤ l ∧ l ≤ p + (k + 1) ∧ PerA u (p + (k + 1) - l) p l ∧ ∀ a n, a + n = p + (k + 1) → PerA u a p n → n ≤ l) := fun l hl => by
      by_cases e : x = y
      · rw [if_pos e] at hl
        subst hl
        refine ⟨by omega, by omega, ?_, fun a n hn hper => ?_⟩
        · rw [show p + (k + 1) - ((lgT u p k).1 + 1) = p + k - (lgT u p k).1 from by omega]
          exact h3.more (x := x) (y := y) (by rw [show p + k - (lgT u p k).1 + (lgT u p k).1 = p + k from by omega]; exact hx) (by rw [show p + k - (lgT u p k).1 + (lgT u p k).1 - p = k from by omega]; exact hy) e
        · cases n with
          | zero => omega
          | succ n => have := h4 a n (by omega) (hper.less (by omega)); omega
      · rw [if_neg e] at hl
        rw [hl]
        refine ⟨Nat.le_refl _, by omega, PerA.short (by omega) (Nat.le_refl _), fun a n hn hper => ?_⟩
        refine Nat.le_of_not_lt fun hlt => ?_
        have := hper.stop (n := n - 1) (x := x) (y := y) (by omega) (by rw [show a + (n - 1) = p + k from by omega]; exact hx) (by rw [show a + (n - 1) - p = k from by omega]; exact hy) e
        omega
    have hT : lgT u p (k + 1) = ((if x = y then (lgT u p k).1 + 1 else p), max (lgT u p k).2 (if x = y then (lgT u p k).1 + 1 else p)) := by
      by_cases e : x = y
      · rw [lgT_yes hx hy e, if_pos e]
      · rw [lgT_no hx hy e, if_neg e]
    rw [hT]
    have K := key _ rfl
    generalize (if x = y then (lgT u p k).1 + 1 else p) = l at K
    refine ⟨K, ?_, ?_, ?_⟩
    · show p ≤ max _ _; omega
    · show ∃ a, a + max (lgT u p k).2 l ≤ _ ∧ PerA u a p (max (lgT u p k).2 l)
      rcases Nat.le_total (lgT u p k).2 l with hm | hm
      · rw [Nat.max_eq_right hm]
        exact ⟨p + (k + 1) - l, by omega, K.2.2.1⟩
      · rw [Nat.max_eq_left hm]
        exact ⟨a5, by omega, h7⟩
    · intro a n hn hper
      show n ≤ max _ _
      by_cases e : a + n = p + (k + 1)
      · have := K.2.2.2 a n e hper; omega
      · have := h8 a n (by omega) hper; omega
/-- The length of the longest part with the period p. -/
def lg (u : List Int) (p : Nat) : Nat := (lgT u p (u.length - p)).2
theorem lg_ge {u : List Int} {p : Nat} (h : p ≤ u.length) : p ≤ lg u p := (lgT_prop h (u.length - p) (by omega)).2.1
theorem lg_is {u : List Int} {p : Nat} (h : p ≤ u.length) : ∃ a, PerA u a p (lg u p) := by
  obtain ⟨a, _, h2⟩ := (lgT_prop h (u.length - p) (by omega)).2.2.1
  exact ⟨a, h2⟩
theorem lg_max {u : List Int} {a p n : Nat} (h : p ≤ u.length) (hn : PerA u a p n) : n ≤ lg u p := (lgT_prop h (u.length - p) (by omega)).2.2.2 a n (by have := hn.1; omega) hn
theorem lg_le {u : List Int} {p : Nat} (h : p ≤ u.length) : lg u p ≤ u.length := by
  obtain ⟨a, h1⟩ := lg_is h
  have := h1.1
  omega
theorem lgT_le {u : List Int} {p k : Nat} (h : p + k ≤ u.length) : p ≤ (lgT u p k).1 ∧ (lgT u p k).1 ≤ u.length ∧ p ≤ (lgT u p k).2 ∧ (lgT u p k).2 ≤ u.length := by
  have h1 := lgT_prop (u := u) (p := p) (by omega) k h
  obtain ⟨a, h2, h3⟩ := h1.2.2.1
  exact ⟨h1.1.1, by have := h1.1.2.1; omega, h1.2.1, by omega⟩
theorem lg_at {u : List Int} {p : Nat} (h : p ≤ u.length) : ∃ a, a + p ≤ u.length ∧ mlen u a p = lg u p := by
  obtain ⟨a, h1⟩ := lg_is h
  have h2 := h1.1
  have h3 := lg_ge h
  have h4 := mlen_max (by omega) h1
  have h5 := lg_max h (mlen_per (u := u) (a := a) (p := p) (by omega))
  exact ⟨a, by omega, by omega⟩
theorem mlen_lg {u : List Int} {a p : Nat} (h : a + p ≤ u.length) : mlen u a p ≤ lg u p := lg_max (by omega) (mlen_per h)
/-- The exponents of the longest parts, the first k. -/
def exps (u : List Int) (k : Nat) : List (Nat × Nat) := (List.range k).map fun i => (lg u (i + 1), i + 1)
theorem exps_succ (u : List Int) (k : Nat) : exps u (k + 1) = exps u k ++ [(lg u (k + 1), k + 1)] := by simp [exps, List.range_succ]
theorem exps_len (u : List Int) (k : Nat) : (exps u k).length = k := by simp [exps]
theorem exps_mem {u : List Int} {k : Nat} {e : Nat × Nat} (h : e ∈ exps u k) : 0 < e.2 ∧ e.2 ≤ k ∧ e.1 = lg u e.2 := by
  obtain ⟨i, hi, rfl⟩ := List.mem_map.1 h
  have := List.mem_range.1 hi
  exact ⟨by show 0 < i + 1; omega, by show i + 1 ≤ k; omega, rfl⟩
theorem exps_in {u : List Int} {k p : Nat} (h0 : 0 < p) (hp : p ≤ k) : (lg u p, p) ∈ exps u k := List.mem_map.2 ⟨p - 1, List.mem_range.2 (by omega), by rw [show p - 1 + 1 = p from by omega]⟩
/-- Whether a part is longer than twice a period of its. -/
def ovB (u : List Int) : Bool := decide (u.length ≤ 128) && (exps u u.length).any fun e => decide (e.1 > 2 * e.2)
theorem ov_yes {u : List Int} {a p : Nat} (hl : u.length ≤ 128) (h0 : 0 < p) (h : a + p ≤ u.length) (hm : mlen u a p > 2 * p) : ovB u = true := by
  have := mlen_lg h
  simp only [ovB, hl, decide_true, Bool.true_and, List.any_eq_true, decide_eq_true_eq]
  exact ⟨_, exps_in h0 (by omega), by show lg u p > 2 * p; omega⟩
theorem ov_no {u : List Int} (h : ∀ a p, 0 < p → a + 2 * p < u.length → ¬ mlen u a p > 2 * p) : ovB u = false := by
  rw [← Bool.not_eq_true]
  intro hb
  simp only [ovB, Bool.and_eq_true, List.any_eq_true, decide_eq_true_eq] at hb
  obtain ⟨_, e, he, h2⟩ := hb
  obtain ⟨h3, h4, h5⟩ := exps_mem he
  obtain ⟨a, h6, h7⟩ := lg_at h4
  have h8 := mlen_le h6
  exact h a e.2 h3 (by omega) (by omega)
/-- Whether a part is at least num / den times as long as a period of its. -/
def powB (u : List Int) (num den : Int) : Bool := decide (u.length ≤ 128 ∧ 2 ≤ num ∧ num ≤ 20 ∧ 1 ≤ den ∧ den < num) && (exps u u.length).any fun e => decide ((e.1 : Int) * den ≥ num * (e.2 : Int))
theorem pow_yes {u : List Int} {num den : Int} {a p : Nat} (hl : u.length ≤ 128 ∧ 2 ≤ num ∧ num ≤ 20 ∧ 1 ≤ den ∧ den < num) (h0 : 0 < p) (h : a + p ≤ u.length) (hm : (mlen u a p : Int) * den ≥ (p : Int) * num) : powB u num den = true := by
  have h1 := mlen_lg h
  have h2 : (mlen u a p : Int) * den ≤ (lg u p : Int) * den := Int.mul_le_mul_of_nonneg_right (by omega) (by omega)
  have h3 : (p : Int) * num = num * (p : Int) := Int.mul_comm _ _
  simp only [powB, hl, and_self, decide_true, Bool.true_and, List.any_eq_true, decide_eq_true_eq]
  exact ⟨_, exps_in h0 (by omega), by show (lg u p : Int) * den ≥ num * (p : Int); omega⟩
theorem pow_no {u : List Int} {num den : Int} (h : ∀ a p, 0 < p → a + p < u.length → ¬ (mlen u a p : Int) * den ≥ (p : Int) * num) : powB u num den = false := by
  rw [← Bool.not_eq_true]
  intro hb
  simp only [powB, Bool.and_eq_true, List.any_eq_true, decide_eq_true_eq] at hb
  obtain ⟨h1, e, he, h2⟩ := hb
  obtain ⟨h3, h4, h5⟩ := exps_mem he
  obtain ⟨a, h6, h7⟩ := lg_at h4
  have h9 : (e.2 : Int) * num = num * (e.2 : Int) := Int.mul_comm _ _
  by_cases e1 : a + e.2 < u.length
  · exact h a e.2 h3 e1 (by rw [h7, ← h5]; omega)
  · have h8 := mlen_le h6
    have h10 : e.1 ≤ e.2 := by omega
    have h11 : (e.1 : Int) * den ≤ (e.2 : Int) * den := Int.mul_le_mul_of_nonneg_right (by omega) (by omega)
    have h12 : (e.2 : Int) * den < (e.2 : Int) * num := Int.mul_lt_mul_of_pos_left (by omega) (by omega)
    omega
theorem pow_out {u : List Int} {num den : Int} (h : ¬ (u.length ≤ 128 ∧ 2 ≤ num ∧ num ≤ 20 ∧ 1 ≤ den ∧ den < num)) : powB u num den = false := by simp [powB, h]
theorem pow_in {u : List Int} {num den : Int} (h : u.length ≤ 128 ∧ 2 ≤ num ∧ num ≤ 20 ∧ 1 ≤ den ∧ den < num) : powB u num den = (exps u u.length).any fun e => decide ((e.1 : Int) * den ≥ num * (e.2 : Int)) := by simp [powB, h]
theorem ov_in {u : List Int} (h : u.length ≤ 128) : ovB u = (exps u u.length).any fun e => decide (e.1 > 2 * e.2) := by simp [ovB, h]
theorem ov_out {u : List Int} (h : ¬ u.length ≤ 128) : ovB u = false := by simp [ovB, h]
/-- n letters with the period p are the greatest exponent. -/
def Great (u : List Int) (n p : Nat) : Prop := 0 < p ∧ (∃ a, a + p ≤ u.length ∧ n = mlen u a p) ∧ ∀ a q, 0 < q → a + q ≤ u.length → mlen u a q * p ≤ n * q
theorem great_cross {u : List Int} {n p m q : Nat} (h : Great u n p) (k : Great u m q) : n * q = m * p := by
  obtain ⟨h1, ⟨a, h2, h3⟩, h4⟩ := h
  obtain ⟨k1, ⟨b, k2, k3⟩, k4⟩ := k
  have := h4 b q k1 k2
  have := k4 a p h1 h2
  rw [← k3] at *
  rw [← h3] at *
  omega
theorem low_dvd {n p m q : Nat} (hp : 0 < p) (h : n * q = m * p) : p / Nat.gcd n p ∣ q / Nat.gcd m q ∧ True := by
  refine ⟨?_, trivial⟩
  have hg : 0 < Nat.gcd n p := Nat.gcd_pos_of_pos_right _ hp
  have hc : Nat.Coprime (p / Nat.gcd n p) (n / Nat.gcd n p) := (Nat.coprime_div_gcd_div_gcd hg).symm
  refine hc.dvd_of_dvd_mul_left ?_
  by_cases hq : q = 0
  · subst hq; simp
  · have hg2 : 0 < Nat.gcd m q := Nat.gcd_pos_of_pos_right _ (by omega)
    refine ⟨m / Nat.gcd m q, ?_⟩
    have e1 := Nat.div_mul_cancel (Nat.gcd_dvd_left n p)
    have e2 := Nat.div_mul_cancel (Nat.gcd_dvd_right n p)
    have e3 := Nat.div_mul_cancel (Nat.gcd_dvd_left m q)
    have e4 := Nat.div_mul_cancel (Nat.gcd_dvd_right m q)
    generalize hA : n / Nat.gcd n p = A at *
    generalize hB : p / Nat.gcd n p = B at *
    generalize hC : m / Nat.gcd m q = C at *
    generalize hD : q / Nat.gcd m q = D at *
    generalize Nat.gcd n p = g at *
    generalize Nat.gcd m q = k at *
    rw [← e1, ← e2, ← e3, ← e4] at h
    have h2 : (g * k) * (A * D) = (g * k) * (B * C) := by
      rw [show (g * k) * (A * D) = A * g * (D * k) from by simp [Nat.mul_comm, Nat.mul_left_comm, Nat.mul_assoc], h]
      simp [Nat.mul_comm, Nat.mul_left_comm, Nat.mul_assoc]
    exact Nat.eq_of_mul_eq_mul_left (Nat.mul_pos hg hg2) h2
theorem low_eq {n p m q : Nat} (hp : 0 < p) (hq : 0 < q) (h : n * q = m * p) : n / Nat.gcd n p = m / Nat.gcd m q ∧ p / Nat.gcd n p = q / Nat.gcd m q := by
  have hB : p / Nat.gcd n p = q / Nat.gcd m q := Nat.dvd_antisymm (low_dvd hp h).1 (low_dvd hq h.symm).1
  refine ⟨?_, hB⟩
  have hg : 0 < Nat.gcd n p := Nat.gcd_pos_of_pos_right _ hp
  have hg2 : 0 < Nat.gcd m q := Nat.gcd_pos_of_pos_right _ hq
  have e1 := Nat.div_mul_cancel (Nat.gcd_dvd_left n p)
  have e2 := Nat.div_mul_cancel (Nat.gcd_dvd_right n p)
  have e3 := Nat.div_mul_cancel (Nat.gcd_dvd_left m q)
  have e4 := Nat.div_mul_cancel (Nat.gcd_dvd_right m q)
  have hpos : 0 < p / Nat.gcd n p := Nat.pos_of_ne_zero fun e => by rw [e] at e2; omega
  generalize n / Nat.gcd n p = A at *
  generalize p / Nat.gcd n p = B at *
  generalize m / Nat.gcd m q = C at *
  generalize q / Nat.gcd m q = D at *
  generalize Nat.gcd n p = g at *
  generalize Nat.gcd m q = k at *
  subst hB
  rw [← e1, ← e2, ← e3, ← e4] at h
  have h2 : (g * k * B) * A = (g * k * B) * C := by
    rw [show (g * k * B) * A = A * g * (B * k) from by simp [Nat.mul_comm, Nat.mul_left_comm, Nat.mul_assoc], h]
    simp [Nat.mul_comm, Nat.mul_left_comm, Nat.mul_assoc]
  exact Nat.eq_of_mul_eq_mul_left (Nat.mul_pos (Nat.mul_pos hg hg2) hpos) h2
/-- The first of the greatest exponents of a list, none less than the one at hand. -/
def mxF (e : Nat × Nat) : List (Nat × Nat) → Nat × Nat
  | [] => e
  | f :: l => mxF (if f.1 * e.2 > e.1 * f.2 then f else e) l
def mxE : List (Nat × Nat) → Nat × Nat
  | [] => (0, 0)
  | e :: l => mxF e l
theorem mxF_prop : ∀ (l : List (Nat × Nat)) (e : Nat × Nat), 0 < e.2 → (∀ f ∈ l, 0 < f.2) → (mxF e l = e ∨ mxF e l ∈ l) ∧ e.1 * (mxF e l).2 ≤ (mxF e l).1 * e.2 ∧ ∀ f ∈ l, f.1 * (mxF e l).2 ≤ (mxF e l).1 * f.2
  | [], e, _, _ => ⟨.inl rfl, Nat.le_refl _, fun f hf => by cases hf⟩
  | f :: l, e, he, hl => by
    have hf : 0 < f.2 := hl f (by simp)
    have ih := mxF_prop l (if f.1 * e.2 > e.1 * f.2 then f else e) (by split <;> assumption) fun x hx => hl x (by simp [hx])
    have hm : mxF e (f :: l) = mxF (if f.1 * e.2 > e.1 * f.2 then f else e) l := rfl
    rw [hm]
    generalize hM : mxF (if f.1 * e.2 > e.1 * f.2 then f else e) l = M at ih
    have cr : ∀ {a b c : Nat × Nat}, 0 < b.2 → a.1 * b.2 ≤ b.1 * a.2 → b.1 * c.2 ≤ c.1 * b.2 → a.1 * c.2 ≤ c.1 * a.2 := fun {a b c} hb h1 h2 => by
      refine Nat.le_of_mul_le_mul_right (c := b.2) ?_ hb
      calc a.1 * c.2 * b.2 = (a.1 * b.2) * c.2 := by simp [Nat.mul_comm, Nat.mul_left_comm, Nat.mul_assoc]
        _ ≤ (b.1 * a.2) * c.2 := Nat.mul_le_mul_right _ h1
        _ = (b.1 * c.2) * a.2 := by simp [Nat.mul_comm, Nat.mul_left_comm, Nat.mul_assoc]
        _ ≤ (c.1 * b.2) * a.2 := Nat.mul_le_mul_right _ h2
        _ = c.1 * a.2 * b.2 := by simp [Nat.mul_comm, Nat.mul_left_comm, Nat.mul_assoc]
    by_cases hc : f.1 * e.2 > e.1 * f.2
    · rw [if_pos hc] at ih
      refine ⟨.inr ?_, cr hf (Nat.le_of_lt hc) ih.2.1, fun x hx => ?_⟩
      · rcases ih.1 with h | h
        · rw [h]; simp
        · simp [h]
      · rcases List.mem_cons.1 hx with rfl | hx
        · exact ih.2.1
        · exact ih.2.2 x hx
    · rw [if_neg hc] at ih
      refine ⟨ih.1.imp id fun h => by simp [h], ih.2.1, fun x hx => ?_⟩
      rcases List.mem_cons.1 hx with rfl | hx
      · exact cr he (by omega) ih.2.1
      · exact ih.2.2 x hx
theorem mxF_snoc : ∀ (l : List (Nat × Nat)) (e f : Nat × Nat), mxF e (l ++ [f]) = if f.1 * (mxF e l).2 > (mxF e l).1 * f.2 then f else mxF e l
  | [], e, f => rfl
  | g :: l, e, f => by
    show mxF _ (l ++ [f]) = _
    rw [mxF_snoc l]
    rfl
theorem mxE_one (e : Nat × Nat) : mxE [e] = e := rfl
theorem mxE_snoc {l : List (Nat × Nat)} {f : Nat × Nat} (h : l ≠ []) : mxE (l ++ [f]) = if f.1 * (mxE l).2 > (mxE l).1 * f.2 then f else mxE l := by
  cases l with
  | nil => exact absurd rfl h
  | cons e l => exact mxF_snoc l e f
theorem mxE_great {u : List Int} (h : 0 < u.length) : Great u (mxE (exps u u.length)).1 (mxE (exps u u.length)).2 := by
  have hne : ∃ e l, exps u u.length = e :: l := by
    cases hx : exps u u.length with
    | nil => have := exps_len u u.length; rw [hx] at this; simp at this; omega
    | cons e l => exact ⟨e, l, rfl⟩
  obtain ⟨e, l, hel⟩ := hne
  have hpos : ∀ f ∈ exps u u.length, 0 < f.2 := fun f hf => (exps_mem hf).1
  have hP := mxF_prop l e (hpos e (by rw [hel]; simp)) fun f hf => hpos f (by rw [hel]; simp [hf])
  have hm : mxE (exps u u.length) = mxF e l := by rw [hel]; rfl
  rw [hm]
  have hin : mxF e l ∈ exps u u.length := by
    rw [hel]
    rcases hP.1 with h1 | h1
    · rw [h1]; simp
    · simp [h1]
  have hall : ∀ f ∈ exps u u.length, f.1 * (mxF e l).2 ≤ (mxF e l).1 * f.2 := fun f hf => by
    rw [hel] at hf
    rcases List.mem_cons.1 hf with rfl | hf
    · exact hP.2.1
    · exact hP.2.2 f hf
  generalize mxF e l = M at hin hall
  obtain ⟨h1, h2, h3⟩ := exps_mem hin
  refine ⟨h1, ?_, fun a q hq ha => ?_⟩
  · obtain ⟨a, h4, h5⟩ := lg_at h2
    exact ⟨a, h4, by rw [h5, h3]⟩
  · have h4 := hall _ (exps_in (u := u) (k := u.length) hq (by omega))
    have h5 : mlen u a q * M.2 ≤ lg u q * M.2 := Nat.mul_le_mul_right _ (mlen_lg ha)
    exact Nat.le_trans h5 h4
/-- The greatest exponent in lowest terms. -/
def gN (u : List Int) : Nat := if u.length ≤ 128 then (mxE (exps u u.length)).1 / Nat.gcd (mxE (exps u u.length)).1 (mxE (exps u u.length)).2 else 0
def gD (u : List Int) : Nat := if u.length ≤ 128 then (mxE (exps u u.length)).2 / Nat.gcd (mxE (exps u u.length)).1 (mxE (exps u u.length)).2 else 0
theorem g_great {u : List Int} {n p : Nat} (hl : u.length ≤ 128) (h : Great u n p) : n / Nat.gcd n p = gN u ∧ p / Nat.gcd n p = gD u := by
  have h0 : 0 < u.length := by
    obtain ⟨h1, ⟨a, h2, _⟩, _⟩ := h
    omega
  have k := mxE_great h0
  have := low_eq h.1 k.1 (great_cross h k)
  unfold gN gD
  rw [if_pos hl, if_pos hl]
  exact this
theorem g_out {u : List Int} (h : ¬ u.length ≤ 128) : gN u = 0 ∧ gD u = 0 := by simp [gN, gD, h]
theorem g_nil {u : List Int} (h : u.length = 0) : gN u = 0 ∧ gD u = 0 := by
  rw [List.eq_nil_of_length_eq_zero h]
  exact ⟨rfl, rfl⟩
/-- The scan of the model: the greatest exponent of the places before a, and at a of the periods up to k; (0, 0) if there is none. -/
def Best (u : List Int) (a k n p : Nat) : Prop := (p = 0 → n = 0 ∧ a = 0 ∧ k = 0) ∧ (0 < p → (∃ b, b + p ≤ u.length ∧ n = mlen u b p) ∧ ∀ b q, 0 < q → b + q ≤ u.length → (b < a ∨ b = a ∧ q ≤ k) → mlen u b q * p ≤ n * q)
theorem best_start (u : List Int) : Best u 0 0 0 0 := ⟨fun _ => ⟨rfl, rfl, rfl⟩, fun h => absurd h (Nat.lt_irrefl _)⟩
theorem best_take {u : List Int} {a k n p : Nat} (h : Best u a k n p) (hk : a + (k + 1) ≤ u.length) (hc : p = 0 ∨ mlen u a (k + 1) * p > n * (k + 1)) : Best u a (k + 1) (mlen u a (k + 1)) (k + 1) := by
  refine ⟨fun e => by omega, fun _ => ⟨⟨a, hk, rfl⟩, fun b q hq hb hle => ?_⟩⟩
  by_cases e : b = a ∧ q = k + 1
  · rw [e.1, e.2]; exact Nat.le_refl _
  · rcases hc with hc | hc
    · have := h.1 hc
      omega
    · have hp : 0 < p := Nat.pos_of_ne_zero fun e => by rw [e] at hc; omega
      have h1 := (h.2 hp).2 b q hq hb (by omega)
      refine Nat.le_of_mul_le_mul_right (c := p) ?_ hp
      calc mlen u b q * (k + 1) * p = (mlen u b q * p) * (k + 1) := by simp [Nat.mul_comm, Nat.mul_left_comm, Nat.mul_assoc]
        _ ≤ (n * q) * (k + 1) := Nat.mul_le_mul_right _ h1
        _ = (n * (k + 1)) * q := by simp [Nat.mul_comm, Nat.mul_left_comm, Nat.mul_assoc]
        _ ≤ (mlen u a (k + 1) * p) * q := Nat.mul_le_mul_right _ (Nat.le_of_lt hc)
        _ = mlen u a (k + 1) * q * p := by simp [Nat.mul_comm, Nat.mul_left_comm, Nat.mul_assoc]
theorem best_keep {u : List Int} {a k n p : Nat} (h : Best u a k n p) (hp : 0 < p) (hc : mlen u a (k + 1) * p ≤ n * (k + 1)) : Best u a (k + 1) n p := by
  refine ⟨fun e => by omega, fun _ => ⟨(h.2 hp).1, fun b q hq hb hle => ?_⟩⟩
  by_cases e : b = a ∧ q = k + 1
  · rw [e.1, e.2]; exact hc
  · exact (h.2 hp).2 b q hq hb (by omega)
theorem best_next {u : List Int} {a k n p : Nat} (h : Best u a k n p) (ha : a < u.length) (hk : a + k = u.length) : Best u (a + 1) 0 n p := by
  have hp : 0 < p := Nat.pos_of_ne_zero fun e => by have := h.1 e; omega
  exact ⟨fun e => by omega, fun _ => ⟨(h.2 hp).1, fun b q hq hb hle => (h.2 hp).2 b q hq hb (by omega)⟩⟩
theorem best_end {u : List Int} {n p : Nat} (h : Best u u.length 0 n p) (h0 : 0 < u.length) : Great u n p := by
  have hp : 0 < p := Nat.pos_of_ne_zero fun e => by have := h.1 e; omega
  exact ⟨hp, (h.2 hp).1, fun b q hq hb => (h.2 hp).2 b q hq hb (by omega)⟩
theorem best_size {u : List Int} {a k n p : Nat} (h : Best u a k n p) : n ≤ u.length ∧ p ≤ u.length := by
  by_cases e : p = 0
  · have := h.1 e; omega
  · obtain ⟨⟨b, h1, h2⟩, _⟩ := h.2 (by omega)
    have := mlen_le h1
    omega
/-- A square: its place and its period. -/
abbrev Sqr := Nat × Nat
def sqAt (u : List Int) (a p : Nat) : Bool := decide ((u.drop a).take p = (u.drop (a + p)).take p)
theorem sq_iff {u : List Int} {a p : Nat} (h : a + 2 * p ≤ u.length) : sqAt u a p = true ↔ 2 * p ≤ mlen u a p := by
  rw [mlen_iff (by omega)]
  unfold sqAt
  rw [decide_eq_true_eq]
  constructor
  · intro e
    refine ⟨h, fun j h1 h2 => ?_⟩
    have := congrArg (fun l => l[j - p]?) e
    simp only [List.getElem?_take, List.getElem?_drop] at this
    rw [if_pos (by omega), if_pos (by omega), show a + p + (j - p) = a + j from by omega] at this
    rw [← this]
    congr 1
    omega
  · intro e
    refine List.ext_getElem? fun i => ?_
    simp only [List.getElem?_take, List.getElem?_drop]
    by_cases hi : i < p
    · rw [if_pos hi, if_pos hi]
      have := e.2 (p + i) (by omega) (by omega)
      rw [show a + p + i = a + (p + i) from by omega, this]
      congr 1
      omega
    · rw [if_neg hi, if_neg hi]
/-- The squares at a place with periods up to k; at the places before k. -/
def sqI (u : List Int) (a : Nat) : Nat → List Sqr
  | 0 => []
  | k + 1 => sqI u a k ++ if sqAt u a (k + 1) then [(a, k + 1)] else []
def sqU (u : List Int) : Nat → List Sqr
  | 0 => []
  | a + 1 => sqU u a ++ sqI u a ((u.length - a) / 2)
def sqV (u : List Int) : List Sqr := if u.length ≤ 64 then sqU u u.length else []
theorem sqI_yes {u : List Int} {a k : Nat} (h : sqAt u a (k + 1) = true) : sqI u a (k + 1) = sqI u a k ++ [(a, k + 1)] := by simp [sqI, h]
theorem sqI_no {u : List Int} {a k : Nat} (h : sqAt u a (k + 1) = false) : sqI u a (k + 1) = sqI u a k := by simp [sqI, h]
theorem sqI_len (u : List Int) (a : Nat) : ∀ k, (sqI u a k).length ≤ k := fun k => by
  induction k with
  | zero => exact Nat.le_refl _
  | succ k ih =>
    cases h : sqAt u a (k + 1) with
    | true => rw [sqI_yes h]; simp; omega
    | false => rw [sqI_no h]; omega
theorem sqU_len (u : List Int) : ∀ a, (sqU u a).length ≤ a * u.length := fun a => by
  induction a with
  | zero => exact Nat.zero_le _
  | succ a ih =>
    show (sqU u a ++ sqI u a ((u.length - a) / 2)).length ≤ _
    have := sqI_len u a ((u.length - a) / 2)
    rw [List.length_append, Nat.succ_mul]
    omega
theorem sqV_len (u : List Int) : (sqV u).length ≤ 4096 := by
  unfold sqV
  split
  · have h1 := sqU_len u u.length
    have h2 : u.length * u.length ≤ 64 * 64 := Nat.mul_le_mul (by assumption) (by assumption)
    omega
  · exact Nat.zero_le _
theorem sqI_mem {u : List Int} {a : Nat} {s : Sqr} : ∀ {k}, s ∈ sqI u a k ↔ s.1 = a ∧ 0 < s.2 ∧ s.2 ≤ k ∧ sqAt u s.1 s.2 = true := fun {k} => by
  induction k with
  | zero =>
    constructor
    · intro h; cases h
    · rintro ⟨_, h1, h2, _⟩; omega
  | succ k ih =>
    cases h : sqAt u a (k + 1) with
    | true =>
      rw [sqI_yes h, List.mem_append, ih, List.mem_singleton]
      constructor
      · rintro (⟨h1, h2, h3, h4⟩ | rfl)
        · exact ⟨h1, h2, by omega, h4⟩
        · exact ⟨rfl, Nat.succ_pos _, Nat.le_refl _, h⟩
      · rintro ⟨h1, h2, h3, h4⟩
        by_cases e : s.2 = k + 1
        · exact .inr (Prod.ext h1 e)
        · exact .inl ⟨h1, h2, by omega, h4⟩
    | false =>
      rw [sqI_no h, ih]
      constructor
      · rintro ⟨h1, h2, h3, h4⟩
        exact ⟨h1, h2, by omega, h4⟩
      · rintro ⟨h1, h2, h3, h4⟩
        refine ⟨h1, h2, ?_, h4⟩
        by_cases e : s.2 = k + 1
        · rw [h1, e, h] at h4; cases h4
        · omega
theorem sqU_mem {u : List Int} {s : Sqr} : ∀ {a}, a ≤ u.length → (s ∈ sqU u a ↔ s.1 < a ∧ 0 < s.2 ∧ s.1 + 2 * s.2 ≤ u.length ∧ sqAt u s.1 s.2 = true) := fun {a} => by
  induction a with
  | zero =>
    intro _
    constructor
    · intro h; cases h
    · rintro ⟨h1, _⟩; omega
  | succ a ih =>
    intro ha
    show s ∈ sqU u a ++ sqI u a ((u.length - a) / 2) ↔ _
    rw [List.mem_append, ih (by omega), sqI_mem]
    constructor
    · rintro (⟨h1, h2, h3, h4⟩ | ⟨h1, h2, h3, h4⟩)
      · exact ⟨by omega, h2, h3, h4⟩
      · exact ⟨by omega, h2, by omega, h4⟩
    · rintro ⟨h1, h2, h3, h4⟩
      by_cases e : s.1 = a
      · exact .inr ⟨e, h2, by omega, h4⟩
      · exact .inl ⟨by omega, h2, h3, h4⟩
theorem sqV_mem {u : List Int} {s : Sqr} (h : u.length ≤ 64) : s ∈ sqV u ↔ 0 < s.2 ∧ s.1 + 2 * s.2 ≤ u.length ∧ sqAt u s.1 s.2 = true := by
  unfold sqV
  rw [if_pos h, sqU_mem (Nat.le_refl _)]
  exact ⟨fun h => h.2, fun h => ⟨by omega, h⟩⟩
theorem sqV_fit {u : List Int} {s : Sqr} (h : s ∈ sqV u) : 0 < s.2 ∧ s.1 + 2 * s.2 ≤ u.length ∧ u.length ≤ 64 := by
  by_cases hl : u.length ≤ 64
  · have := (sqV_mem hl).1 h
    exact ⟨this.1, this.2.1, hl⟩
  · simp [sqV, hl] at h
theorem sqV_out {u : List Int} (h : ¬ u.length ≤ 64) : sqV u = [] := by simp [sqV, h]
theorem sqV_in {u : List Int} (h : u.length ≤ 64) : sqV u = sqU u u.length := by simp [sqV, h]
/-- The first of the squares with the least period. -/
def mnF (e : Sqr) : List Sqr → Sqr
  | [] => e
  | f :: l => mnF (if f.2 < e.2 then f else e) l
def mnE : List Sqr → Sqr
  | [] => (0, 0)
  | e :: l => mnF e l
theorem mnF_snoc : ∀ (l : List Sqr) (e f : Sqr), mnF e (l ++ [f]) = if f.2 < (mnF e l).2 then f else mnF e l
  | [], e, f => rfl
  | g :: l, e, f => by
    show mnF _ (l ++ [f]) = _
    rw [mnF_snoc l]
    rfl
theorem mnE_snoc {l : List Sqr} {f : Sqr} (h : l ≠ []) : mnE (l ++ [f]) = if f.2 < (mnE l).2 then f else mnE l := by
  cases l with
  | nil => exact absurd rfl h
  | cons e l => exact mnF_snoc l e f
/-- The parts of the squares. -/
def sqW (u : List Int) (l : List Sqr) : List (List Int) := l.map fun s => (u.drop s.1).take (2 * s.2)
/-- How many different ones there are. -/
def dsq (u : List Int) : Nat := (sdl (sqW u (sqV u))).length
theorem dsq_le (u : List Int) : dsq u ≤ 4096 := by
  have h1 := sdl_len (sqW u (sqV u))
  have h2 := sqV_len u
  unfold dsq
  rw [sqW, List.length_map] at h1
  unfold sqW
  omega
/-- Euclid's algorithm. -/
theorem gcd_step {a b : Nat} : Nat.gcd b (a % b) = Nat.gcd a b := by
  rw [Nat.gcd_comm a b, Nat.gcd_rec b a, Nat.gcd_comm]
end Go.Proofs.YtfpdikohlafpiaaGreat.Plain
/- A word of n letters has at most n different squares (by the circuits of its graphs of factors): plain facts. No conditions beyond those that each fact states. -/
namespace Go.Proofs.YtfpdikohlafpiaaGreat.Plain
set_option linter.unusedSimpArgs false
set_option linter.unusedVariables false
/-- Different elements that all stand in a list are no more than it has. -/
theorem len_le {α : Type} [DecidableEq α] : ∀ (l m : List α), l.Nodup → (∀ x ∈ l, x ∈ m) → l.length ≤ m.length
  | [], m, _, _ => Nat.zero_le _
  | x :: l, m, hn, hs => by
    have hx := hs x (by simp)
    have h1 := List.nodup_cons.1 hn
    have ih := len_le l (m.erase x) h1.2 fun y hy => by
      have hne : y ≠ x := fun e => h1.1 (e ▸ hy)
      exact (List.mem_erase_of_ne hne).2 (hs y (by simp [hy]))
    have h2 := List.length_erase_of_mem hx
    have h3 : 0 < m.length := List.length_pos_of_mem hx
    rw [List.length_cons]
    omega
theorem nodup_filter {α : Type} {l : List α} (p : α → Bool) (h : l.Nodup) : (l.filter p).Nodup := List.Pairwise.filter p h
theorem nodup_map {α β : Type} {l : List α} {f : α → β} (h : l.Nodup) (hf : ∀ x ∈ l, ∀ y ∈ l, f x = f y → x = y) : (l.map f).Nodup := by
  induction l with
  | nil => exact List.nodup_nil
  | cons a l ih =>
    have h1 := List.nodup_cons.1 h
    rw [List.map_cons, List.nodup_cons]
    refine ⟨fun hm => ?_, ih h1.2 fun x hx y hy => hf x (by simp [hx]) y (by simp [hy])⟩
    obtain ⟨y, hy, he⟩ := List.mem_map.1 hm
    have := hf y (by simp [hy]) a (by simp) he
    exact h1.1 (this ▸ hy)
theorem sd_nodup {l : List (List Int)} (h : SD l) : l.Nodup := List.Pairwise.imp (fun {u v} h e => by rw [e, cmpW_self] at h; omega) h
/-- A naming of vertices that joins the ends of each edge of a list gives at least as many names as there are vertices, less the edges. -/
theorem join {α : Type} [DecidableEq α] (F : List (α × α)) : ∃ c : α → α, (∀ p ∈ F, c p.1 = c p.2) ∧ ∀ V : List α, V.Nodup → ∃ M : List α, M.Nodup ∧ (∀ x ∈ M, ∃ v ∈ V, c v = x) ∧ V.length ≤ M.length + F.length := by
  induction F with
  | nil => exact ⟨id, (fun p h => by cases h), fun V hV => ⟨V, hV, fun x hx => ⟨x, hx, rfl⟩, by simp⟩⟩
  | cons q F ih =>
    obtain ⟨c, h1, h2⟩ := ih
    refine ⟨fun v => if c v = c q.1 then c q.2 else c v, fun p hp => ?_, fun V hV => ?_⟩
    · rcases List.mem_cons.1 hp with rfl | hp
      · by_cases e : c p.2 = c p.1
        · simp [e]
        · simp [e]
      · have := h1 p hp
        simp only [this]
    · obtain ⟨M, m1, m2, m3⟩ := h2 V hV
      refine ⟨M.filter fun x => decide (x ≠ c q.1), nodup_filter _ m1, fun x hx => ?_, ?_⟩
      · obtain ⟨hx1, hx2⟩ := List.mem_filter.1 hx
        obtain ⟨v, hv, rfl⟩ := m2 x hx1
        refine ⟨v, hv, if_neg ?_⟩
        simpa using hx2
      · have h5 := len_le M (c q.1 :: M.filter fun x => decide (x ≠ c q.1)) m1 fun x hx => by
          by_cases e : x = c q.1
          · simp [e]
          · exact List.mem_cons_of_mem _ (List.mem_filter.2 ⟨hx, by simpa using e⟩)
        rw [List.length_cons] at h5 ⊢
        omega
/-- The letters of a word repeated for ever; its parts. -/
def cy (l : List Int) (i : Nat) : Int := l.getD (i % l.length) 0
def pw (l : List Int) (o m : Nat) : List Int := (List.range m).map fun i => cy l (o + i)
theorem pw_len (l : List Int) (o m : Nat) : (pw l o m).length = m := by simp [pw]
theorem pw_get {l : List Int} {o m i : Nat} (h : i < m) : (pw l o m)[i]? = some (cy l (o + i)) := by simp [pw, h]
theorem pw_ext {l : List Int} {o m : Nat} {x : List Int} (hl : x.length = m) (h : ∀ i, i < m → x[i]? = some (cy l (o + i))) : x = pw l o m := by
  refine List.ext_getElem? fun i => ?_
  by_cases hi : i < m
  · rw [h i hi, pw_get hi]
  · rw [List.getElem?_eq_none (by omega), List.getElem?_eq_none (by rw [pw_len]; omega)]
theorem cy_add (l : List Int) (i : Nat) : cy l (i + l.length) = cy l i := by simp [cy]
theorem pw_shift (l : List Int) (o m : Nat) : pw l (o + l.length) m = pw l o m := by
  refine (pw_ext (pw_len _ _ _) fun i hi => ?_).symm
  rw [pw_get hi, show o + l.length + i = o + i + l.length from by omega, cy_add]
theorem pw_take {l : List Int} {o m n : Nat} (h : n ≤ m) : (pw l o m).take n = pw l o n := by
  refine pw_ext (by rw [List.length_take, pw_len]; omega) fun i hi => ?_
  rw [List.getElem?_take, if_pos hi, pw_get (by omega)]
theorem pw_drop {l : List Int} {o m d : Nat} : (pw l o m).drop d = pw l (o + d) (m - d) := by
  refine pw_ext (by rw [List.length_drop, pw_len]) fun i hi => ?_
  rw [List.getElem?_drop, pw_get (by omega), Nat.add_assoc]
theorem pw_self (l : List Int) : pw l 0 l.length = l := by
  refine (pw_ext rfl fun i hi => ?_).symm
  rw [Nat.zero_add, cy, Nat.mod_eq_of_lt hi, List.getD_eq_getElem?_getD, List.getElem?_eq_getElem hi]
  rfl
theorem cy_pw {l : List Int} {d k : Nat} (hk : l.length = k) (h : 0 < k) (i : Nat) : cy (pw l d k) i = cy l (d + i) := by
  have hm : i % k < k := Nat.mod_lt _ h
  unfold cy
  rw [pw_len, List.getD_eq_getElem?_getD, pw_get hm]
  show cy l (d + i % k) = l.getD ((d + i) % l.length) 0
  unfold cy
  rw [hk, Nat.add_mod_mod]
theorem pw_pw {l : List Int} {d k o m : Nat} (hk : l.length = k) (h : 0 < k) : pw (pw l d k) o m = pw l (d + o) m := by
  refine pw_ext (pw_len _ _ _) fun i hi => ?_
  rw [pw_get hi, cy_pw hk h, Nat.add_assoc]
/-- No turn of the word but a whole one gives it back; it is the first of its turns. -/
def Prim (l : List Int) : Prop := 0 < l.length ∧ ∀ d, 0 < d → d < l.length → pw l d l.length ≠ l
def Lst (l : List Int) : Prop := ∀ d, cmpW l (pw l d l.length) ≤ 0
theorem cmpW_pre (x y z : List Int) : cmpW (x ++ y) (x ++ z) = cmpW y z := by
  induction x with
  | nil => rfl
  | cons a x ih => simp [cmpW, ih]
theorem cmpW_suf : ∀ (z y x : List Int), z.length = y.length → cmpW (z ++ x) (y ++ x) = cmpW z y
  | [], [], x, _ => by simp [cmpW, cmpW_self]
  | a :: z, b :: y, x, h => by
    have ih := cmpW_suf z y x (by simpa using h)
    simp [cmpW, ih]
  | [], _ :: _, _, h => by simp at h
  | _ :: _, [], _, h => by simp at h
theorem pw_turn {l : List Int} {d : Nat} (h : d ≤ l.length) : pw l d l.length = l.drop d ++ l.take d := by
  refine (pw_ext (by simp; omega) fun i hi => ?_).symm
  by_cases e : d + i < l.length
  · rw [List.getElem?_append_left (by rw [List.length_drop]; omega), List.getElem?_drop, cy, Nat.mod_eq_of_lt e, List.getD_eq_getElem?_getD, List.getElem?_eq_getElem e]
    rfl
  · have e2 : (d + i) % l.length = d + i - l.length := by rw [Nat.mod_eq_sub_mod (by omega), Nat.mod_eq_of_lt (by omega)]
    rw [List.getElem?_append_right (by rw [List.length_drop]; omega), List.length_drop, List.getElem?_take, if_pos (by omega), cy, e2, List.getD_eq_getElem?_getD, show i - (l.length - d) = d + i - l.length from by omega, List.getElem?_eq_getElem (by omega)]
    rfl
/-- Such a word has no period less than its length. -/
theorem unb {l : List Int} (hp : Prim l) (hl : Lst l) {p : Nat} (h0 : 0 < p) (h1 : p < l.length) : ¬ ∀ i, i + p < l.length → l[i + p]? = l[i]? := by
  intro h
  have hx : l.drop p = l.take (l.length - p) := by
    refine List.ext_getElem? fun i => ?_
    rw [List.getElem?_drop, List.getElem?_take]
    by_cases hi : i < l.length - p
    · rw [if_pos hi, Nat.add_comm, h i (by omega)]
    · rw [if_neg hi, List.getElem?_eq_none (by omega)]
  have e1 := List.take_append_drop (l.length - p) l
  have e2 := List.take_append_drop p l
  have t1 := pw_turn (l := l) (d := p) (by omega)
  have t2 := pw_turn (l := l) (d := l.length - p) (by omega)
  have l1 := hl p
  have l2 := hl (l.length - p)
  rw [t1, hx] at l1
  rw [t2] at l2
  rw [hx] at e2
  have hne := hp.2 (l.length - p) (by omega) (by omega)
  rw [t2] at hne
  have hly : (l.drop (l.length - p)).length = p := by rw [List.length_drop]; omega
  have hlz : (l.take p).length = p := by rw [List.length_take]; omega
  generalize l.take (l.length - p) = x at *
  generalize l.drop (l.length - p) = y at *
  generalize l.take p = z at *
  have c1 : cmpW y z ≤ 0 := by
    have : cmpW l (x ++ z) = cmpW y z := by rw [← e1, cmpW_pre]
    omega
  have c2 : cmpW z y ≤ 0 := by
    have : cmpW l (y ++ x) = cmpW z y := by rw [← e2, cmpW_suf _ _ _ (by omega)]
    omega
  have c3 := cmpW_neg y z
  have hyz := cmpW_zero y z (by omega)
  subst hyz
  exact hne e2
theorem exists_least (q : List Int) (h : Prim q) : ∃ a, a < q.length ∧ Prim (pw q a q.length) ∧ Lst (pw q a q.length) := by
  have hne : sdl ((List.range q.length).map fun d => pw q d q.length) ≠ [] := fun e => by
    have := (sdl_mem ((List.range q.length).map fun d => pw q d q.length) (pw q 0 q.length)).2 (List.mem_map.2 ⟨0, List.mem_range.2 h.1, rfl⟩)
    rw [e] at this
    cases this
  have hsd := sdl_sd ((List.range q.length).map fun d => pw q d q.length)
  cases hs : sdl ((List.range q.length).map fun d => pw q d q.length) with
  | nil => exact absurd hs hne
  | cons r l =>
    have hr : r ∈ (List.range q.length).map fun d => pw q d q.length := (sdl_mem _ _).1 (by rw [hs]; simp)
    obtain ⟨a, ha, rfl⟩ := List.mem_map.1 hr
    have hal := List.mem_range.1 ha
    have hk := h.1
    refine ⟨a, hal, ⟨by rw [pw_len]; exact hk, fun d h1 h2 e => ?_⟩, fun d => ?_⟩
    · rw [pw_len] at h2 e
      rw [pw_pw rfl hk] at e
      refine h.2 d h1 h2 ?_
      have e3 : pw (pw q a q.length) (q.length - a + d) q.length = pw (pw q a q.length) (q.length - a) q.length := by
        rw [pw_pw rfl hk, pw_pw rfl hk]
        refine pw_ext (pw_len _ _ _) fun i hi => ?_
        rw [pw_get hi]
        have h5 := congrArg (fun x => cy x (q.length - a + i)) e
        rw [cy_pw rfl hk, cy_pw rfl hk] at h5
        rw [show a + (q.length - a + d) + i = a + d + (q.length - a + i) from by omega, h5, show a + (q.length - a) + i = a + (q.length - a + i) from by omega]
      rw [pw_pw rfl hk, pw_pw rfl hk, show a + (q.length - a + d) = d + q.length from by omega, show a + (q.length - a) = 0 + q.length from by omega, pw_shift, pw_shift, pw_self] at e3
      exact e3
    · rw [pw_len, pw_pw rfl hk]
      have hmod : pw q (a + d) q.length = pw q ((a + d) % q.length) q.length := by
        refine pw_ext (pw_len _ _ _) fun i hi => ?_
        rw [pw_get hi]
        unfold cy
        rw [Nat.mod_add_mod]
      have hin : pw q ((a + d) % q.length) q.length ∈ (List.range q.length).map fun d => pw q d q.length := List.mem_map.2 ⟨_, List.mem_range.2 (Nat.mod_lt _ hk), rfl⟩
      rw [hmod]
      have h6 := (sdl_mem _ _).2 hin
      rw [hs] at h6 hsd
      rcases List.mem_cons.1 h6 with h7 | h7
      · rw [h7, cmpW_self]; omega
      · have := (List.pairwise_cons.1 hsd).1 _ h7
        omega
/-- A square as a part of a word repeated for ever, that word the first of its turns. -/
def SqOf (s l : List Int) (o i : Nat) : Prop := Prim l ∧ Lst l ∧ o < l.length ∧ 0 < i ∧ s = pw l o (2 * (i * l.length))
theorem sq_of {t : List Int} (h : 0 < t.length) : ∃ l o i, SqOf (t ++ t) l o i := by
  -- the least turn that gives t back
  have hex : ∃ d, 0 < d ∧ d ≤ t.length ∧ (∀ i, cy t (i + d) = cy t i) ∧ ∀ e, 0 < e → (∀ i, cy t (i + e) = cy t i) → d ≤ e := by
    have key : ∀ n d, d ≤ n → 0 < d → (∀ i, cy t (i + d) = cy t i) → ∃ d', 0 < d' ∧ d' ≤ d ∧ (∀ i, cy t (i + d') = cy t i) ∧ ∀ e, 0 < e → (∀ i, cy t (i + e) = cy t i) → d' ≤ e := fun n => by
      induction n with
      | zero => intro d h1 h2; omega
      | succ n ih =>
        intro d h1 h2 h3
        by_cases hc : ∃ e, 0 < e ∧ e < d ∧ ∀ i, cy t (i + e) = cy t i
        · obtain ⟨e, e1, e2, e3⟩ := hc
          obtain ⟨d', a1, a2, a3, a4⟩ := ih e (by omega) e1 e3
          exact ⟨d', a1, by omega, a3, a4⟩
        · exact ⟨d, h2, Nat.le_refl _, h3, fun e e1 e2 => Nat.le_of_not_lt fun hlt => hc ⟨e, e1, hlt, e2⟩⟩
    exact key t.length t.length (Nat.le_refl _) h (cy_add t)
  obtain ⟨d, hd0, hdl, hper, hmin⟩ := hex
  have hmul : ∀ m i, cy t (i + m * d) = cy t i := fun m => by
    induction m with
    | zero => intro i; simp
    | succ m ih => intro i; rw [Nat.succ_mul, ← Nat.add_assoc, hper, ih]
  have hdvd : t.length % d = 0 := by
    refine Nat.eq_zero_of_not_pos fun hpos => ?_
    have := hmin (t.length % d) hpos fun i => by
      rw [← hmul (t.length / d) (i + t.length % d), show i + t.length % d + t.length / d * d = i + t.length from by have := Nat.mod_add_div t.length d; rw [Nat.mul_comm] at this; omega, cy_add]
    have := Nat.mod_lt t.length hd0
    omega
  have hql : (t.take d).length = d := by rw [List.length_take]; omega
  have hcy : ∀ i, cy (t.take d) i = cy t i := fun i => by
    have h1 : i % d < d := Nat.mod_lt _ hd0
    have h2 := hmul (i / d) (i % d)
    rw [show i % d + i / d * d = i from by have := Nat.mod_add_div i d; rw [Nat.mul_comm] at this; omega] at h2
    rw [h2]
    unfold cy
    rw [hql, Nat.mod_eq_of_lt (show i % d < t.length by omega), List.getD_eq_getElem?_getD, List.getD_eq_getElem?_getD, List.getElem?_take, if_pos h1]
  have hprim : Prim (t.take d) := ⟨by omega, fun e e1 e2 h5 => by
    rw [hql] at e2
    have := hmin e e1 fun i => by
      have h6 := congrArg (fun x => cy x i) h5
      rw [cy_pw rfl (by omega), hcy, hcy] at h6
      rw [Nat.add_comm]
      exact h6
    omega⟩
  obtain ⟨a, ha, hp2, hl2⟩ := exists_least _ hprim
  rw [hql] at ha hp2 hl2
  refine ⟨pw (t.take d) a d, (d - a) % d, t.length / d, hp2, hl2, by rw [pw_len]; exact Nat.mod_lt _ hd0, Nat.div_pos hdl hd0, ?_⟩
  have hPd : t.length / d * d = t.length := by have := Nat.mod_add_div t.length d; rw [Nat.mul_comm] at this; omega
  rw [pw_len, hPd]
  refine pw_ext (by rw [List.length_append]; omega) fun i hi => ?_
  have hc : cy (pw (t.take d) a d) ((d - a) % d + i) = cy t i := by
    rw [cy_pw hql hd0, hcy]
    by_cases h0 : a = 0
    · subst h0
      rw [Nat.sub_zero, Nat.mod_self]
      congr 1
      omega
    · rw [Nat.mod_eq_of_lt (by omega), show a + (d - a + i) = i + d from by omega, hper]
  rw [hc]
  by_cases hlt : i < t.length
  · rw [List.getElem?_append_left hlt, cy, Nat.mod_eq_of_lt hlt, List.getD_eq_getElem?_getD, List.getElem?_eq_getElem hlt]
    rfl
  · rw [List.getElem?_append_right (by omega), cy, Nat.mod_eq_sub_mod (by omega), Nat.mod_eq_of_lt (by omega), List.getD_eq_getElem?_getD, List.getElem?_eq_getElem (by omega)]
    rfl

/-- The parts of n letters. -/
def wn (u : List Int) (n : Nat) : List (List Int) := (List.range (u.length + 1 - n)).map fun i => (u.drop i).take n
theorem wn_mem {u : List Int} {n : Nat} {x : List Int} : x ∈ wn u n ↔ ∃ i, i + n ≤ u.length ∧ x = (u.drop i).take n ∨ (i < u.length + 1 - n ∧ x = (u.drop i).take n) := by
  unfold wn
  rw [List.mem_map]
  constructor
  · rintro ⟨i, hi, rfl⟩
    exact ⟨i, .inr ⟨List.mem_range.1 hi, rfl⟩⟩
  · rintro ⟨i, ⟨h, rfl⟩ | ⟨h, rfl⟩⟩
    · exact ⟨i, List.mem_range.2 (by omega), rfl⟩
    · exact ⟨i, List.mem_range.2 h, rfl⟩
theorem wn_in {u : List Int} {n i : Nat} (h : i + n ≤ u.length) : (u.drop i).take n ∈ wn u n := wn_mem.2 ⟨i, .inl ⟨h, rfl⟩⟩
theorem wn_at {u : List Int} {n : Nat} {x : List Int} (hn : n ≤ u.length) (h : x ∈ wn u n) : ∃ i, i + n ≤ u.length ∧ x = (u.drop i).take n := by
  obtain ⟨i, h1 | h1⟩ := wn_mem.1 h
  · exact ⟨i, h1⟩
  · exact ⟨i, by omega, h1.2⟩
/-- What is known of a list of squares of a word: its words are different parts of it, each a part of its first turn repeated. -/
structure Sqs (u : List Int) (S : List (List Int)) (lam : List Int → List Int) (off ex : List Int → Nat) : Prop where
  nd : S.Nodup
  part : ∀ s ∈ S, ∃ a, a + s.length ≤ u.length ∧ s = (u.drop a).take s.length
  form : ∀ s ∈ S, SqOf s (lam s) (off s) (ex s)
section
variable {u : List Int} {S : List (List Int)} {lam : List Int → List Int} {off ex : List Int → Nat}
/-- The same turns, a lesser length; the same length, earlier in the order of words. -/
def lesser (lam : List Int → List Int) (s t : List Int) : Bool := decide (lam t = lam s) && decide (t.length < s.length)
def equalB (lam : List Int → List Int) (s t : List Int) : Bool := decide (lam t = lam s) && decide (t.length = s.length ∧ cmpW t s < 0)
def bef (lam : List Int → List Int) (s t : List Int) : Bool := lesser lam s t || equalB lam s t
def rank (lam : List Int → List Int) (S : List (List Int)) (s : List Int) : Nat := (S.filter (bef lam s)).length
def lev (lam : List Int → List Int) (S : List (List Int)) (s : List Int) : Nat := (lam s).length + rank lam S s
theorem bef_iff {s t : List Int} : bef lam s t = true ↔ lam t = lam s ∧ (t.length < s.length ∨ t.length = s.length ∧ cmpW t s < 0) := by
  simp only [bef, lesser, equalB, Bool.or_eq_true, Bool.and_eq_true, decide_eq_true_eq]
  constructor
  · rintro (⟨h1, h2⟩ | ⟨h1, h2⟩)
    · exact ⟨h1, .inl h2⟩
    · exact ⟨h1, .inr h2⟩
  · rintro ⟨h1, h2 | h2⟩
    · exact .inl ⟨h1, h2⟩
    · exact .inr ⟨h1, h2⟩
theorem rank_lt {s t : List Int} (hn : S.Nodup) (ht : t ∈ S) (h : bef lam s t = true) : rank lam S t < rank lam S s := by
  have h0 := bef_iff.1 h
  have h1 := len_le (t :: S.filter (bef lam t)) (S.filter (bef lam s)) (List.nodup_cons.2 ⟨fun hm => ?_, nodup_filter _ hn⟩) fun x hx => ?_
  · rw [List.length_cons] at h1
    unfold rank
    omega
  · have := bef_iff.1 (List.mem_filter.1 hm).2
    rw [cmpW_self] at this
    omega
  · rcases List.mem_cons.1 hx with rfl | hx
    · exact List.mem_filter.2 ⟨ht, h⟩
    · obtain ⟨hx1, hx2⟩ := List.mem_filter.1 hx
      have h2 := bef_iff.1 hx2
      refine List.mem_filter.2 ⟨hx1, bef_iff.2 ⟨h2.1.trans h0.1, ?_⟩⟩
      rcases h2.2 with h3 | h3 <;> rcases h0.2 with h4 | h4
      · exact .inl (by omega)
      · exact .inl (by omega)
      · exact .inl (by omega)
      · exact .inr ⟨by omega, cmpW_trans _ _ _ h3.2 h4.2⟩
theorem rank_inj {s t : List Int} (hn : S.Nodup) (hs : s ∈ S) (ht : t ∈ S) (hl : lam s = lam t) (h : rank lam S s = rank lam S t) : s = t := by
  by_cases h1 : s.length < t.length
  · have := rank_lt (lam := lam) (s := t) hn hs (bef_iff.2 ⟨hl, .inl h1⟩); omega
  · by_cases h2 : t.length < s.length
    · have := rank_lt (lam := lam) (s := s) hn ht (bef_iff.2 ⟨hl.symm, .inl h2⟩); omega
    · rcases cmpW_three s t with h3 | h3 | h3
      · have := rank_lt (lam := lam) (s := t) hn hs (bef_iff.2 ⟨hl, .inr ⟨by omega, by omega⟩⟩); omega
      · exact cmpW_zero _ _ h3
      · have h4 := cmpW_neg s t
        have := rank_lt (lam := lam) (s := s) hn ht (bef_iff.2 ⟨hl.symm, .inr ⟨by omega, by omega⟩⟩); omega
/-- All squares of a turn with an exponent up to twice j. -/
def allSq (l : List Int) : Nat → List (List Int)
  | 0 => []
  | j + 1 => allSq l j ++ (List.range l.length).map fun o => pw l o (2 * ((j + 1) * l.length))
theorem allSq_len (l : List Int) : ∀ j, (allSq l j).length = j * l.length := fun j => by
  induction j with
  | zero => simp [allSq]
  | succ j ih => rw [allSq, List.length_append, ih, List.length_map, List.length_range, Nat.succ_mul]
theorem allSq_in {l : List Int} {o i : Nat} (h0 : 0 < i) (ho : o < l.length) : ∀ j, i ≤ j → pw l o (2 * (i * l.length)) ∈ allSq l j := fun j => by
  induction j with
  | zero => intro h; omega
  | succ j ih =>
    intro h
    rw [allSq, List.mem_append]
    by_cases e : i = j + 1
    · subst e
      exact .inr (List.mem_map.2 ⟨o, List.mem_range.2 ho, rfl⟩)
    · exact .inl (ih (by omega))
theorem sq_length (h : Sqs u S lam off ex) {s : List Int} (hs : s ∈ S) : s.length = 2 * (ex s * (lam s).length) := by
  have := (h.form s hs).2.2.2.2
  have h2 := congrArg List.length this
  rw [pw_len] at h2
  exact h2
theorem lesser_len (h : Sqs u S lam off ex) {s : List Int} (hs : s ∈ S) : (S.filter (lesser lam s)).length ≤ (ex s - 1) * (lam s).length := by
  rw [← allSq_len]
  refine len_le _ _ (nodup_filter _ h.nd) fun t ht => ?_
  obtain ⟨h1, h2⟩ := List.mem_filter.1 ht
  simp only [lesser, Bool.and_eq_true, decide_eq_true_eq] at h2
  obtain ⟨h3, h4⟩ := h2
  have h5 := h.form t h1
  have h6 := sq_length h h1
  have h7 := sq_length h hs
  rw [h3] at h5 h6
  have hlt : ex t < ex s := by
    refine Nat.lt_of_mul_lt_mul_right (a := (lam s).length) ?_
    omega
  rw [h5.2.2.2.2]
  exact allSq_in h5.2.2.2.1 h5.2.2.1 _ (by omega)
theorem rank_le (h : Sqs u S lam off ex) {s : List Int} (hs : s ∈ S) : rank lam S s ≤ (ex s - 1) * (lam s).length + (S.filter (equalB lam s)).length := by
  have h1 := len_le (S.filter (bef lam s)) (S.filter (lesser lam s) ++ S.filter (equalB lam s)) (nodup_filter _ h.nd) fun x hx => by
    obtain ⟨h2, h3⟩ := List.mem_filter.1 hx
    rw [bef, Bool.or_eq_true] at h3
    rw [List.mem_append]
    rcases h3 with h3 | h3
    · exact .inl (List.mem_filter.2 ⟨h2, h3⟩)
    · exact .inr (List.mem_filter.2 ⟨h2, h3⟩)
  rw [List.length_append] at h1
  have := lesser_len h hs
  unfold rank
  omega
/-- How far one place lies behind another one, round the turn. -/
def gap (k o a : Nat) : Nat := if a ≤ o then o - a else o + k - a
/-- One of the squares of this length begins close enough. -/
theorem near (h : Sqs u S lam off ex) {s : List Int} (hs : s ∈ S) {o : Nat} (ho : o < (lam s).length) : ∃ t ∈ S, lam t = lam s ∧ t.length = s.length ∧ gap (lam s).length o (off t) + (S.filter (equalB lam s)).length + 1 ≤ (lam s).length := by
  refine Classical.byContradiction fun hno => ?_
  have hfar : ∀ t ∈ S, lam t = lam s → t.length = s.length → (lam s).length < gap (lam s).length o (off t) + (S.filter (equalB lam s)).length + 1 := fun t h1 h2 h3 => Nat.lt_of_not_le fun h4 => hno ⟨t, h1, h2, h3, h4⟩
  have hall : ∀ t ∈ s :: S.filter (equalB lam s), t ∈ S ∧ lam t = lam s ∧ t.length = s.length := fun t ht => by
    rcases List.mem_cons.1 ht with rfl | ht
    · exact ⟨hs, rfl, rfl⟩
    · obtain ⟨h1, h2⟩ := List.mem_filter.1 ht
      simp only [equalB, Bool.and_eq_true, decide_eq_true_eq] at h2
      exact ⟨h1, h2.1, h2.2.1⟩
  have hnd : (s :: S.filter (equalB lam s)).Nodup := List.nodup_cons.2 ⟨fun hm => by
    have := (List.mem_filter.1 hm).2
    simp [equalB, cmpW_self] at this, nodup_filter _ h.nd⟩
  obtain ⟨T, hT⟩ : ∃ T, T = (S.filter (equalB lam s)).length := ⟨_, rfl⟩
  obtain ⟨k, hk⟩ : ∃ k, k = (lam s).length := ⟨_, rfl⟩
  rw [← hT, ← hk] at hfar
  rw [← hk] at ho
  have h5 := len_le (s :: S.filter (equalB lam s)) ((List.range T).map fun j => pw (lam s) (o + (T - j)) s.length) hnd fun t ht => by
    obtain ⟨h1, h2, h3⟩ := hall t ht
    have h6 := hfar t h1 h2 h3
    have h7 := h.form t h1
    have h8 := sq_length h h1
    rw [h2] at h7
    rw [h2, ← hk] at h8
    have hof : off t < k := by have := h7.2.2.1; omega
    have hg : gap k o (off t) < k := by unfold gap; split <;> omega
    have h9 : t = pw (lam s) (off t) s.length := by
      have h10 := h7.2.2.2.2
      rw [← hk, ← h8, h3] at h10
      exact h10
    refine List.mem_map.2 ⟨gap k o (off t) + T - k, List.mem_range.2 (by omega), ?_⟩
    refine Eq.trans ?_ h9.symm
    rw [show T - (gap k o (off t) + T - k) = k - gap k o (off t) from by omega]
    unfold gap
    by_cases e : off t ≤ o
    · rw [if_pos e, show o + (k - (o - off t)) = off t + (lam s).length from by omega, pw_shift]
    · rw [if_neg e, show o + (k - (o + k - off t)) = off t from by omega]
  rw [List.length_cons, List.length_map, List.length_range, ← hT] at h5
  omega
/-- All parts of n + 1 letters of the turn are parts of the word, n the square's level. -/
theorem full (h : Sqs u S lam off ex) {s : List Int} (hs : s ∈ S) {o : Nat} (ho : o < (lam s).length) : ∃ a, a + (lev lam S s + 1) ≤ u.length ∧ pw (lam s) o (lev lam S s + 1) = (u.drop a).take (lev lam S s + 1) := by
  obtain ⟨t, h1, h2, h3, h4⟩ := near h hs ho
  have h5 := rank_le h hs
  have h6 := h.form t h1
  have h7 := sq_length h hs
  have hex := (h.form s hs).2.2.2.1
  obtain ⟨a, ha, hta⟩ := h.part t h1
  have hexk : (lam s).length + (ex s - 1) * (lam s).length = ex s * (lam s).length := by
    obtain ⟨m, hm⟩ : ∃ m, ex s = m + 1 := ⟨ex s - 1, by omega⟩
    rw [hm, Nat.add_sub_cancel, Nat.succ_mul]; omega
  have hk1 : (lam s).length ≤ ex s * (lam s).length := by omega
  have hfit : gap (lam s).length o (off t) + (lev lam S s + 1) ≤ s.length := by unfold lev; omega
  have h8 : t = pw (lam s) (off t) s.length := by
    have := h6.2.2.2.2
    have h9 := sq_length h h1
    rw [← h9, h2, h3] at this
    exact this
  have hof : off t < (lam s).length := by have := h6.2.2.1; rwa [h2] at this
  refine ⟨a + gap (lam s).length o (off t), by omega, ?_⟩
  have h9 : (t.drop (gap (lam s).length o (off t))).take (lev lam S s + 1) = pw (lam s) (off t + gap (lam s).length o (off t)) (lev lam S s + 1) := by
    refine (congrArg (fun x => (x.drop (gap (lam s).length o (off t))).take (lev lam S s + 1)) h8).trans ?_
    show ((pw (lam s) (off t) s.length).drop (gap (lam s).length o (off t))).take (lev lam S s + 1) = _
    rw [pw_drop, pw_take (by omega)]
  have h10 : (t.drop (gap (lam s).length o (off t))).take (lev lam S s + 1) = (u.drop (a + gap (lam s).length o (off t))).take (lev lam S s + 1) := by
    refine (congrArg (fun x => (x.drop (gap (lam s).length o (off t))).take (lev lam S s + 1)) hta).trans ?_
    show (((u.drop a).take t.length).drop (gap (lam s).length o (off t))).take (lev lam S s + 1) = _
    rw [List.drop_take, List.drop_drop, List.take_take, Nat.min_eq_left (by omega)]
  rw [← h10, h9]
  unfold gap
  by_cases e : off t ≤ o
  · rw [if_pos e, show off t + (o - off t) = o from by omega]
  · rw [if_neg e, show off t + (o + (lam s).length - off t) = o + (lam s).length from by omega, pw_shift]
theorem lev_pos (h : Sqs u S lam off ex) {s : List Int} (hs : s ∈ S) : (lam s).length ≤ lev lam S s ∧ 0 < (lam s).length ∧ lev lam S s + 1 ≤ u.length := by
  have h1 := (h.form s hs).1.1
  obtain ⟨a, ha, _⟩ := full h hs h1
  exact ⟨by unfold lev; omega, h1, by omega⟩
/-- A part of a turn that begins with a lesser one's first turn: the other one is lesser. -/
theorem cross (h : Sqs u S lam off ex) {s t : List Int} (hs : s ∈ S) (ht : t ∈ S) {n o : Nat} (hsn : (lam s).length ≤ n) (htn : (lam t).length ≤ n) (he : pw (lam s) o (n + 1) = pw (lam t) 0 (n + 1)) : (lam t).length ≤ (lam s).length := by
  refine Nat.le_of_not_lt fun hlt => ?_
  have hT := h.form t ht
  have hS := (h.form s hs).1.1
  refine unb hT.1 hT.2.1 (p := (lam s).length) hS hlt fun i hi => ?_
  have e1 : ∀ j, j < (lam t).length → (lam t)[j]? = some (cy (lam s) (o + j)) := fun j hj => by
    have h1 := congrArg (fun x => x[j]?) he
    rw [pw_get (by omega), pw_get (by omega), Nat.zero_add] at h1
    rw [h1]
    conv => lhs; rw [← pw_self (lam t)]
    rw [pw_get hj, Nat.zero_add]
  rw [e1 _ hi, e1 i (by omega), show o + (i + (lam s).length) = o + i + (lam s).length from by omega, cy_add]
theorem same_turn (h : Sqs u S lam off ex) {s t : List Int} (hs : s ∈ S) (ht : t ∈ S) {n o : Nat} (ho : o < (lam s).length) (hsn : (lam s).length ≤ n) (htn : (lam t).length ≤ n) (he : pw (lam s) o (n + 1) = pw (lam t) 0 (n + 1)) (hk : (lam t).length = (lam s).length) : o = 0 ∧ lam s = lam t := by
  have hT := h.form t ht
  have hS := h.form s hs
  have h1 := congrArg (List.take (lam s).length) he
  rw [pw_take (by omega), pw_take (by omega)] at h1
  have h2 : pw (lam t) 0 (lam s).length = lam t := by rw [← hk, pw_self]
  rw [h2] at h1
  -- both are first among the same turns
  have c1 : cmpW (lam s) (lam t) ≤ 0 := by rw [← h1]; exact hS.2.1 o
  have c2 : cmpW (lam t) (lam s) ≤ 0 := by
    have h3 := hT.2.1 ((lam s).length - o)
    have h4 : pw (lam t) ((lam s).length - o) (lam t).length = lam s := by
      rw [hk, ← h1, pw_pw rfl hS.1.1, show o + ((lam s).length - o) = 0 + (lam s).length from by omega, pw_shift, pw_self]
    rwa [h4] at h3
  have c3 := cmpW_neg (lam s) (lam t)
  have he2 := cmpW_zero (lam s) (lam t) (by omega)
  refine ⟨Nat.eq_zero_of_not_pos fun h0 => ?_, he2⟩
  exact hS.1.2 o h0 ho (h1.trans he2.symm)
/-- The squares of one level are no more than the edges there, less the vertices, and one. -/
theorem level_le (h : Sqs u S lam off ex) {n : Nat} (hn : 1 ≤ n) (hu : n + 1 ≤ u.length) : (S.filter fun s => decide (lev lam S s = n)).length + (sdl (wn u n)).length ≤ (sdl (wn u (n + 1))).length + 1 := by
  obtain ⟨Q, hQ⟩ : ∃ Q, Q = S.filter fun s => decide (lev lam S s = n) := ⟨_, rfl⟩
  obtain ⟨E, hE⟩ : ∃ E, E = sdl (wn u (n + 1)) := ⟨_, rfl⟩
  obtain ⟨V, hV⟩ : ∃ V, V = sdl (wn u n) := ⟨_, rfl⟩
  rw [← hQ, ← hE, ← hV]
  have hQm : ∀ s, s ∈ Q ↔ s ∈ S ∧ lev lam S s = n := fun s => by rw [hQ, List.mem_filter, decide_eq_true_eq]
  have hEm : ∀ x, x ∈ E ↔ x ∈ wn u (n + 1) := fun x => by rw [hE]; exact sdl_mem _ _
  have hVm : ∀ x, x ∈ V ↔ x ∈ wn u n := fun x => by rw [hV]; exact sdl_mem _ _
  have hEn : E.Nodup := by rw [hE]; exact sd_nodup (sdl_sd _)
  have hVn : V.Nodup := by rw [hV]; exact sd_nodup (sdl_sd _)
  have hQn : Q.Nodup := by rw [hQ]; exact nodup_filter _ h.nd
  obtain ⟨R, hR⟩ : ∃ R, R = Q.map fun s => pw (lam s) 0 (n + 1) := ⟨_, rfl⟩
  have hkn : ∀ s ∈ Q, (lam s).length ≤ n ∧ 0 < (lam s).length := fun s hs => by
    obtain ⟨h1, h2⟩ := (hQm s).1 hs
    have := lev_pos h h1
    omega
  have hRn : R.Nodup := by
    rw [hR]
    refine nodup_map hQn fun s hs t ht he => ?_
    obtain ⟨s1, s2⟩ := (hQm s).1 hs
    obtain ⟨t1, t2⟩ := (hQm t).1 ht
    have ks := hkn s hs
    have kt := hkn t ht
    have l1 := cross h s1 t1 ks.1 kt.1 he
    have l2 := cross h t1 s1 kt.1 ks.1 he.symm
    have hl := (same_turn h s1 t1 ks.2 ks.1 kt.1 he (by omega)).2
    refine rank_inj h.nd s1 t1 hl ?_
    unfold lev at s2 t2
    rw [hl] at s2
    omega
  have hEdge : ∀ s ∈ Q, ∀ o, o < (lam s).length → pw (lam s) o (n + 1) ∈ E := fun s hs o ho => by
    obtain ⟨s1, s2⟩ := (hQm s).1 hs
    obtain ⟨a, h1, h2⟩ := full h s1 ho
    rw [s2] at h1 h2
    rw [hEm, h2]
    exact wn_in h1
  obtain ⟨F, hF⟩ : ∃ F, F = E.filter fun x => decide (x ∉ R) := ⟨_, rfl⟩
  have hFm : ∀ x, x ∈ F ↔ x ∈ E ∧ x ∉ R := fun x => by rw [hF, List.mem_filter, decide_eq_true_eq]
  have hcount : F.length + R.length ≤ E.length := by
    have h1 := len_le (F ++ R) E (List.nodup_append.2 ⟨by rw [hF]; exact nodup_filter _ hEn, hRn, fun x hx y hy e => ((hFm x).1 hx).2 (e ▸ hy)⟩) fun x hx => by
      rcases List.mem_append.1 hx with hx | hx
      · exact ((hFm x).1 hx).1
      · rw [hR] at hx
        obtain ⟨s, hs, rfl⟩ := List.mem_map.1 hx
        exact hEdge s hs 0 (hkn s hs).2
    rw [List.length_append] at h1
    exact h1
  obtain ⟨c, hc1, hc2⟩ := join (F.map fun x => (x.take n, x.drop 1))
  have hcF : ∀ x ∈ F, c (x.take n) = c (x.drop 1) := fun x hx => hc1 _ (List.mem_map.2 ⟨x, hx, rfl⟩)
  have ends : ∀ (l : List Int) (o : Nat), (pw l o (n + 1)).take n = pw l o n ∧ (pw l o (n + 1)).drop 1 = pw l (o + 1) n := fun l o => ⟨pw_take (by omega), by rw [pw_drop, Nat.add_sub_cancel]⟩
  have hcR : ∀ k, ∀ s ∈ Q, (lam s).length = k → c (pw (lam s) 0 n) = c (pw (lam s) 1 n) := fun k => by
    induction k using Nat.strongRecOn with
    | _ k ih =>
      intro s hs hk
      have ks := hkn s hs
      have s1 := ((hQm s).1 hs).1
      have step : ∀ o, 0 < o → o < (lam s).length → c (pw (lam s) o n) = c (pw (lam s) (o + 1) n) := fun o o0 o1 => by
        have hin := hEdge s hs o o1
        by_cases hr : pw (lam s) o (n + 1) ∈ R
        · rw [hR] at hr
          obtain ⟨t, ht, he⟩ := List.mem_map.1 hr
          have t1 := ((hQm t).1 ht).1
          have kt := hkn t ht
          have hle := cross h s1 t1 ks.1 kt.1 he.symm
          have hlt : (lam t).length < k := by
            refine Nat.lt_of_le_of_ne (by omega) fun e => ?_
            have := (same_turn h s1 t1 o1 ks.1 kt.1 he.symm (by omega)).1
            omega
          have := ih _ hlt t ht rfl
          have e1 := ends (lam t) 0
          have e2 := ends (lam s) o
          rw [he] at e1
          rw [← e2.1, ← e2.2, e1.1, e1.2]
          exact this
        · have := hcF _ ((hFm _).2 ⟨hin, hr⟩)
          rw [(ends _ _).1, (ends _ _).2] at this
          exact this
      have chain : ∀ o, 1 ≤ o → o ≤ (lam s).length → c (pw (lam s) 1 n) = c (pw (lam s) o n) := fun o => by
        induction o with
        | zero => intro h1; omega
        | succ o ih2 =>
          intro h1 h2
          by_cases e : o = 0
          · subst e; rfl
          · rw [ih2 (by omega) (by omega), step o (by omega) (by omega)]
      have := chain (lam s).length (by omega) (Nat.le_refl _)
      rw [this, show (lam s).length = 0 + (lam s).length from by omega, pw_shift]
  have hcE : ∀ x ∈ E, c (x.take n) = c (x.drop 1) := fun x hx => by
    by_cases hr : x ∈ R
    · rw [hR] at hr
      obtain ⟨s, hs, rfl⟩ := List.mem_map.1 hr
      rw [(ends _ _).1, (ends _ _).2]
      exact hcR _ s hs rfl
    · exact hcF x ((hFm x).2 ⟨hx, hr⟩)
  have hwalk : ∀ i, i + n ≤ u.length → c ((u.drop i).take n) = c ((u.drop 0).take n) := fun i => by
    induction i with
    | zero => intro _; rfl
    | succ i ih =>
      intro hi
      rw [← ih (by omega)]
      have h1 := hcE _ ((hEm _).2 (wn_in (u := u) (n := n + 1) (i := i) (by omega)))
      rw [List.take_take, Nat.min_eq_left (by omega), List.drop_take, List.drop_drop, Nat.add_sub_cancel] at h1
      exact h1.symm
  obtain ⟨M, m1, m2, m3⟩ := hc2 V hVn
  have hM : M.length ≤ 1 := by
    have := len_le M [c ((u.drop 0).take n)] m1 fun x hx => by
      obtain ⟨v, hv, rfl⟩ := m2 x hx
      obtain ⟨i, hi, rfl⟩ := wn_at (by omega) ((hVm v).1 hv)
      rw [hwalk i hi]
      simp
    simpa using this
  have hRl : R.length = Q.length := by rw [hR, List.length_map]
  rw [List.length_map] at m3
  omega
theorem sqs_le (h : Sqs u S lam off ex) : S.length ≤ u.length := by
  by_cases h0 : u.length = 0
  · cases S with
    | nil => exact Nat.zero_le _
    | cons s S =>
      have := lev_pos h (s := s) (by simp)
      omega
  have key : ∀ m, m + 1 ≤ u.length → (S.filter fun s => decide (lev lam S s ≤ m)).length + (sdl (wn u 1)).length ≤ (sdl (wn u (m + 1))).length + m := fun m => by
    induction m with
    | zero =>
      intro _
      have : (S.filter fun s => decide (lev lam S s ≤ 0)).length ≤ ([] : List (List Int)).length := len_le _ _ (nodup_filter _ h.nd) fun x hx => by
        obtain ⟨h1, h2⟩ := List.mem_filter.1 hx
        have := lev_pos h h1
        rw [decide_eq_true_eq] at h2
        omega
      rw [List.length_nil] at this
      show _ ≤ (sdl (wn u 1)).length + 0
      omega
    | succ m ih =>
      intro hm
      have h1 := ih (by omega)
      have h2 := level_le h (n := m + 1) (by omega) hm
      have h3 := len_le (S.filter fun s => decide (lev lam S s ≤ m + 1)) ((S.filter fun s => decide (lev lam S s ≤ m)) ++ S.filter fun s => decide (lev lam S s = m + 1)) (nodup_filter _ h.nd) fun x hx => by
        obtain ⟨h4, h5⟩ := List.mem_filter.1 hx
        rw [decide_eq_true_eq] at h5
        rw [List.mem_append, List.mem_filter, List.mem_filter, decide_eq_true_eq, decide_eq_true_eq]
        by_cases e : lev lam S x = m + 1
        · exact .inr ⟨h4, e⟩
        · exact .inl ⟨h4, by omega⟩
      rw [List.length_append] at h3
      omega
  have h1 := key (u.length - 1) (by omega)
  have h2 := len_le S (S.filter fun s => decide (lev lam S s ≤ u.length - 1)) h.nd fun x hx => List.mem_filter.2 ⟨hx, by
    have := lev_pos h hx
    rw [decide_eq_true_eq]
    omega⟩
  have h3 := sdl_len (wn u (u.length - 1 + 1))
  have h4 : (wn u (u.length - 1 + 1)).length = 1 := by
    unfold wn
    rw [List.length_map, List.length_range]
    omega
  have h5 : 0 < (sdl (wn u 1)).length := by
    have := (sdl_mem (wn u 1) ((u.drop 0).take 1)).2 (wn_in (by omega))
    exact List.length_pos_of_mem this
  omega
end
/-- A word has at most as many different squares as letters. -/
theorem dsq_bound {u : List Int} (hu : u.length ≤ 64) : dsq u ≤ u.length := by
  have hall : ∀ s ∈ sdl (sqW u (sqV u)), ∃ a t, a + s.length ≤ u.length ∧ s = (u.drop a).take s.length ∧ 0 < t.length ∧ s = t ++ t := fun s hs => by
    obtain ⟨q, hq, rfl⟩ := List.mem_map.1 ((sdl_mem _ _).1 hs)
    obtain ⟨h1, h2, h3⟩ := (sqV_mem hu).1 hq
    have hl : ((u.drop q.1).take (2 * q.2)).length = 2 * q.2 := by rw [List.length_take, List.length_drop]; omega
    refine ⟨q.1, (u.drop q.1).take q.2, by omega, by rw [hl], by rw [List.length_take, List.length_drop]; omega, ?_⟩
    have h4 := of_decide_eq_true h3
    have h5 : (u.drop q.1).take (2 * q.2) = (u.drop q.1).take q.2 ++ (u.drop (q.1 + q.2)).take q.2 := by
      rw [show 2 * q.2 = q.2 + q.2 from by omega, List.take_add, List.drop_drop]
    rw [h5, ← h4]
  have hch : ∀ s : List Int, ∃ p : List Int × Nat × Nat, s ∈ sdl (sqW u (sqV u)) → SqOf s p.1 p.2.1 p.2.2 := fun s => by
    by_cases hs : s ∈ sdl (sqW u (sqV u))
    · obtain ⟨a, t, _, _, h3, h4⟩ := hall s hs
      obtain ⟨l, o, i, h5⟩ := sq_of h3
      exact ⟨(l, o, i), fun _ => h4 ▸ h5⟩
    · exact ⟨([], 0, 0), fun h => absurd h hs⟩
  have hc := fun s => Classical.choose_spec (hch s)
  exact sqs_le (S := sdl (sqW u (sqV u))) (lam := fun s => (Classical.choose (hch s)).1) (off := fun s => (Classical.choose (hch s)).2.1) (ex := fun s => (Classical.choose (hch s)).2.2)
    ⟨sd_nodup (sdl_sd _), fun s hs => by obtain ⟨a, t, h1, h2, _⟩ := hall s hs; exact ⟨a, h1, h2⟩, fun s hs => hc s hs⟩
end Go.Proofs.YtfpdikohlafpiaaGreat.Plain
/- Plain facts on Lyndon words: a word that is less than each of its proper ends; two of them, the less first, make up one; the longest beginning that is one (lyL) and the division of a word that it gives (lynF); what the search of Duval knows at each step; the longest proper end that is a Lyndon word. No conditions beyond those that each fact states. -/
namespace Go.Proofs.YtfpdikohlafpiaaGreat.Plain

theorem le_three (u v : List Int) : cmpW u v < 0 ∨ u = v ∨ cmpW v u < 0 := by
  rcases cmpW_three u v with h | h | h
  · exact .inl (by omega)
  · exact .inr (.inl (cmpW_zero _ _ h))
  · exact .inr (.inr (by rw [cmpW_neg u v]; omega))
theorem lt_le {u v t : List Int} (h : cmpW u v < 0) (k : cmpW v t ≤ 0) : cmpW u t < 0 := by
  rcases cmpW_three v t with e | e | e
  · exact cmpW_trans _ _ _ h (by omega)
  · rw [← cmpW_zero _ _ e]; exact h
  · omega
theorem le_lt {u v t : List Int} (h : cmpW u v ≤ 0) (k : cmpW v t < 0) : cmpW u t < 0 := by
  rcases cmpW_three u v with e | e | e
  · exact cmpW_trans _ _ _ (by omega) k
  · rw [cmpW_zero _ _ e]; exact k
  · omega
theorem le_le {u v t : List Int} (h : cmpW u v ≤ 0) (k : cmpW v t ≤ 0) : cmpW u t ≤ 0 := by
  rcases cmpW_three u v with e | e | e
  · have := lt_le (u := u) (by omega) k; omega
  · rw [cmpW_zero _ _ e]; exact k
  · omega
theorem not_lt_le {u v : List Int} (h : ¬ cmpW u v < 0) : cmpW v u ≤ 0 := by rw [cmpW_neg u v]; omega
theorem lt_irr {u : List Int} (h : cmpW u u < 0) : False := by rw [cmpW_self] at h; omega
theorem pre_le (u t : List Int) : cmpW u (u ++ t) ≤ 0 := by
  have h := cmpW_pre u [] t
  rw [List.append_nil] at h
  rw [h]
  cases t <;> simp [cmpW]
theorem take_le (u : List Int) (n : Nat) : cmpW (u.take n) u ≤ 0 := by
  have h := pre_le (u.take n) (u.drop n)
  rwa [List.take_append_drop] at h
/-- The first letter in which two words differ. -/
theorem lt_at : ∀ {d : Nat} {u v : List Int} {x y : Int}, (∀ t, t < d → u[t]? = v[t]?) → u[d]? = some x → v[d]? = some y → x < y → cmpW u v < 0
  | 0, [], _, _, _, _, h, _, _ => by simp at h
  | 0, _ :: _, [], _, _, _, _, h, _ => by simp at h
  | 0, a :: u, b :: v, x, y, _, h1, h2, h => by
    simp at h1 h2
    subst h1; subst h2
    simp [cmpW, h]
  | d + 1, [], _, _, _, _, h, _, _ => by simp at h
  | d + 1, _ :: _, [], _, _, _, _, h, _ => by simp at h
  | d + 1, a :: u, b :: v, x, y, he, h1, h2, h => by
    have h0 := he 0 (by omega)
    simp at h0
    subst h0
    have ih := lt_at (d := d) (u := u) (v := v) (x := x) (y := y) (fun t ht => by have := he (t + 1) (by omega); simpa using this) (by simpa using h1) (by simpa using h2) h
    simpa [cmpW] using ih
theorem lt_split : ∀ {u v : List Int}, cmpW u v < 0 → (∃ t, 0 < t.length ∧ v = u ++ t) ∨ ∃ (d : Nat) (x y : Int), (∀ t, t < d → u[t]? = v[t]?) ∧ u[d]? = some x ∧ v[d]? = some y ∧ x < y
  | [], [], h => by simp [cmpW] at h
  | [], b :: v, _ => .inl ⟨b :: v, by simp, rfl⟩
  | _ :: _, [], h => by simp [cmpW] at h
  | a :: u, b :: v, h => by
    unfold cmpW at h
    by_cases h1 : a < b
    · exact .inr ⟨0, a, b, fun t ht => by omega, by simp, by simp, h1⟩
    · rw [if_neg h1] at h
      by_cases h2 : b < a
      · rw [if_pos h2] at h; omega
      · rw [if_neg h2] at h
        obtain rfl : a = b := by omega
        rcases lt_split h with ⟨t, ht, rfl⟩ | ⟨d, x, y, he, hx, hy, hxy⟩
        · exact .inl ⟨t, ht, rfl⟩
        · refine .inr ⟨d + 1, x, y, fun t ht => ?_, by simpa using hx, by simpa using hy, hxy⟩
          cases t with
          | zero => simp
          | succ t => simpa using he t (by omega)
theorem lt_find {u v : List Int} (h : cmpW u v < 0) (hl : v.length ≤ u.length) : ∃ (d : Nat) (x y : Int), (∀ t, t < d → u[t]? = v[t]?) ∧ u[d]? = some x ∧ v[d]? = some y ∧ x < y := by
  rcases lt_split h with ⟨t, ht, rfl⟩ | h
  · rw [List.length_append] at hl; omega
  · exact h
theorem lt_app {u v : List Int} (a b : List Int) (h : ∃ (d : Nat) (x y : Int), (∀ t, t < d → u[t]? = v[t]?) ∧ u[d]? = some x ∧ v[d]? = some y ∧ x < y) : cmpW (u ++ a) (v ++ b) < 0 := by
  obtain ⟨d, x, y, he, hx, hy, hxy⟩ := h
  have hu := (List.getElem?_eq_some_iff.1 hx).1
  have hv := (List.getElem?_eq_some_iff.1 hy).1
  refine lt_at (d := d) (x := x) (y := y) (fun t ht => ?_) ?_ ?_ hxy
  · rw [List.getElem?_append_left (by omega), List.getElem?_append_left (by omega)]; exact he t ht
  · rw [List.getElem?_append_left hu]; exact hx
  · rw [List.getElem?_append_left hv]; exact hy

/-- A Lyndon word: not empty, and less than each of its proper ends. -/
def Lyn (u : List Int) : Prop := 0 < u.length ∧ ∀ k, 0 < k → k < u.length → cmpW u (u.drop k) < 0
def lyB (u : List Int) : Bool := decide (0 < u.length) && (List.range u.length).all fun k => decide (k = 0) || decide (cmpW u (u.drop k) < 0)
theorem lyB_iff {u : List Int} : lyB u = true ↔ Lyn u := by
  simp only [lyB, Lyn, Bool.and_eq_true, decide_eq_true_eq, List.all_eq_true, List.mem_range, Bool.or_eq_true]
  constructor
  · rintro ⟨h0, h⟩
    refine ⟨h0, fun k hk hl => ?_⟩
    rcases h k hl with e | e
    · omega
    · exact e
  · rintro ⟨h0, h⟩
    refine ⟨h0, fun k hl => ?_⟩
    by_cases hk : k = 0
    · exact .inl hk
    · exact .inr (h k (by omega) hl)
theorem lyn_one (x : Int) : Lyn [x] := ⟨by simp, fun k h0 h1 => by simp at h1; omega⟩
theorem lyn_append {u v : List Int} (hu : Lyn u) (hv : Lyn v) (h : cmpW u v < 0) : Lyn (u ++ v) := by
  have hlt : cmpW (u ++ v) v < 0 := by
    rcases lt_split h with ⟨t, ht, rfl⟩ | h
    · rw [cmpW_pre]
      have := hv.2 u.length hu.1 (by rw [List.length_append]; omega)
      rwa [List.drop_left] at this
    · have := lt_app v [] h
      rwa [List.append_nil] at this
  refine ⟨by rw [List.length_append]; have := hu.1; omega, fun k h0 hk => ?_⟩
  by_cases hku : k < u.length
  · have h1 := hu.2 k h0 hku
    rw [List.drop_append_of_le_length (by omega)]
    exact lt_app _ _ (lt_find h1 (by simp))
  · rw [List.length_append] at hk
    obtain ⟨j, rfl⟩ : ∃ j, k = u.length + j := ⟨k - u.length, by omega⟩
    rw [List.drop_append]
    by_cases hj : j = 0
    · subst hj; simpa using hlt
    · refine lt_le hlt ?_
      have := hv.2 j (by omega) (by omega)
      have e : List.drop (u.length + j) u ++ List.drop (u.length + j - u.length) v = v.drop j := by
        rw [List.drop_eq_nil_of_le (by omega), show u.length + j - u.length = j from by omega, List.nil_append]
      rw [e]
      omega

/-- The length of the longest beginning, of at most m letters, that is a Lyndon word. -/
def lyM (w : List Int) : Nat → Nat
  | 0 => 0
  | m + 1 => if lyB (w.take (m + 1)) then m + 1 else lyM w m
def lyL (w : List Int) : Nat := lyM w w.length
theorem lyM_spec (w : List Int) (x : Int) (hx : w[0]? = some x) : ∀ m, 0 < m → m ≤ w.length → 0 < lyM w m ∧ lyM w m ≤ m ∧ Lyn (w.take (lyM w m)) ∧ ∀ p, lyM w m < p → p ≤ m → ¬ Lyn (w.take p)
  | 0, h, _ => by omega
  | m + 1, _, hm => by
    unfold lyM
    by_cases hb : lyB (w.take (m + 1)) = true
    · rw [if_pos hb]
      exact ⟨by omega, by omega, lyB_iff.1 hb, fun p h1 h2 => by omega⟩
    · rw [if_neg hb]
      have hn : ¬ Lyn (w.take (m + 1)) := fun h => hb (lyB_iff.2 h)
      by_cases h0 : m = 0
      · subst h0
        exfalso
        apply hn
        cases w with
        | nil => simp at hx
        | cons a w => simpa using lyn_one a
      · obtain ⟨h1, h2, h3, h4⟩ := lyM_spec w x hx m (by omega) (by omega)
        refine ⟨h1, by omega, h3, fun p hp hq => ?_⟩
        by_cases e : p = m + 1
        · rw [e]; exact hn
        · exact h4 p hp (by omega)
theorem lyL_spec {w : List Int} (h : 0 < w.length) : 0 < lyL w ∧ lyL w ≤ w.length ∧ Lyn (w.take (lyL w)) ∧ ∀ p, lyL w < p → p ≤ w.length → ¬ Lyn (w.take p) :=
  lyM_spec w _ (List.getElem?_eq_getElem h) w.length h (Nat.le_refl _)
theorem lyL_unique {w : List Int} {p : Nat} (h0 : 0 < p) (hp : p ≤ w.length) (hl : Lyn (w.take p)) (hm : ∀ q, p < q → q ≤ w.length → ¬ Lyn (w.take q)) : lyL w = p := by
  obtain ⟨h1, h2, h3, h4⟩ := lyL_spec (w := w) (by omega)
  rcases Nat.lt_trichotomy (lyL w) p with h | h | h
  · exact absurd hl (h4 p h hp)
  · exact h
  · exact absurd h3 (hm _ h h2)
def lynG : Nat → List Int → List (List Int)
  | 0, _ => []
  | n + 1, w => if w.length = 0 then [] else w.take (lyL w) :: lynG n (w.drop (lyL w))
/-- The division of a word into Lyndon words of which none is less than the next one. -/
def lynF (w : List Int) : List (List Int) := lynG w.length w
theorem lynG_fuel : ∀ (n m : Nat) (w : List Int), w.length ≤ n → w.length ≤ m → lynG n w = lynG m w
  | 0, 0, _, _, _ => rfl
  | 0, m + 1, w, h, _ => by simp [lynG, show w.length = 0 from by omega]
  | n + 1, 0, w, _, h => by simp [lynG, show w.length = 0 from by omega]
  | n + 1, m + 1, w, h1, h2 => by
    unfold lynG
    by_cases h0 : w.length = 0
    · rw [if_pos h0, if_pos h0]
    · rw [if_neg h0, if_neg h0]
      have := (lyL_spec (w := w) (by omega)).1
      rw [lynG_fuel n m (w.drop (lyL w)) (by rw [List.length_drop]; omega) (by rw [List.length_drop]; omega)]
theorem lynF_nil {w : List Int} (h : w.length = 0) : lynF w = [] := by simp [lynF, h, lynG]
theorem lynF_cons {w : List Int} (h : 0 < w.length) : lynF w = w.take (lyL w) :: lynF (w.drop (lyL w)) := by
  have h1 := (lyL_spec h).1
  unfold lynF
  obtain ⟨n, hn⟩ : ∃ n, w.length = n + 1 := ⟨w.length - 1, by omega⟩
  conv => lhs; rw [hn]; unfold lynG
  rw [if_neg (by omega)]
  congr 1
  exact lynG_fuel _ _ _ (by rw [List.length_drop]; omega) (Nat.le_refl _)
theorem lynF_ind {P : List Int → Prop} (h0 : ∀ w, w.length = 0 → P w) (h : ∀ w, 0 < w.length → P (w.drop (lyL w)) → P w) (w : List Int) : P w := by
  suffices h' : ∀ n (w : List Int), w.length ≤ n → P w from h' _ w (Nat.le_refl _)
  intro n
  induction n with
  | zero => intro w hw; exact h0 w (by omega)
  | succ n ih =>
    intro w hw
    by_cases e : w.length = 0
    · exact h0 w e
    · have := (lyL_spec (w := w) (by omega)).1
      exact h w (by omega) (ih _ (by rw [List.length_drop]; omega))
theorem lynF_join (w : List Int) : (lynF w).flatten = w := by
  refine lynF_ind (P := fun w => (lynF w).flatten = w) (fun w h => ?_) (fun w h ih => ?_) w
  · rw [lynF_nil h]
    cases w with
    | nil => rfl
    | cons a w => simp at h
  · rw [lynF_cons h, List.flatten_cons, ih, List.take_append_drop]
theorem lynF_lyn (w : List Int) : ∀ x ∈ lynF w, Lyn x := by
  refine lynF_ind (P := fun w => ∀ x ∈ lynF w, Lyn x) (fun w h => ?_) (fun w h ih => ?_) w
  · rw [lynF_nil h]; simp
  · rw [lynF_cons h]
    intro x hx
    rcases List.mem_cons.1 hx with rfl | hx
    · exact (lyL_spec h).2.2.1
    · exact ih x hx
theorem drop_take_app (w : List Int) (p q : Nat) : w.take p ++ (w.drop p).take q = w.take (p + q) := by rw [List.take_add]
/-- None is less than the next one. -/
theorem lynF_down (w : List Int) : ∀ i x y, (lynF w)[i]? = some x → (lynF w)[i + 1]? = some y → cmpW y x ≤ 0 := by
  refine lynF_ind (P := fun w => ∀ i x y, (lynF w)[i]? = some x → (lynF w)[i + 1]? = some y → cmpW y x ≤ 0) (fun w h => ?_) (fun w h ih => ?_) w
  · rw [lynF_nil h]; intro i x y hx; simp at hx
  · rw [lynF_cons h]
    intro i x y hx hy
    cases i with
    | succ i => exact ih i x y (by simpa using hx) (by simpa using hy)
    | zero =>
      obtain rfl : w.take (lyL w) = x := by simpa using hx
      have hy : (lynF (w.drop (lyL w)))[0]? = some y := by simpa using hy
      by_cases h0 : (w.drop (lyL w)).length = 0
      · rw [lynF_nil h0] at hy; simp at hy
      · have hd : 0 < (w.drop (lyL w)).length := by omega
        rw [lynF_cons hd] at hy
        obtain rfl : (w.drop (lyL w)).take (lyL (w.drop (lyL w))) = y := by simpa using hy
        apply not_lt_le
        intro hlt
        obtain ⟨h1, h2, h3, h4⟩ := lyL_spec h
        obtain ⟨k1, k2, k3, _⟩ := lyL_spec hd
        have := lyn_append h3 k3 hlt
        rw [drop_take_app] at this
        rw [List.length_drop] at k2
        exact h4 _ (by omega) (by omega) this
theorem lynF_chain (w : List Int) : ∀ (i : Nat) (x z : List Int), (lynF w)[0]? = some x → (lynF w)[i]? = some z → cmpW z x ≤ 0
  | 0, x, z, h1, h2 => by
    rw [h1] at h2
    injection h2 with h2
    rw [h2, cmpW_self]; omega
  | i + 1, x, z, h1, h2 => by
    have hi := (List.getElem?_eq_some_iff.1 h2).1
    have h3 : (lynF w)[i]? = some (lynF w)[i] := List.getElem?_eq_getElem (by omega)
    exact le_le (lynF_down w i _ z h3 h2) (lynF_chain w i x _ h1 h3)
theorem lynF_one {w : List Int} (h : 0 < w.length) : (lynF w).length = 1 ↔ Lyn w := by
  obtain ⟨h1, h2, h3, h4⟩ := lyL_spec h
  rw [lynF_cons h, List.length_cons]
  constructor
  · intro e
    by_cases hd : (w.drop (lyL w)).length = 0
    · rw [List.length_drop] at hd
      rwa [List.take_of_length_le (by omega)] at h3
    · rw [lynF_cons (by omega)] at e; simp at e
  · intro hw
    have : lyL w = w.length := by
      rcases Nat.lt_or_ge (lyL w) w.length with hlt | hge
      · exact absurd (by rwa [List.take_length]) (h4 w.length hlt (Nat.le_refl _))
      · omega
    rw [this, List.drop_length, lynF_nil rfl]; rfl

/-! ### The search of Duval -/
/-- What is known at i, j, k: the letters from i on, up to j, repeat a Lyndon word of j - k letters. -/
structure Duv (w : List Int) (i j k : Nat) : Prop where
  ik : i ≤ k
  kj : k < j
  jn : j ≤ w.length
  lyn : Lyn ((w.drop i).take (j - k))
  per : ∀ t, i ≤ t → t + (j - k) < j → w[t + (j - k)]? = w[t]?
theorem Duv.start {w : List Int} {i : Nat} (h : i < w.length) : Duv w i (i + 1) i := by
  refine ⟨Nat.le_refl _, by omega, by omega, ?_, fun t h1 h2 => by omega⟩
  rw [show i + 1 - i = 1 from by omega, List.drop_eq_getElem_cons h]
  exact lyn_one _
theorem Duv.same {w : List Int} {i j k : Nat} (h : Duv w i j k) (hj : j < w.length) (he : w[k]? = w[j]?) : Duv w i (j + 1) (k + 1) := by
  have h1 := h.ik; have h2 := h.kj
  refine ⟨by omega, by omega, by omega, by rw [show j + 1 - (k + 1) = j - k from by omega]; exact h.lyn, fun t h3 h4 => ?_⟩
  rw [show j + 1 - (k + 1) = j - k from by omega] at h4 ⊢
  by_cases e : t + (j - k) = j
  · rw [e, show t = k from by omega, he]
  · exact h.per t h3 (by omega)
/-- Letters a whole number of periods apart. -/
theorem Duv.far {w : List Int} {i j k : Nat} (h : Duv w i j k) : ∀ n t, i ≤ t → t + n * (j - k) < j → w[t + n * (j - k)]? = w[t]?
  | 0, t, _, _ => by simp
  | n + 1, t, h1, h2 => by
    rw [Nat.succ_mul] at h2 ⊢
    rw [← Nat.add_assoc, h.per _ (by omega) (by omega)]
    exact h.far n t h1 (by omega)
theorem at_take_drop {w : List Int} {i m t : Nat} (h : t < m) : ((w.drop i).take m)[t]? = w[i + t]? := by
  rw [List.getElem?_take_of_lt h, List.getElem?_drop]
theorem at_drop_take_drop {w : List Int} {i m q t : Nat} (h : q + t < m) : (((w.drop i).take m).drop q)[t]? = w[i + q + t]? := by
  rw [List.getElem?_drop, at_take_drop h, Nat.add_assoc]
/-- A greater letter behind the repetition: all of it is a Lyndon word. -/
theorem Duv.more {w : List Int} {i j k : Nat} (h : Duv w i j k) {a b : Int} (ha : w[k]? = some a) (hb : w[j]? = some b) (hab : a < b) : Duv w i (j + 1) i := by
  have h1 := h.ik; have h2 := h.kj
  have hj := (List.getElem?_eq_some_iff.1 hb).1
  have hL := h.lyn
  have hfar := h.far
  refine ⟨Nat.le_refl _, by omega, by omega, ?_, fun t h3 h4 => by omega⟩
  obtain ⟨p, hp⟩ : ∃ p, p = j - k := ⟨_, rfl⟩
  rw [← hp] at hL hfar
  have hlen : ((w.drop i).take (j + 1 - i)).length = j + 1 - i := by rw [List.length_take, List.length_drop]; omega
  have hlp : ((w.drop i).take p).length = p := by rw [List.length_take, List.length_drop]; omega
  refine ⟨by omega, fun q hq0 hq => ?_⟩
  rw [hlen] at hq
  -- q = n * p + r
  have hdm := Nat.div_add_mod q p
  have hr := Nat.mod_lt q (show 0 < p by omega)
  generalize hn : q / p = n at hdm
  generalize hrr : q % p = r at hdm hr
  have hnp : p * n = n * p := Nat.mul_comm _ _
  rw [hnp] at hdm
  clear hnp hn hrr
  -- the letter at t of the end that begins at q, while it is ahead of j
  have hat : ∀ t, q + t < j - i → w[i + q + t]? = w[i + r + t]? := fun t ht => by
    have := hfar n (i + r + t) (by omega) (by omega)
    rw [← this]
    congr 1
    omega
  -- the letter that the repetition would have had at j
  have hk : 0 < n → w[k]? = w[i + r + (j - i - q)]? := fun hn => by
    obtain ⟨n', rfl⟩ : ∃ n', n = n' + 1 := ⟨n - 1, by omega⟩
    rw [Nat.succ_mul] at hdm
    have := hfar n' (i + r + (j - i - q)) (by omega) (by omega)
    rw [← this]
    congr 1
    omega
  have hx : ∀ t, t < j + 1 - i → ((w.drop i).take (j + 1 - i))[t]? = w[i + t]? := fun t ht => at_take_drop ht
  have hy : ∀ t, q + t < j + 1 - i → (((w.drop i).take (j + 1 - i)).drop q)[t]? = w[i + q + t]? := fun t ht => at_drop_take_drop ht
  have hend : (((w.drop i).take (j + 1 - i)).drop q)[j - i - q]? = some b := by
    rw [hy _ (by omega), show i + q + (j - i - q) = j from by omega, hb]
  by_cases hr0 : r = 0
  · subst hr0
    have hn : 0 < n := by
      rcases Nat.eq_zero_or_pos n with e | e
      · subst e; rw [Nat.zero_mul] at hdm; omega
      · exact e
    refine lt_at (d := j - i - q) (x := a) (y := b) (fun t ht => ?_) ?_ hend hab
    · rw [hx t (by omega), hy t (by omega), hat t (by omega), Nat.add_zero]
    · rw [hx _ (by omega), ← ha, hk hn, Nat.add_zero]
  · obtain ⟨d, x, y, he, hxd, hyd, hxy⟩ := lt_find (hL.2 r (by omega) (by omega)) (by simp)
    have hdl : d < p - r := by
      have := (List.getElem?_eq_some_iff.1 hyd).1
      rw [List.length_drop] at this
      omega
    rw [at_take_drop (by omega)] at hxd
    rw [at_drop_take_drop (by omega)] at hyd
    have he : ∀ t, t < d → w[i + t]? = w[i + r + t]? := fun t ht => by
      have := he t ht
      rwa [at_take_drop (by omega), at_drop_take_drop (by omega)] at this
    by_cases hc : q + d < j - i
    · refine lt_at (d := d) (x := x) (y := y) (fun t ht => ?_) ?_ ?_ hxy
      · rw [hx t (by omega), hy t (by omega), hat t (by omega), he t ht]
      · rw [hx _ (by omega), hxd]
      · rw [hy _ (by omega), hat _ hc, hyd]
    · have hn : 0 < n := by
        rcases Nat.eq_zero_or_pos n with e | e
        · subst e; rw [Nat.zero_mul] at hdm; omega
        · exact e
      have hka := hk hn
      rw [ha] at hka
      by_cases hd : j - i - q < d
      · refine lt_at (d := j - i - q) (x := a) (y := b) (fun t ht => ?_) ?_ hend hab
        · rw [hx t (by omega), hy t (by omega), hat t (by omega), he t (by omega)]
        · rw [hx _ (by omega), he _ hd, ← hka]
      · obtain hd : j - i - q = d := by omega
        rw [hd] at hka hend
        rw [← hka] at hyd
        injection hyd with hyd
        refine lt_at (d := d) (x := x) (y := b) (fun t ht => ?_) ?_ hend (by omega)
        · rw [hx t (by omega), hy t (by omega), hat t (by omega), he t (by omega)]
        · rw [hx _ (by omega), hxd]
/-- Where the repetition ends (the word ends, or a less letter comes): its word is the longest beginning that is a Lyndon word. -/
theorem Duv.emit {w : List Int} {i j k : Nat} (h : Duv w i j k) (hs : j = w.length ∨ ∃ a b : Int, w[k]? = some a ∧ w[j]? = some b ∧ b < a) : lyL (w.drop i) = j - k := by
  have h1 := h.ik; have h2 := h.kj; have h3 := h.jn
  refine lyL_unique (by omega) (by rw [List.length_drop]; omega) h.lyn (fun q hq hql hL => ?_)
  rw [List.length_drop] at hql
  have hlen : ((w.drop i).take q).length = q := by rw [List.length_take, List.length_drop]; omega
  obtain ⟨d, x, z, he, hx, hz, hxz⟩ := lt_find (hL.2 (j - k) (by omega) (by omega)) (by simp)
  have hd : d < q - (j - k) := by
    have := (List.getElem?_eq_some_iff.1 hz).1
    rw [List.length_drop] at this
    omega
  rw [at_take_drop (by omega)] at hx
  rw [at_drop_take_drop (by omega)] at hz
  have he : ∀ t, t < d → w[i + t]? = w[i + (j - k) + t]? := fun t ht => by
    have := he t ht
    rwa [at_take_drop (by omega), at_drop_take_drop (by omega)] at this
  by_cases hc : i + d + (j - k) < j
  · have := h.per (i + d) (by omega) hc
    rw [show i + d + (j - k) = i + (j - k) + d from by omega, hz, hx] at this
    injection this with this
    omega
  · rcases hs with e | ⟨a, b, ha, hb, hab⟩
    · have := (List.getElem?_eq_some_iff.1 hz).1
      omega
    · by_cases hdk : k - i < d
      · have := he _ hdk
        rw [show i + (k - i) = k from by omega, show i + (j - k) + (k - i) = j from by omega, ha, hb] at this
        injection this with this
        omega
      · obtain rfl : d = k - i := by omega
        rw [show i + (k - i) = k from by omega, ha] at hx
        rw [show i + (j - k) + (k - i) = j from by omega, hb] at hz
        injection hx with hx
        injection hz with hz
        omega
theorem Duv.next {w : List Int} {i j k : Nat} (h : Duv w i j k) (hk : i + (j - k) ≤ k) : Duv w (i + (j - k)) j k := by
  have h1 := h.ik; have h2 := h.kj; have h3 := h.jn
  refine ⟨hk, h2, h3, ?_, fun t h4 h5 => h.per t (by omega) h5⟩
  have : (w.drop (i + (j - k))).take (j - k) = (w.drop i).take (j - k) := by
    apply List.ext_getElem?
    intro t
    by_cases ht : t < j - k
    · rw [at_take_drop ht, at_take_drop ht, show i + (j - k) + t = i + t + (j - k) from by omega]
      exact h.per _ (by omega) (by omega)
    · rw [List.getElem?_eq_none (by rw [List.length_take]; omega), List.getElem?_eq_none (by rw [List.length_take]; omega)]
  rw [this]
  exact h.lyn
theorem Duv.out {w : List Int} {i j k : Nat} (h : Duv w i j k) (hs : j = w.length ∨ ∃ a b : Int, w[k]? = some a ∧ w[j]? = some b ∧ b < a) : lynF (w.drop i) = (w.drop i).take (j - k) :: lynF (w.drop (i + (j - k))) := by
  have h1 := h.ik; have h2 := h.kj; have h3 := h.jn
  rw [lynF_cons (by rw [List.length_drop]; omega), h.emit hs, List.drop_drop]

theorem lyn_lyL {w : List Int} (h : 0 < w.length) : Lyn w ↔ lyL w = w.length := by
  obtain ⟨h1, h2, h3, h4⟩ := lyL_spec h
  constructor
  · intro hw
    rcases Nat.lt_or_ge (lyL w) w.length with hlt | hge
    · exact absurd (by rwa [List.take_length]) (h4 w.length hlt (Nat.le_refl _))
    · omega
  · intro e
    rw [e, List.take_length] at h3
    exact h3
/-- One pass of the search, from the beginning: where it stops at the end with k at the beginning the word is a Lyndon word, else it is none. -/
theorem Duv.tell {w : List Int} {j k : Nat} (h : Duv w 0 j k) (hs : j = w.length ∨ ∃ a b : Int, w[k]? = some a ∧ w[j]? = some b ∧ b < a) : Lyn w ↔ j = w.length ∧ k = 0 := by
  have h1 := h.kj; have h2 := h.jn
  have e := h.emit hs
  rw [List.drop_zero] at e
  rw [lyn_lyL (by omega), e]
  omega

/-! ### The longest proper end that is a Lyndon word -/
theorem lyn_last {w : List Int} (h : 0 < w.length) : Lyn (w.drop (w.length - 1)) := by
  rw [List.drop_eq_getElem_cons (show w.length - 1 < w.length by omega), List.drop_eq_nil_of_le (by omega)]
  exact lyn_one _
theorem lyn_split {w : List Int} {k : Nat} (hw : Lyn w) (h0 : 0 < k) (hk : k < w.length) (hv : Lyn (w.drop k)) (hmin : ∀ q, 0 < q → q < k → ¬ Lyn (w.drop q)) : Lyn (w.take k) ∧ cmpW (w.take k) (w.drop k) < 0 := by
  have hwv := hw.2 k h0 hk
  refine ⟨?_, le_lt (take_le w k) hwv⟩
  have hul : (w.take k).length = k := by rw [List.length_take]; omega
  refine Classical.byContradiction fun hu => ?_
  obtain ⟨l, hl⟩ : ∃ l, l = lynF (w.take k) := ⟨_, rfl⟩
  have hne : l.length ≠ 1 := fun e => hu ((lynF_one (by omega)).1 (by rw [← hl]; exact e))
  have hpos : 0 < l.length := by rw [hl, lynF_cons (by omega)]; simp
  obtain ⟨m, hm⟩ : ∃ m, l.length = m + 1 := ⟨l.length - 1, by omega⟩
  have h1 : l[0]? = some l[0] := List.getElem?_eq_getElem hpos
  have h2 : l[m]? = some l[m] := List.getElem?_eq_getElem (by omega)
  have hj : l.flatten = w.take k := by rw [hl]; exact lynF_join _
  have hx : Lyn l[m] := lynF_lyn (w.take k) _ (by rw [← hl]; exact List.getElem_mem _)
  have hx1 : Lyn l[0] := lynF_lyn (w.take k) _ (by rw [← hl]; exact List.getElem_mem _)
  have hchain : cmpW l[m] l[0] ≤ 0 := lynF_chain (w.take k) m _ _ (by rw [← hl]; exact h1) (by rw [← hl]; exact h2)
  have hsplit : l = l.take m ++ [l[m]] := by
    have := List.take_append_drop m l
    rw [List.drop_eq_getElem_cons (show m < l.length by omega), List.drop_eq_nil_of_le (show l.length ≤ m + 1 by omega)] at this
    exact this.symm
  obtain ⟨q, hq⟩ : ∃ q, q = (l.take m).flatten.length := ⟨_, rfl⟩
  have hu2 : w.take k = (l.take m).flatten ++ l[m] := by
    have := congrArg List.flatten hsplit
    rw [hj, List.flatten_append] at this
    rw [this]
    simp
  have hfirst : l.take m = l[0] :: (l.take m).drop 1 := by
    obtain ⟨m', rfl⟩ : ∃ m', m = m' + 1 := ⟨m - 1, by omega⟩
    cases l with
    | nil => simp at hpos
    | cons x l => simp
  have hq0 : 0 < q := by
    rw [hq, hfirst, List.flatten_cons, List.length_append]
    have := hx1.1
    omega
  have hqk : q + l[m].length = k := by rw [← hul, hu2, List.length_append, hq]
  have hxp := hx.1
  have hdrop : w.drop q = l[m] ++ w.drop k := by
    have e : w = ((l.take m).flatten ++ l[m]) ++ w.drop k := by rw [← hu2, List.take_append_drop]
    conv => lhs; rw [e, List.append_assoc, hq, List.drop_left]
  have hno : ¬ cmpW l[m] (w.drop k) < 0 := fun h => hmin q hq0 (by omega) (by rw [hdrop]; exact lyn_append hx hv h)
  have hle1 : cmpW l[0] (w.take k) ≤ 0 := by
    have := pre_le l[0] (((l.take m).drop 1).flatten ++ l[m])
    rw [← List.append_assoc, ← List.flatten_cons, ← hfirst, ← hu2] at this
    exact this
  have := le_le (le_le (le_le (not_lt_le hno) hchain) hle1) (take_le w k)
  exact lt_irr (lt_le hwv this)
end Go.Proofs.YtfpdikohlafpiaaGreat.Plain
