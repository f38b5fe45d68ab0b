/- Plain facts on the palindromes of a word: the longest one around a middle, the first of the longest. No conditions beyond those that each fact states. -/
import Derived.Test.YtgbgcaaekpgapabBorVal
namespace Go.Proofs.Ytgbgcaaekpgapab.Plain
/-- The part of n letters from place i on is the same read backwards. -/
def palB (u : List Int) : Bool := decide (u = u.reverse)
def palAt (u : List Int) (i n : Nat) : Bool := palB ((u.drop i).take n)
/-- Around the middle m, counted in half letters, a palindrome of n letters. -/
def Mid (u : List Int) (m n : Nat) : Prop := n ≤ m ∧ m % 2 = n % 2 ∧ (m + n) / 2 ≤ u.length ∧ ∀ a, (m - n) / 2 ≤ a → a < (m + n) / 2 → u[a]? = u[m - 1 - a]?
theorem mid_iff {u : List Int} {i n : Nat} (h : i + n ≤ u.length) : palAt u i n = true ↔ Mid u (2 * i + n) n := by
  unfold palAt palB
  rw [decide_eq_true_eq]
  have hl : ((u.drop i).take n).length = n := by rw [List.length_take, List.length_drop]; omega
  have e1 : ∀ k, k < n → ((u.drop i).take n)[k]? = u[i + k]? := fun k hk => by rw [List.getElem?_take, if_pos hk, List.getElem?_drop]
  have e2 : ∀ k, k < n → ((u.drop i).take n).reverse[k]? = u[i + (n - 1 - k)]? := fun k hk => by
    rw [List.getElem?_reverse (by omega), hl, e1 _ (by omega)]
  constructor
  · intro he
    refine ⟨by omega, by omega, by omega, fun a h1 h2 => ?_⟩
    have h3 := e2 (a - i) (by omega)
    rw [← he, e1 (a - i) (by omega)] at h3
    rw [show i + (a - i) = a from by omega] at h3
    rw [h3]
    congr 1
    omega
  · rintro ⟨_, _, _, hm⟩
    refine List.ext_getElem? fun k => ?_
    rcases Nat.lt_or_ge k n with h1 | h1
    · rw [e1 k h1, e2 k h1, hm (i + k) (by omega) (by omega)]
      congr 1
      omega
    · rw [List.getElem?_eq_none (by omega), List.getElem?_eq_none (by rw [List.length_reverse]; omega)]
theorem mid_start (u : List Int) {m : Nat} (h : m ≤ 2 * u.length) : Mid u m (m % 2) := by
  refine ⟨Nat.mod_le _ _, by omega, by omega, fun a h1 h2 => ?_⟩
  congr 1
  omega
theorem mid_less {u : List Int} {m n k : Nat} (h : Mid u m n) (hk : k ≤ n) (hp : k % 2 = n % 2) : Mid u m k := by
  obtain ⟨h1, h2, h3, h4⟩ := h
  exact ⟨by omega, by omega, by omega, fun a ha hb => h4 a (by omega) (by omega)⟩
/-- Two letters more. -/
theorem mid_more {u : List Int} {m n a b : Nat} {x : Int} (h : Mid u m n) (ha : 2 * a + n = m) (ha0 : 0 < a) (hb : 2 * b = m + n) (hx : u[a - 1]? = some x) (hy : u[b]? = some x) : Mid u m (n + 2) := by
  obtain ⟨h1, h2, h3, h4⟩ := h
  have hbl : b < u.length := (List.getElem?_eq_some_iff.1 hy).1
  refine ⟨by omega, by omega, by omega, fun c hc1 hc2 => ?_⟩
  by_cases e1 : c = a - 1
  · subst e1
    rw [hx, show m - 1 - (a - 1) = b from by omega, hy]
  · by_cases e2 : c = b
    · subst e2
      rw [hy, show m - 1 - c = a - 1 from by omega, hx]
    · exact h4 c (by omega) (by omega)
theorem mid_stop {u : List Int} {m n a b : Nat} {x y : Int} (ha : 2 * a + n = m) (ha0 : 0 < a) (hb : 2 * b = m + n) (hx : u[a - 1]? = some x) (hy : u[b]? = some y) (hne : x ≠ y) {k : Nat} (hk : Mid u m k) : k ≤ n := by
  rcases Nat.lt_or_ge n k with h | h
  · obtain ⟨h1, h2, h3, h4⟩ := mid_less hk (k := n + 2) (by have := hk.2.1; omega) (by have := hk.2.1; omega)
    have := h4 b (by omega) (by omega)
    rw [hy, show m - 1 - b = a - 1 from by omega, hx] at this
    exact absurd (Option.some.inj this).symm hne
  · exact h
theorem mid_left {u : List Int} {m n : Nat} (ha : n = m) {k : Nat} (hk : Mid u m k) : k ≤ n := by have := hk.1; omega
theorem mid_right {u : List Int} {m n : Nat} (ha : m + n = 2 * u.length) {k : Nat} (hk : Mid u m k) : k ≤ n := by
  obtain ⟨_, h2, h3, _⟩ := hk
  omega
/-- The mirrored middle in a palindrome that reaches farther. -/
theorem mid_mirror {u : List Int} {c L m k : Nat} (hc : Mid u c L) (hm1 : c ≤ m) (hm2 : m < c + L) (hk : Mid u (2 * c - m) k) (hke : k ≤ c + L - m) : Mid u m k := by
  obtain ⟨c1, c2, c3, c4⟩ := hc
  obtain ⟨k1, k2, k3, k4⟩ := hk
  obtain ⟨x, hx⟩ : ∃ x, c = L + 2 * x := ⟨(c - L) / 2, by omega⟩
  obtain ⟨y, hy⟩ : ∃ y, 2 * c - m = k + 2 * y := ⟨(2 * c - m - k) / 2, by omega⟩
  rw [show (c - L) / 2 = x from by omega, show (c + L) / 2 = x + L from by omega] at c4
  rw [show (c + L) / 2 = x + L from by omega] at c3
  rw [hy, show (k + 2 * y - k) / 2 = y from by omega, show (k + 2 * y + k) / 2 = y + k from by omega] at k4
  clear c2 k2 k3
  have e1 : (m - k) / 2 = c - k - y := by omega
  have e2 : (m + k) / 2 = c - y := by omega
  refine ⟨by omega, by omega, by omega, fun a h1 h2 => ?_⟩
  rw [e1] at h1
  rw [e2] at h2
  have e1 := c4 a (by omega) (by omega)
  have e2 := c4 (m - 1 - a) (by omega) (by omega)
  have e3 := k4 (c - 1 - a) (by omega) (by omega)
  rw [e1, e2, e3]
  congr 1
  omega
/-- The longest palindrome around a middle. -/
def mxF (u : List Int) (m : Nat) : Nat → Nat
  | 0 => 0
  | k + 1 => if m % 2 = (k + 1) % 2 ∧ (m + (k + 1)) / 2 ≤ u.length ∧ ((u.drop ((m - (k + 1)) / 2)).take (k + 1)) = ((u.drop ((m - (k + 1)) / 2)).take (k + 1)).reverse then k + 1 else mxF u m k
def mx (u : List Int) (m : Nat) : Nat := mxF u m m
theorem mxF_spec {u : List Int} {m : Nat} (hm : m ≤ 2 * u.length) : ∀ n, n ≤ m → (m % 2 ≤ n → Mid u m (mxF u m n)) ∧ ∀ k, k ≤ n → Mid u m k → k ≤ mxF u m n
  | 0, hn => by
    refine ⟨fun h => ?_, fun k hk _ => by simpa [mxF] using hk⟩
    have := mid_start u hm
    rw [show m % 2 = 0 from by omega] at this
    exact this
  | n + 1, hn => by
    have ih := mxF_spec hm n (by omega)
    have hiff : m % 2 = (n + 1) % 2 → (m + (n + 1)) / 2 ≤ u.length → (((u.drop ((m - (n + 1)) / 2)).take (n + 1)) = ((u.drop ((m - (n + 1)) / 2)).take (n + 1)).reverse ↔ Mid u m (n + 1)) := fun h1 h2 => by
      have := mid_iff (u := u) (i := (m - (n + 1)) / 2) (n := n + 1) (by omega)
      rw [show 2 * ((m - (n + 1)) / 2) + (n + 1) = m from by omega] at this
      rw [← this]
      simp [palAt, palB]
    unfold mxF
    split
    · rename_i h
      exact ⟨fun _ => (hiff h.1 h.2.1).1 h.2.2, fun k hk _ => hk⟩
    · rename_i h
      refine ⟨fun hp => ?_, fun k hk hmk => ?_⟩
      · by_cases e : m % 2 = n + 1
        · have := mid_start u hm
          exact absurd ⟨by omega, by omega, (hiff (by omega) (by omega)).2 (by rw [← e]; exact this)⟩ h
        · exact ih.1 (by omega)
      · by_cases e : k = n + 1
        · subst e
          have h1 := hmk.2.1
          have h2 := hmk.2.2.1
          exact absurd ⟨h1, h2, (hiff h1 h2).2 hmk⟩ h
        · exact ih.2 k (by omega) hmk
theorem mx_mid {u : List Int} {m : Nat} (hm : m ≤ 2 * u.length) : Mid u m (mx u m) := (mxF_spec hm m (Nat.le_refl _)).1 (Nat.mod_le _ _)
theorem mx_most {u : List Int} {m k : Nat} (hm : m ≤ 2 * u.length) (hk : Mid u m k) : k ≤ mx u m := (mxF_spec hm m (Nat.le_refl _)).2 k hk.1 hk
theorem mx_is {u : List Int} {m n : Nat} (hm : m ≤ 2 * u.length) (h : Mid u m n) (hs : ∀ k, Mid u m k → k ≤ n) : mx u m = n := Nat.le_antisymm (hs _ (mx_mid hm)) (mx_most hm h)
/-- The longest lengths around the first k middles. -/
def mxT (u : List Int) (k : Nat) : List Int := (List.range k).map fun m => (mx u m : Int)
def mxs (u : List Int) : List Int := mxT u (2 * u.length + 1)
theorem mxT_len (u : List Int) (k : Nat) : (mxT u k).length = k := by simp [mxT]
theorem mxs_len (u : List Int) : (mxs u).length = 2 * u.length + 1 := mxT_len _ _
theorem mxT_at {u : List Int} {k m : Nat} (h : m < k) : (mxT u k)[m]? = some (mx u m : Int) := by simp [mxT, h]
theorem mxs_at {u : List Int} {m : Nat} (h : m ≤ 2 * u.length) : (mxs u)[m]? = some (mx u m : Int) := mxT_at (by omega)
/-- The lengths found so far, zeros behind them. -/
def mxZ (u : List Int) (k : Nat) : List Int := mxT u k ++ List.replicate (2 * u.length + 1 - k) 0
theorem mxZ_len {u : List Int} {k : Nat} (h : k ≤ 2 * u.length + 1) : (mxZ u k).length = 2 * u.length + 1 := by simp [mxZ, mxT_len]; omega
theorem mxZ_zero (u : List Int) : mxZ u 0 = List.replicate (2 * u.length + 1) 0 := by simp [mxZ, mxT]
theorem mxZ_all (u : List Int) : mxZ u (2 * u.length + 1) = mxs u := by simp [mxZ, mxs]
theorem mxZ_at {u : List Int} {k m : Nat} (h : m < k) : (mxZ u k)[m]? = some (mx u m : Int) := by
  unfold mxZ
  rw [List.getElem?_append_left (by rw [mxT_len]; exact h), mxT_at h]
theorem mxZ_late {u : List Int} {k : Nat} (hk : k ≤ 2 * u.length) : (mxZ u k)[k]? = some 0 := by
  unfold mxZ
  rw [List.getElem?_append_right (by rw [mxT_len]; omega), mxT_len, Nat.sub_self, List.getElem?_replicate, if_pos (by omega)]
theorem mxZ_set {u : List Int} {k : Nat} (hk : k ≤ 2 * u.length) : (mxZ u k).set k (mx u k : Int) = mxZ u (k + 1) := by
  unfold mxZ
  rw [show 2 * u.length + 1 - k = (2 * u.length + 1 - (k + 1)) + 1 from by omega, List.replicate_succ]
  rw [show mxT u (k + 1) = mxT u k ++ [(mx u k : Int)] from by simp [mxT, List.range_succ]]
  rw [List.set_append_right _ _ (by rw [mxT_len]; omega), mxT_len, Nat.sub_self]
  simp
/-- The first middle around which the longest palindrome lies, and the palindrome's first letter. -/
theorem mx_one {u : List Int} (h : 0 < u.length) : mx u 1 = 1 := by
  refine mx_is (by omega) (mid_start u (m := 1) (by omega)) fun k hk => hk.1
/-- The longest palindrome's place and length. -/
def lgI (u : List Int) (n : Nat) : Nat → Option Nat
  | 0 => none
  | k + 1 => match lgI u n k with
    | some i => some i
    | none => if palAt u k n = true then some k else none
theorem lgI_none {u : List Int} {n : Nat} : ∀ {k : Nat}, lgI u n k = none ↔ ∀ i, i < k → palAt u i n = false
  | 0 => by simp [lgI]
  | k + 1 => by
    have ih := lgI_none (u := u) (n := n) (k := k)
    unfold lgI
    cases h : lgI u n k with
    | some j =>
      rw [h] at ih
      have : ¬ ∀ i, i < k → palAt u i n = false := fun hc => by have := ih.2 hc; cases this
      constructor
      · intro hc; cases hc
      · intro hc
        exact absurd (fun i hi => hc i (by omega)) this
    | none =>
      have h2 := ih.1 h
      simp
      constructor
      · intro h3 i hi
        by_cases e : i = k
        · subst e; exact h3
        · exact h2 i (by omega)
      · intro h3; exact h3 k (by omega)
theorem lgI_some {u : List Int} {n i : Nat} : ∀ {k : Nat}, lgI u n k = some i → i < k ∧ palAt u i n = true ∧ ∀ j, j < i → palAt u j n = false
  | 0, h => by simp [lgI] at h
  | k + 1, h => by
    unfold lgI at h
    cases h1 : lgI u n k with
    | some j =>
      rw [h1] at h
      have e : j = i := by simpa using h
      subst e
      have := lgI_some h1
      exact ⟨by omega, this.2⟩
    | none =>
      rw [h1] at h
      have h2 := lgI_none.1 h1
      simp at h
      obtain ⟨h3, rfl⟩ := h
      exact ⟨by omega, h3, h2⟩
theorem palAt_zero (u : List Int) (i : Nat) : palAt u i 0 = true := by simp [palAt, palB]
theorem palAt_one {u : List Int} {i : Nat} (h : i < u.length) : palAt u i 1 = true := by
  rw [mid_iff (by omega)]
  have := mid_start u (m := 2 * i + 1) (by omega)
  rw [show (2 * i + 1) % 2 = 1 from by omega] at this
  exact this
/-- (i, n) is the first of the longest palindromes. -/
def Lgst (u : List Int) (i n : Nat) : Prop := (u.length = 0 ∧ i = 0 ∧ n = 0) ∨ (0 < n ∧ i + n ≤ u.length ∧ palAt u i n = true ∧ (∀ j, j < i → palAt u j n = false) ∧ ∀ k j, n < k → j + k ≤ u.length → palAt u j k = false)
theorem lgst_one {u : List Int} {i n j k : Nat} (h1 : Lgst u i n) (h2 : Lgst u j k) : i = j ∧ n = k := by
  rcases h1 with ⟨h, rfl, rfl⟩ | ⟨a1, a2, a3, a4, a5⟩
  · rcases h2 with ⟨_, rfl, rfl⟩ | ⟨b1, b2, _⟩
    · exact ⟨rfl, rfl⟩
    · omega
  · rcases h2 with ⟨h, rfl, rfl⟩ | ⟨b1, b2, b3, b4, b5⟩
    · omega
    · have e : n = k := by
        rcases Nat.lt_trichotomy n k with h | h | h
        · have := a5 k j h b2; rw [b3] at this; cases this
        · exact h
        · have := b5 n i h a2; rw [a3] at this; cases this
      subst e
      refine ⟨?_, rfl⟩
      rcases Nat.lt_trichotomy i j with h | h | h
      · have := b4 i h; rw [a3] at this; cases this
      · exact h
      · have := a4 j h; rw [b3] at this; cases this
/-- The first of the greatest lengths tells the first of the longest palindromes. -/
theorem mx_lgst {u : List Int} {m n : Nat} (hm : m ≤ 2 * u.length) (hn : mx u m = n) (hmost : ∀ k, k ≤ 2 * u.length → mx u k ≤ n) (hfirst : ∀ k, k < m → mx u k ≠ n) : Lgst u ((m - n) / 2) n := by
  have hmid := mx_mid hm
  rw [hn] at hmid
  by_cases hu : u.length = 0
  · have : m = 0 := by omega
    subst this
    have : n = 0 := by have := hmid.1; omega
    subst this
    exact .inl ⟨hu, rfl, rfl⟩
  · have h1 := hmost 1 (by omega)
    rw [mx_one (by omega)] at h1
    have a1 := hmid.1
    have a2 := hmid.2.1
    have a3 := hmid.2.2.1
    refine .inr ⟨by omega, by omega, ?_, fun j hj => ?_, fun k j hk hjk => ?_⟩
    · rw [mid_iff (by omega), show 2 * ((m - n) / 2) + n = m from by omega]
      exact hmid
    · cases hp : palAt u j n with
      | false => rfl
      | true =>
        rw [mid_iff (by omega)] at hp
        have h2 := mx_most (by omega) hp
        have h3 := hmost (2 * j + n) (by omega)
        exact absurd (Nat.le_antisymm h3 h2) (hfirst _ (by omega))
    · cases hp : palAt u j k with
      | false => rfl
      | true =>
        rw [mid_iff hjk] at hp
        have h2 := mx_most (by omega) hp
        have h3 := hmost (2 * j + k) (by omega)
        omega
/-- The search for it, from the greatest length down. -/
def lgF (u : List Int) : Nat → Nat × Nat
  | 0 => (0, 0)
  | n + 1 => match lgI u (n + 1) (u.length - n) with
    | some i => (i, n + 1)
    | none => lgF u n
theorem lgF_is {u : List Int} : ∀ n, n ≤ u.length → (∀ k j, n < k → j + k ≤ u.length → palAt u j k = false) → Lgst u (lgF u n).1 (lgF u n).2
  | 0, _, hc => by
    by_cases hu : u.length = 0
    · exact .inl ⟨hu, rfl, rfl⟩
    · have := hc 1 0 (by omega) (by omega)
      rw [palAt_one (by omega)] at this
      cases this
  | n + 1, hn, hc => by
    have ih := lgF_is (u := u) n (by omega)
    unfold lgF
    cases hl : lgI u (n + 1) (u.length - n) with
    | some i =>
      have := lgI_some hl
      exact .inr ⟨by show 0 < n + 1; omega, by show i + (n + 1) ≤ _; omega, this.2.1, this.2.2, hc⟩
    | none =>
      have := lgI_none.1 hl
      refine ih fun k j hk hjk => ?_
      by_cases e : k = n + 1
      · subst e; exact this j (by omega)
      · exact hc k j (by omega) hjk
def lgP (u : List Int) : Nat := (lgF u u.length).1
def lgN (u : List Int) : Nat := (lgF u u.length).2
theorem lg_lgst (u : List Int) : Lgst u (lgP u) (lgN u) := lgF_is u.length (Nat.le_refl _) fun k j hk hjk => by omega
theorem lg_is {u : List Int} {i n : Nat} (h : Lgst u i n) : i = lgP u ∧ n = lgN u := lgst_one h (lg_lgst u)
theorem lg_le (u : List Int) : lgP u + lgN u ≤ u.length := by
  rcases lg_lgst u with ⟨_, h1, h2⟩ | h
  · omega
  · exact h.2.1
end Go.Proofs.Ytgbgcaaekpgapab.Plain
