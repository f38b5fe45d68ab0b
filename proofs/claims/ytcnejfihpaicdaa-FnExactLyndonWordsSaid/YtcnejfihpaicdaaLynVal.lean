/- Plain facts on Lyndon words: a word that is less than each of its proper ends; two of them, the less first, make up one; the longest beginning that is one (lyL) and the division of a word that it gives (lynF); what the search of Duval knows at each step; the longest proper end that is a Lyndon word. No conditions beyond those that each fact states. -/
import Derived.Test.YtcnejfihpaicdaaSqN
namespace Go.Proofs.Ytcnejfihpaicdaa.Plain

theorem le_three (u v : List Int) : cmpW u v < 0 ∨ u = v ∨ cmpW v u < 0 := by
  rcases cmpW_three u v with h | h | h
  · exact .inl (by omega)
  · exact .inr (.inl (cmpW_zero _ _ h))
  · exact .inr (.inr (by rw [cmpW_neg u v]; omega))
theorem lt_le {u v t : List Int} (h : cmpW u v < 0) (k : cmpW v t ≤ 0) : cmpW u t < 0 := by
  rcases cmpW_three v t with e | e | e
  · exact cmpW_trans _ _ _ h (by omega)
  · rw [← cmpW_zero _ _ e]; exact h
  · omega
theorem le_lt {u v t : List Int} (h : cmpW u v ≤ 0) (k : cmpW v t < 0) : cmpW u t < 0 := by
  rcases cmpW_three u v with e | e | e
  · exact cmpW_trans _ _ _ (by omega) k
  · rw [cmpW_zero _ _ e]; exact k
  · omega
theorem le_le {u v t : List Int} (h : cmpW u v ≤ 0) (k : cmpW v t ≤ 0) : cmpW u t ≤ 0 := by
  rcases cmpW_three u v with e | e | e
  · have := lt_le (u := u) (by omega) k; omega
  · rw [cmpW_zero _ _ e]; exact k
  · omega
theorem not_lt_le {u v : List Int} (h : ¬ cmpW u v < 0) : cmpW v u ≤ 0 := by rw [cmpW_neg u v]; omega
theorem lt_irr {u : List Int} (h : cmpW u u < 0) : False := by rw [cmpW_self] at h; omega
theorem pre_le (u t : List Int) : cmpW u (u ++ t) ≤ 0 := by
  have h := cmpW_pre u [] t
  rw [List.append_nil] at h
  rw [h]
  cases t <;> simp [cmpW]
theorem take_le (u : List Int) (n : Nat) : cmpW (u.take n) u ≤ 0 := by
  have h := pre_le (u.take n) (u.drop n)
  rwa [List.take_append_drop] at h
/-- The first letter in which two words differ. -/
theorem lt_at : ∀ {d : Nat} {u v : List Int} {x y : Int}, (∀ t, t < d → u[t]? = v[t]?) → u[d]? = some x → v[d]? = some y → x < y → cmpW u v < 0
  | 0, [], _, _, _, _, h, _, _ => by simp at h
  | 0, _ :: _, [], _, _, _, _, h, _ => by simp at h
  | 0, a :: u, b :: v, x, y, _, h1, h2, h => by
    simp at h1 h2
    subst h1; subst h2
    simp [cmpW, h]
  | d + 1, [], _, _, _, _, h, _, _ => by simp at h
  | d + 1, _ :: _, [], _, _, _, _, h, _ => by simp at h
  | d + 1, a :: u, b :: v, x, y, he, h1, h2, h => by
    have h0 := he 0 (by omega)
    simp at h0
    subst h0
    have ih := lt_at (d := d) (u := u) (v := v) (x := x) (y := y) (fun t ht => by have := he (t + 1) (by omega); simpa using this) (by simpa using h1) (by simpa using h2) h
    simpa [cmpW] using ih
theorem lt_split : ∀ {u v : List Int}, cmpW u v < 0 → (∃ t, 0 < t.length ∧ v = u ++ t) ∨ ∃ (d : Nat) (x y : Int), (∀ t, t < d → u[t]? = v[t]?) ∧ u[d]? = some x ∧ v[d]? = some y ∧ x < y
  | [], [], h => by simp [cmpW] at h
  | [], b :: v, _ => .inl ⟨b :: v, by simp, rfl⟩
  | _ :: _, [], h => by simp [cmpW] at h
  | a :: u, b :: v, h => by
    unfold cmpW at h
    by_cases h1 : a < b
    · exact .inr ⟨0, a, b, fun t ht => by omega, by simp, by simp, h1⟩
    · rw [if_neg h1] at h
      by_cases h2 : b < a
      · rw [if_pos h2] at h; omega
      · rw [if_neg h2] at h
        obtain rfl : a = b := by omega
        rcases lt_split h with ⟨t, ht, rfl⟩ | ⟨d, x, y, he, hx, hy, hxy⟩
        · exact .inl ⟨t, ht, rfl⟩
        · refine .inr ⟨d + 1, x, y, fun t ht => ?_, by simpa using hx, by simpa using hy, hxy⟩
          cases t with
          | zero => simp
          | succ t => simpa using he t (by omega)
theorem lt_find {u v : List Int} (h : cmpW u v < 0) (hl : v.length ≤ u.length) : ∃ (d : Nat) (x y : Int), (∀ t, t < d → u[t]? = v[t]?) ∧ u[d]? = some x ∧ v[d]? = some y ∧ x < y := by
  rcases lt_split h with ⟨t, ht, rfl⟩ | h
  · rw [List.length_append] at hl; omega
  · exact h
theorem lt_app {u v : List Int} (a b : List Int) (h : ∃ (d : Nat) (x y : Int), (∀ t, t < d → u[t]? = v[t]?) ∧ u[d]? = some x ∧ v[d]? = some y ∧ x < y) : cmpW (u ++ a) (v ++ b) < 0 := by
  obtain ⟨d, x, y, he, hx, hy, hxy⟩ := h
  have hu := (List.getElem?_eq_some_iff.1 hx).1
  have hv := (List.getElem?_eq_some_iff.1 hy).1
  refine lt_at (d := d) (x := x) (y := y) (fun t ht => ?_) ?_ ?_ hxy
  · rw [List.getElem?_append_left (by omega), List.getElem?_append_left (by omega)]; exact he t ht
  · rw [List.getElem?_append_left hu]; exact hx
  · rw [List.getElem?_append_left hv]; exact hy

/-- A Lyndon word: not empty, and less than each of its proper ends. -/
def Lyn (u : List Int) : Prop := 0 < u.length ∧ ∀ k, 0 < k → k < u.length → cmpW u (u.drop k) < 0
def lyB (u : List Int) : Bool := decide (0 < u.length) && (List.range u.length).all fun k => decide (k = 0) || decide (cmpW u (u.drop k) < 0)
theorem lyB_iff {u : List Int} : lyB u = true ↔ Lyn u := by
  simp only [lyB, Lyn, Bool.and_eq_true, decide_eq_true_eq, List.all_eq_true, List.mem_range, Bool.or_eq_true]
  constructor
  · rintro ⟨h0, h⟩
    refine ⟨h0, fun k hk hl => ?_⟩
    rcases h k hl with e | e
    · omega
    · exact e
  · rintro ⟨h0, h⟩
    refine ⟨h0, fun k hl => ?_⟩
    by_cases hk : k = 0
    · exact .inl hk
    · exact .inr (h k (by omega) hl)
theorem lyn_one (x : Int) : Lyn [x] := ⟨by simp, fun k h0 h1 => by simp at h1; omega⟩
theorem lyn_append {u v : List Int} (hu : Lyn u) (hv : Lyn v) (h : cmpW u v < 0) : Lyn (u ++ v) := by
  have hlt : cmpW (u ++ v) v < 0 := by
    rcases lt_split h with ⟨t, ht, rfl⟩ | h
    · rw [cmpW_pre]
      have := hv.2 u.length hu.1 (by rw [List.length_append]; omega)
      rwa [List.drop_left] at this
    · have := lt_app v [] h
      rwa [List.append_nil] at this
  refine ⟨by rw [List.length_append]; have := hu.1; omega, fun k h0 hk => ?_⟩
  by_cases hku : k < u.length
  · have h1 := hu.2 k h0 hku
    rw [List.drop_append_of_le_length (by omega)]
    exact lt_app _ _ (lt_find h1 (by simp))
  · rw [List.length_append] at hk
    obtain ⟨j, rfl⟩ : ∃ j, k = u.length + j := ⟨k - u.length, by omega⟩
    rw [List.drop_append]
    by_cases hj : j = 0
    · subst hj; simpa using hlt
    · refine lt_le hlt ?_
      have := hv.2 j (by omega) (by omega)
      have e : List.drop (u.length + j) u ++ List.drop (u.length + j - u.length) v = v.drop j := by
        rw [List.drop_eq_nil_of_le (by omega), show u.length + j - u.length = j from by omega, List.nil_append]
      rw [e]
      omega

/-- The length of the longest beginning, of at most m letters, that is a Lyndon word. -/
def lyM (w : List Int) : Nat → Nat
  | 0 => 0
  | m + 1 => if lyB (w.take (m + 1)) then m + 1 else lyM w m
def lyL (w : List Int) : Nat := lyM w w.length
theorem lyM_spec (w : List Int) (x : Int) (hx : w[0]? = some x) : ∀ m, 0 < m → m ≤ w.length → 0 < lyM w m ∧ lyM w m ≤ m ∧ Lyn (w.take (lyM w m)) ∧ ∀ p, lyM w m < p → p ≤ m → ¬ Lyn (w.take p)
  | 0, h, _ => by omega
  | m + 1, _, hm => by
    unfold lyM
    by_cases hb : lyB (w.take (m + 1)) = true
    · rw [if_pos hb]
      exact ⟨by omega, by omega, lyB_iff.1 hb, fun p h1 h2 => by omega⟩
    · rw [if_neg hb]
      have hn : ¬ Lyn (w.take (m + 1)) := fun h => hb (lyB_iff.2 h)
      by_cases h0 : m = 0
      · subst h0
        exfalso
        apply hn
        cases w with
        | nil => simp at hx
        | cons a w => simpa using lyn_one a
      · obtain ⟨h1, h2, h3, h4⟩ := lyM_spec w x hx m (by omega) (by omega)
        refine ⟨h1, by omega, h3, fun p hp hq => ?_⟩
        by_cases e : p = m + 1
        · rw [e]; exact hn
        · exact h4 p hp (by omega)
theorem lyL_spec {w : List Int} (h : 0 < w.length) : 0 < lyL w ∧ lyL w ≤ w.length ∧ Lyn (w.take (lyL w)) ∧ ∀ p, lyL w < p → p ≤ w.length → ¬ Lyn (w.take p) :=
  lyM_spec w _ (List.getElem?_eq_getElem h) w.length h (Nat.le_refl _)
theorem lyL_unique {w : List Int} {p : Nat} (h0 : 0 < p) (hp : p ≤ w.length) (hl : Lyn (w.take p)) (hm : ∀ q, p < q → q ≤ w.length → ¬ Lyn (w.take q)) : lyL w = p := by
  obtain ⟨h1, h2, h3, h4⟩ := lyL_spec (w := w) (by omega)
  rcases Nat.lt_trichotomy (lyL w) p with h | h | h
  · exact absurd hl (h4 p h hp)
  · exact h
  · exact absurd h3 (hm _ h h2)
def lynG : Nat → List Int → List (List Int)
  | 0, _ => []
  | n + 1, w => if w.length = 0 then [] else w.take (lyL w) :: lynG n (w.drop (lyL w))
/-- The division of a word into Lyndon words of which none is less than the next one. -/
def lynF (w : List Int) : List (List Int) := lynG w.length w
theorem lynG_fuel : ∀ (n m : Nat) (w : List Int), w.length ≤ n → w.length ≤ m → lynG n w = lynG m w
  | 0, 0, _, _, _ => rfl
  | 0, m + 1, w, h, _ => by simp [lynG, show w.length = 0 from by omega]
  | n + 1, 0, w, _, h => by simp [lynG, show w.length = 0 from by omega]
  | n + 1, m + 1, w, h1, h2 => by
    unfold lynG
    by_cases h0 : w.length = 0
    · rw [if_pos h0, if_pos h0]
    · rw [if_neg h0, if_neg h0]
      have := (lyL_spec (w := w) (by omega)).1
      rw [lynG_fuel n m (w.drop (lyL w)) (by rw [List.length_drop]; omega) (by rw [List.length_drop]; omega)]
theorem lynF_nil {w : List Int} (h : w.length = 0) : lynF w = [] := by simp [lynF, h, lynG]
theorem lynF_cons {w : List Int} (h : 0 < w.length) : lynF w = w.take (lyL w) :: lynF (w.drop (lyL w)) := by
  have h1 := (lyL_spec h).1
  unfold lynF
  obtain ⟨n, hn⟩ : ∃ n, w.length = n + 1 := ⟨w.length - 1, by omega⟩
  conv => lhs; rw [hn]; unfold lynG
  rw [if_neg (by omega)]
  congr 1
  exact lynG_fuel _ _ _ (by rw [List.length_drop]; omega) (Nat.le_refl _)
theorem lynF_ind {P : List Int → Prop} (h0 : ∀ w, w.length = 0 → P w) (h : ∀ w, 0 < w.length → P (w.drop (lyL w)) → P w) (w : List Int) : P w := by
  suffices h' : ∀ n (w : List Int), w.length ≤ n → P w from h' _ w (Nat.le_refl _)
  intro n
  induction n with
  | zero => intro w hw; exact h0 w (by omega)
  | succ n ih =>
    intro w hw
    by_cases e : w.length = 0
    · exact h0 w e
    · have := (lyL_spec (w := w) (by omega)).1
      exact h w (by omega) (ih _ (by rw [List.length_drop]; omega))
theorem lynF_join (w : List Int) : (lynF w).flatten = w := by
  refine lynF_ind (P := fun w => (lynF w).flatten = w) (fun w h => ?_) (fun w h ih => ?_) w
  · rw [lynF_nil h]
    cases w with
    | nil => rfl
    | cons a w => simp at h
  · rw [lynF_cons h, List.flatten_cons, ih, List.take_append_drop]
theorem lynF_lyn (w : List Int) : ∀ x ∈ lynF w, Lyn x := by
  refine lynF_ind (P := fun w => ∀ x ∈ lynF w, Lyn x) (fun w h => ?_) (fun w h ih => ?_) w
  · rw [lynF_nil h]; simp
  · rw [lynF_cons h]
    intro x hx
    rcases List.mem_cons.1 hx with rfl | hx
    · exact (lyL_spec h).2.2.1
    · exact ih x hx
theorem drop_take_app (w : List Int) (p q : Nat) : w.take p ++ (w.drop p).take q = w.take (p + q) := by rw [List.take_add]
/-- None is less than the next one. -/
theorem lynF_down (w : List Int) : ∀ i x y, (lynF w)[i]? = some x → (lynF w)[i + 1]? = some y → cmpW y x ≤ 0 := by
  refine lynF_ind (P := fun w => ∀ i x y, (lynF w)[i]? = some x → (lynF w)[i + 1]? = some y → cmpW y x ≤ 0) (fun w h => ?_) (fun w h ih => ?_) w
  · rw [lynF_nil h]; intro i x y hx; simp at hx
  · rw [lynF_cons h]
    intro i x y hx hy
    cases i with
    | succ i => exact ih i x y (by simpa using hx) (by simpa using hy)
    | zero =>
      obtain rfl : w.take (lyL w) = x := by simpa using hx
      have hy : (lynF (w.drop (lyL w)))[0]? = some y := by simpa using hy
      by_cases h0 : (w.drop (lyL w)).length = 0
      · rw [lynF_nil h0] at hy; simp at hy
      · have hd : 0 < (w.drop (lyL w)).length := by omega
        rw [lynF_cons hd] at hy
        obtain rfl : (w.drop (lyL w)).take (lyL (w.drop (lyL w))) = y := by simpa using hy
        apply not_lt_le
        intro hlt
        obtain ⟨h1, h2, h3, h4⟩ := lyL_spec h
        obtain ⟨k1, k2, k3, _⟩ := lyL_spec hd
        have := lyn_append h3 k3 hlt
        rw [drop_take_app] at this
        rw [List.length_drop] at k2
        exact h4 _ (by omega) (by omega) this
theorem lynF_chain (w : List Int) : ∀ (i : Nat) (x z : List Int), (lynF w)[0]? = some x → (lynF w)[i]? = some z → cmpW z x ≤ 0
  | 0, x, z, h1, h2 => by
    rw [h1] at h2
    injection h2 with h2
    rw [h2, cmpW_self]; omega
  | i + 1, x, z, h1, h2 => by
    have hi := (List.getElem?_eq_some_iff.1 h2).1
    have h3 : (lynF w)[i]? = some (lynF w)[i] := List.getElem?_eq_getElem (by omega)
    exact le_le (lynF_down w i _ z h3 h2) (lynF_chain w i x _ h1 h3)
theorem lynF_one {w : List Int} (h : 0 < w.length) : (lynF w).length = 1 ↔ Lyn w := by
  obtain ⟨h1, h2, h3, h4⟩ := lyL_spec h
  rw [lynF_cons h, List.length_cons]
  constructor
  · intro e
    by_cases hd : (w.drop (lyL w)).length = 0
    · rw [List.length_drop] at hd
      rwa [List.take_of_length_le (by omega)] at h3
    · rw [lynF_cons (by omega)] at e; simp at e
  · intro hw
    have : lyL w = w.length := by
      rcases Nat.lt_or_ge (lyL w) w.length with hlt | hge
      · exact absurd (by rwa [List.take_length]) (h4 w.length hlt (Nat.le_refl _))
      · omega
    rw [this, List.drop_length, lynF_nil rfl]; rfl

/-! ### The search of Duval -/
/-- What is known at i, j, k: the letters from i on, up to j, repeat a Lyndon word of j - k letters. -/
structure Duv (w : List Int) (i j k : Nat) : Prop where
  ik : i ≤ k
  kj : k < j
  jn : j ≤ w.length
  lyn : Lyn ((w.drop i).take (j - k))
  per : ∀ t, i ≤ t → t + (j - k) < j → w[t + (j - k)]? = w[t]?
theorem Duv.start {w : List Int} {i : Nat} (h : i < w.length) : Duv w i (i + 1) i := by
  refine ⟨Nat.le_refl _, by omega, by omega, ?_, fun t h1 h2 => by omega⟩
  rw [show i + 1 - i = 1 from by omega, List.drop_eq_getElem_cons h]
  exact lyn_one _
theorem Duv.same {w : List Int} {i j k : Nat} (h : Duv w i j k) (hj : j < w.length) (he : w[k]? = w[j]?) : Duv w i (j + 1) (k + 1) := by
  have h1 := h.ik; have h2 := h.kj
  refine ⟨by omega, by omega, by omega, by rw [show j + 1 - (k + 1) = j - k from by omega]; exact h.lyn, fun t h3 h4 => ?_⟩
  rw [show j + 1 - (k + 1) = j - k from by omega] at h4 ⊢
  by_cases e : t + (j - k) = j
  · rw [e, show t = k from by omega, he]
  · exact h.per t h3 (by omega)
/-- Letters a whole number of periods apart. -/
theorem Duv.far {w : List Int} {i j k : Nat} (h : Duv w i j k) : ∀ n t, i ≤ t → t + n * (j - k) < j → w[t + n * (j - k)]? = w[t]?
  | 0, t, _, _ => by simp
  | n + 1, t, h1, h2 => by
    rw [Nat.succ_mul] at h2 ⊢
    rw [← Nat.add_assoc, h.per _ (by omega) (by omega)]
    exact h.far n t h1 (by omega)
theorem at_take_drop {w : List Int} {i m t : Nat} (h : t < m) : ((w.drop i).take m)[t]? = w[i + t]? := by
  rw [List.getElem?_take_of_lt h, List.getElem?_drop]
theorem at_drop_take_drop {w : List Int} {i m q t : Nat} (h : q + t < m) : (((w.drop i).take m).drop q)[t]? = w[i + q + t]? := by
  rw [List.getElem?_drop, at_take_drop h, Nat.add_assoc]
/-- A greater letter behind the repetition: all of it is a Lyndon word. -/
theorem Duv.more {w : List Int} {i j k : Nat} (h : Duv w i j k) {a b : Int} (ha : w[k]? = some a) (hb : w[j]? = some b) (hab : a < b) : Duv w i (j + 1) i := by
  have h1 := h.ik; have h2 := h.kj
  have hj := (List.getElem?_eq_some_iff.1 hb).1
  have hL := h.lyn
  have hfar := h.far
  refine ⟨Nat.le_refl _, by omega, by omega, ?_, fun t h3 h4 => by omega⟩
  obtain ⟨p, hp⟩ : ∃ p, p = j - k := ⟨_, rfl⟩
  rw [← hp] at hL hfar
  have hlen : ((w.drop i).take (j + 1 - i)).length = j + 1 - i := by rw [List.length_take, List.length_drop]; omega
  have hlp : ((w.drop i).take p).length = p := by rw [List.length_take, List.length_drop]; omega
  refine ⟨by omega, fun q hq0 hq => ?_⟩
  rw [hlen] at hq
  -- q = n * p + r
  have hdm := Nat.div_add_mod q p
  have hr := Nat.mod_lt q (show 0 < p by omega)
  generalize hn : q / p = n at hdm
  generalize hrr : q % p = r at hdm hr
  have hnp : p * n = n * p := Nat.mul_comm _ _
  rw [hnp] at hdm
  clear hnp hn hrr
  -- the letter at t of the end that begins at q, while it is ahead of j
  have hat : ∀ t, q + t < j - i → w[i + q + t]? = w[i + r + t]? := fun t ht => by
    have := hfar n (i + r + t) (by omega) (by omega)
    rw [← this]
    congr 1
    omega
  -- the letter that the repetition would have had at j
  have hk : 0 < n → w[k]? = w[i + r + (j - i - q)]? := fun hn => by
    obtain ⟨n', rfl⟩ : ∃ n', n = n' + 1 := ⟨n - 1, by omega⟩
    rw [Nat.succ_mul] at hdm
    have := hfar n' (i + r + (j - i - q)) (by omega) (by omega)
    rw [← this]
    congr 1
    omega
  have hx : ∀ t, t < j + 1 - i → ((w.drop i).take (j + 1 - i))[t]? = w[i + t]? := fun t ht => at_take_drop ht
  have hy : ∀ t, q + t < j + 1 - i → (((w.drop i).take (j + 1 - i)).drop q)[t]? = w[i + q + t]? := fun t ht => at_drop_take_drop ht
  have hend : (((w.drop i).take (j + 1 - i)).drop q)[j - i - q]? = some b := by
    rw [hy _ (by omega), show i + q + (j - i - q) = j from by omega, hb]
  by_cases hr0 : r = 0
  · subst hr0
    have hn : 0 < n := by
      rcases Nat.eq_zero_or_pos n with e | e
      · subst e; rw [Nat.zero_mul] at hdm; omega
      · exact e
    refine lt_at (d := j - i - q) (x := a) (y := b) (fun t ht => ?_) ?_ hend hab
    · rw [hx t (by omega), hy t (by omega), hat t (by omega), Nat.add_zero]
    · rw [hx _ (by omega), ← ha, hk hn, Nat.add_zero]
  · obtain ⟨d, x, y, he, hxd, hyd, hxy⟩ := lt_find (hL.2 r (by omega) (by omega)) (by simp)
    have hdl : d < p - r := by
      have := (List.getElem?_eq_some_iff.1 hyd).1
      rw [List.length_drop] at this
      omega
    rw [at_take_drop (by omega)] at hxd
    rw [at_drop_take_drop (by omega)] at hyd
    have he : ∀ t, t < d → w[i + t]? = w[i + r + t]? := fun t ht => by
      have := he t ht
      rwa [at_take_drop (by omega), at_drop_take_drop (by omega)] at this
    by_cases hc : q + d < j - i
    · refine lt_at (d := d) (x := x) (y := y) (fun t ht => ?_) ?_ ?_ hxy
      · rw [hx t (by omega), hy t (by omega), hat t (by omega), he t ht]
      · rw [hx _ (by omega), hxd]
      · rw [hy _ (by omega), hat _ hc, hyd]
    · have hn : 0 < n := by
        rcases Nat.eq_zero_or_pos n with e | e
        · subst e; rw [Nat.zero_mul] at hdm; omega
        · exact e
      have hka := hk hn
      rw [ha] at hka
      by_cases hd : j - i - q < d
      · refine lt_at (d := j - i - q) (x := a) (y := b) (fun t ht => ?_) ?_ hend hab
        · rw [hx t (by omega), hy t (by omega), hat t (by omega), he t (by omega)]
        · rw [hx _ (by omega), he _ hd, ← hka]
      · obtain hd : j - i - q = d := by omega
        rw [hd] at hka hend
        rw [← hka] at hyd
        injection hyd with hyd
        refine lt_at (d := d) (x := x) (y := b) (fun t ht => ?_) ?_ hend (by omega)
        · rw [hx t (by omega), hy t (by omega), hat t (by omega), he t (by omega)]
        · rw [hx _ (by omega), hxd]
/-- Where the repetition ends (the word ends, or a less letter comes): its word is the longest beginning that is a Lyndon word. -/
theorem Duv.emit {w : List Int} {i j k : Nat} (h : Duv w i j k) (hs : j = w.length ∨ ∃ a b : Int, w[k]? = some a ∧ w[j]? = some b ∧ b < a) : lyL (w.drop i) = j - k := by
  have h1 := h.ik; have h2 := h.kj; have h3 := h.jn
  refine lyL_unique (by omega) (by rw [List.length_drop]; omega) h.lyn (fun q hq hql hL => ?_)
  rw [List.length_drop] at hql
  have hlen : ((w.drop i).take q).length = q := by rw [List.length_take, List.length_drop]; omega
  obtain ⟨d, x, z, he, hx, hz, hxz⟩ := lt_find (hL.2 (j - k) (by omega) (by omega)) (by simp)
  have hd : d < q - (j - k) := by
    have := (List.getElem?_eq_some_iff.1 hz).1
    rw [List.length_drop] at this
    omega
  rw [at_take_drop (by omega)] at hx
  rw [at_drop_take_drop (by omega)] at hz
  have he : ∀ t, t < d → w[i + t]? = w[i + (j - k) + t]? := fun t ht => by
    have := he t ht
    rwa [at_take_drop (by omega), at_drop_take_drop (by omega)] at this
  by_cases hc : i + d + (j - k) < j
  · have := h.per (i + d) (by omega) hc
    rw [show i + d + (j - k) = i + (j - k) + d from by omega, hz, hx] at this
    injection this with this
    omega
  · rcases hs with e | ⟨a, b, ha, hb, hab⟩
    · have := (List.getElem?_eq_some_iff.1 hz).1
      omega
    · by_cases hdk : k - i < d
      · have := he _ hdk
        rw [show i + (k - i) = k from by omega, show i + (j - k) + (k - i) = j from by omega, ha, hb] at this
        injection this with this
        omega
      · obtain rfl : d = k - i := by omega
        rw [show i + (k - i) = k from by omega, ha] at hx
        rw [show i + (j - k) + (k - i) = j from by omega, hb] at hz
        injection hx with hx
        injection hz with hz
        omega
theorem Duv.next {w : List Int} {i j k : Nat} (h : Duv w i j k) (hk : i + (j - k) ≤ k) : Duv w (i + (j - k)) j k := by
  have h1 := h.ik; have h2 := h.kj; have h3 := h.jn
  refine ⟨hk, h2, h3, ?_, fun t h4 h5 => h.per t (by omega) h5⟩
  have : (w.drop (i + (j - k))).take (j - k) = (w.drop i).take (j - k) := by
    apply List.ext_getElem?
    intro t
    by_cases ht : t < j - k
    · rw [at_take_drop ht, at_take_drop ht, show i + (j - k) + t = i + t + (j - k) from by omega]
      exact h.per _ (by omega) (by omega)
    · rw [List.getElem?_eq_none (by rw [List.length_take]; omega), List.getElem?_eq_none (by rw [List.length_take]; omega)]
  rw [this]
  exact h.lyn
theorem Duv.out {w : List Int} {i j k : Nat} (h : Duv w i j k) (hs : j = w.length ∨ ∃ a b : Int, w[k]? = some a ∧ w[j]? = some b ∧ b < a) : lynF (w.drop i) = (w.drop i).take (j - k) :: lynF (w.drop (i + (j - k))) := by
  have h1 := h.ik; have h2 := h.kj; have h3 := h.jn
  rw [lynF_cons (by rw [List.length_drop]; omega), h.emit hs, List.drop_drop]

theorem lyn_lyL {w : List Int} (h : 0 < w.length) : Lyn w ↔ lyL w = w.length := by
  obtain ⟨h1, h2, h3, h4⟩ := lyL_spec h
  constructor
  · intro hw
    rcases Nat.lt_or_ge (lyL w) w.length with hlt | hge
    · exact absurd (by rwa [List.take_length]) (h4 w.length hlt (Nat.le_refl _))
    · omega
  · intro e
    rw [e, List.take_length] at h3
    exact h3
/-- One pass of the search, from the beginning: where it stops at the end with k at the beginning the word is a Lyndon word, else it is none. -/
theorem Duv.tell {w : List Int} {j k : Nat} (h : Duv w 0 j k) (hs : j = w.length ∨ ∃ a b : Int, w[k]? = some a ∧ w[j]? = some b ∧ b < a) : Lyn w ↔ j = w.length ∧ k = 0 := by
  have h1 := h.kj; have h2 := h.jn
  have e := h.emit hs
  rw [List.drop_zero] at e
  rw [lyn_lyL (by omega), e]
  omega

/-! ### The longest proper end that is a Lyndon word -/
theorem lyn_last {w : List Int} (h : 0 < w.length) : Lyn (w.drop (w.length - 1)) := by
  rw [List.drop_eq_getElem_cons (show w.length - 1 < w.length by omega), List.drop_eq_nil_of_le (by omega)]
  exact lyn_one _
theorem lyn_split {w : List Int} {k : Nat} (hw : Lyn w) (h0 : 0 < k) (hk : k < w.length) (hv : Lyn (w.drop k)) (hmin : ∀ q, 0 < q → q < k → ¬ Lyn (w.drop q)) : Lyn (w.take k) ∧ cmpW (w.take k) (w.drop k) < 0 := by
  have hwv := hw.2 k h0 hk
  refine ⟨?_, le_lt (take_le w k) hwv⟩
  have hul : (w.take k).length = k := by rw [List.length_take]; omega
  refine Classical.byContradiction fun hu => ?_
  obtain ⟨l, hl⟩ : ∃ l, l = lynF (w.take k) := ⟨_, rfl⟩
  have hne : l.length ≠ 1 := fun e => hu ((lynF_one (by omega)).1 (by rw [← hl]; exact e))
  have hpos : 0 < l.length := by rw [hl, lynF_cons (by omega)]; simp
  obtain ⟨m, hm⟩ : ∃ m, l.length = m + 1 := ⟨l.length - 1, by omega⟩
  have h1 : l[0]? = some l[0] := List.getElem?_eq_getElem hpos
  have h2 : l[m]? = some l[m] := List.getElem?_eq_getElem (by omega)
  have hj : l.flatten = w.take k := by rw [hl]; exact lynF_join _
  have hx : Lyn l[m] := lynF_lyn (w.take k) _ (by rw [← hl]; exact List.getElem_mem _)
  have hx1 : Lyn l[0] := lynF_lyn (w.take k) _ (by rw [← hl]; exact List.getElem_mem _)
  have hchain : cmpW l[m] l[0] ≤ 0 := lynF_chain (w.take k) m _ _ (by rw [← hl]; exact h1) (by rw [← hl]; exact h2)
  have hsplit : l = l.take m ++ [l[m]] := by
    have := List.take_append_drop m l
    rw [List.drop_eq_getElem_cons (show m < l.length by omega), List.drop_eq_nil_of_le (show l.length ≤ m + 1 by omega)] at this
    exact this.symm
  obtain ⟨q, hq⟩ : ∃ q, q = (l.take m).flatten.length := ⟨_, rfl⟩
  have hu2 : w.take k = (l.take m).flatten ++ l[m] := by
    have := congrArg List.flatten hsplit
    rw [hj, List.flatten_append] at this
    rw [this]
    simp
  have hfirst : l.take m = l[0] :: (l.take m).drop 1 := by
    obtain ⟨m', rfl⟩ : ∃ m', m = m' + 1 := ⟨m - 1, by omega⟩
    cases l with
    | nil => simp at hpos
    | cons x l => simp
  have hq0 : 0 < q := by
    rw [hq, hfirst, List.flatten_cons, List.length_append]
    have := hx1.1
    omega
  have hqk : q + l[m].length = k := by rw [← hul, hu2, List.length_append, hq]
  have hxp := hx.1
  have hdrop : w.drop q = l[m] ++ w.drop k := by
    have e : w = ((l.take m).flatten ++ l[m]) ++ w.drop k := by rw [← hu2, List.take_append_drop]
    conv => lhs; rw [e, List.append_assoc, hq, List.drop_left]
  have hno : ¬ cmpW l[m] (w.drop k) < 0 := fun h => hmin q hq0 (by omega) (by rw [hdrop]; exact lyn_append hx hv h)
  have hle1 : cmpW l[0] (w.take k) ≤ 0 := by
    have := pre_le l[0] (((l.take m).drop 1).flatten ++ l[m])
    rw [← List.append_assoc, ← List.flatten_cons, ← hfirst, ← hu2] at this
    exact this
  have := le_le (le_le (le_le (not_lt_le hno) hchain) hle1) (take_le w k)
  exact lt_irr (lt_le hwv this)
end Go.Proofs.Ytcnejfihpaicdaa.Plain
