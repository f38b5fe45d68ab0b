/- Plain facts on runs: a run holds a Lyndon word of its period's length (in the order of letters or in its reverse) behind its first letter, which is the longest one from there; two different runs begin theirs at different places; so a word has fewer runs than letters. Every square lies in a run whose period divides its own. No conditions beyond those that each fact states. -/
import Derived.Test.YtcnejfihpaicdaaLynVal
set_option linter.unusedVariables false
namespace Go.Proofs.Ytcnejfihpaicdaa.Plain

theorem nat_least {P : Nat → Prop} : ∀ n, P n → ∃ m, m ≤ n ∧ P m ∧ ∀ q, q < m → ¬ P q := by
  intro n
  induction n using Nat.strongRecOn with
  | ind n ih =>
    intro h
    by_cases hq : ∃ q, q < n ∧ P q
    · obtain ⟨q, hq, hp⟩ := hq
      obtain ⟨m, h1, h2, h3⟩ := ih q hq hp
      exact ⟨m, by omega, h2, h3⟩
    · exact ⟨n, Nat.le_refl _, h, fun q h1 h2 => hq ⟨q, h1, h2⟩⟩
/-- The least of its turns, if they are different: a Lyndon word. -/
theorem lyn_of_least {l : List Int} (hp : Prim l) (hl : Lst l) : Lyn l := by
  refine ⟨hp.1, fun k h0 hk => ?_⟩
  refine Classical.byContradiction fun hn => ?_
  have hle := not_lt_le hn
  have hne : cmpW (l.drop k) l ≠ 0 := fun e => by
    have := congrArg List.length (cmpW_zero _ _ e)
    rw [List.length_drop] at this
    omega
  rcases lt_split (u := l.drop k) (v := l) (by omega) with ⟨t, ht, he⟩ | h
  · refine unb hp hl h0 hk fun i hi => ?_
    have h1 : (l.drop k)[i]? = l[i]? := by
      conv => rhs; rw [he]
      rw [List.getElem?_append_left (by rw [List.length_drop]; omega)]
    rw [List.getElem?_drop] at h1
    rw [Nat.add_comm, h1]
  · have h1 := lt_app (l.take k) [] h
    rw [List.append_nil, ← pw_turn (by omega)] at h1
    exact lt_irr (lt_le h1 (hl k))

/-- A run of w: the letters from i up to j repeat with the period p, no less one, at least twice; it can't be made longer. -/
structure Rn (w : List Int) (i j p : Nat) : Prop where
  p0 : 0 < p
  two : i + 2 * p ≤ j
  jn : j ≤ w.length
  per : ∀ t, i ≤ t → t + p < j → w[t + p]? = w[t]?
  min : ∀ q, 0 < q → q < p → ¬ ∀ t, i ≤ t → t + q < j → w[t + q]? = w[t]?
  left : i = 0 ∨ w[i - 1]? ≠ w[i - 1 + p]?
  right : j = w.length ∨ w[j]? ≠ w[j - p]?
def ng (w : List Int) : List Int := w.map fun x => -x
theorem ng_at (w : List Int) (t : Nat) : (ng w)[t]? = (w[t]?).map fun x => -x := by simp [ng]
theorem ng_len (w : List Int) : (ng w).length = w.length := by simp [ng]
theorem ng_eq {w : List Int} {a b : Nat} : (ng w)[a]? = (ng w)[b]? ↔ w[a]? = w[b]? := by
  rw [ng_at, ng_at]
  cases w[a]? <;> cases w[b]? <;> simp
theorem per_any {v : List Int} {i j p : Nat} (h0 : 0 < p) (hij : i + p ≤ j) (hper : ∀ t, i ≤ t → t + p < j → v[t + p]? = v[t]?) : ∀ t, i + t < j → v[i + t]? = v[i + t % p]? := fun t => by
  induction t using Nat.strongRecOn with
  | ind t ih =>
    intro ht
    rcases Nat.lt_or_ge t p with h1 | h1
    · rw [Nat.mod_eq_of_lt h1]
    · have h2 := ih (t - p) (by omega) (by omega)
      have h3 := hper (i + (t - p)) (by omega) (by omega)
      rw [show i + (t - p) + p = i + t from by omega] at h3
      rw [h3, h2, ← Nat.mod_eq_sub_mod h1]
/-- The word of the period, as it stands from any place of the repetition. -/
theorem per_turn {v : List Int} {i j p : Nat} (h0 : 0 < p) (hij : i + p ≤ j) (hj : j ≤ v.length) (hper : ∀ t, i ≤ t → t + p < j → v[t + p]? = v[t]?) {a m : Nat} (ha : i + a + m ≤ j) : (v.drop (i + a)).take m = pw ((v.drop i).take p) a m := by
  have hq : ((v.drop i).take p).length = p := by rw [List.length_take, List.length_drop]; omega
  refine pw_ext (by rw [List.length_take, List.length_drop]; omega) fun t ht => ?_
  rw [at_take_drop ht, Nat.add_assoc, per_any h0 hij hper (a + t) (by omega), cy, hq]
  have hm := Nat.mod_lt (a + t) h0
  rw [List.getD_eq_getElem?_getD, at_take_drop hm, List.getElem?_eq_getElem (show i + (a + t) % p < v.length by omega)]
  rfl
/-- The word of a least period is not turned into itself. -/
theorem run_prim {v : List Int} {i j p : Nat} (h0 : 0 < p) (h2 : i + 2 * p ≤ j) (hj : j ≤ v.length) (hper : ∀ t, i ≤ t → t + p < j → v[t + p]? = v[t]?)
    (hmin : ∀ q, 0 < q → q < p → ¬ ∀ t, i ≤ t → t + q < j → v[t + q]? = v[t]?) : Prim ((v.drop i).take p) := by
  have hq : ((v.drop i).take p).length = p := by rw [List.length_take, List.length_drop]; omega
  have hcy : ∀ t, i + t < j → v[i + t]? = some (cy ((v.drop i).take p) t) := fun t ht => by
    have h3 := per_turn (a := t) (m := 1) h0 (by omega) hj hper (by omega)
    have h4 := congrArg (fun l : List Int => l[0]?) h3
    rw [at_take_drop (by omega), pw_get (by omega)] at h4
    simpa using h4
  refine ⟨by omega, fun d hd0 hd1 he => ?_⟩
  rw [hq] at hd1 he
  refine hmin d hd0 hd1 fun t ht hd => ?_
  obtain ⟨t, rfl⟩ : ∃ t', t = i + t' := ⟨t - i, by omega⟩
  rw [show i + t + d = i + (d + t) from by omega, hcy _ (by omega), hcy _ (by omega), ← cy_pw (d := d) hq h0, he]
theorem run_root {v : List Int} {i j p : Nat} (h0 : 0 < p) (h2 : i + 2 * p ≤ j) (hj : j ≤ v.length) (hper : ∀ t, i ≤ t → t + p < j → v[t + p]? = v[t]?)
    (hmin : ∀ q, 0 < q → q < p → ¬ ∀ t, i ≤ t → t + q < j → v[t + q]? = v[t]?) (hs : j = v.length ∨ ∃ a b : Int, v[j - p]? = some a ∧ v[j]? = some b ∧ b < a) :
    ∃ k, i < k ∧ k ≤ i + p ∧ Lyn ((v.drop k).take p) ∧ lyL (v.drop k) = p := by
  have hq : ((v.drop i).take p).length = p := by rw [List.length_take, List.length_drop]; omega
  have hprim := run_prim h0 h2 hj hper hmin
  obtain ⟨a, ha, hpa, hla⟩ := exists_least _ hprim
  rw [hq] at ha hpa hla
  have hL := lyn_of_least hpa hla
  have key : ∀ k, i < k → k ≤ i + p → (v.drop k).take p = pw ((v.drop i).take p) a p → Lyn ((v.drop k).take p) ∧ lyL (v.drop k) = p := fun k hk1 hk2 he => by
    rw [he]
    refine ⟨hL, ?_⟩
    have hD : Duv v k j (j - p) := ⟨by omega, by omega, hj, by rw [show j - (j - p) = p from by omega, he]; exact hL, fun t h3 h4 => by
      rw [show j - (j - p) = p from by omega] at h4 ⊢
      exact hper t (by omega) h4⟩
    rw [hD.emit hs]
    omega
  by_cases h : a = 0
  · subst h
    refine ⟨i + p, by omega, Nat.le_refl _, key _ (by omega) (Nat.le_refl _) ?_⟩
    rw [per_turn (a := p) (m := p) h0 (by omega) hj hper (by omega)]
    have := pw_shift ((v.drop i).take p) 0 p
    rw [hq, Nat.zero_add] at this
    exact this
  · refine ⟨i + a, by omega, by omega, key _ (by omega) (by omega) ?_⟩
    exact per_turn (a := a) (m := p) h0 (by omega) hj hper (by omega)
theorem Rn.root {w : List Int} {i j p : Nat} (h : Rn w i j p) : ∃ k v, (v = w ∨ v = ng w) ∧ i < k ∧ k ≤ i + p ∧ Lyn ((v.drop k).take p) ∧ lyL (v.drop k) = p := by
  have h0 := h.p0; have h2 := h.two; have hj := h.jn
  have hw : (j = w.length ∨ ∃ a b : Int, w[j - p]? = some a ∧ w[j]? = some b ∧ b < a) ∨ ∃ a b : Int, (ng w)[j - p]? = some a ∧ (ng w)[j]? = some b ∧ b < a := by
    rcases h.right with e | e
    · exact .inl (.inl e)
    · by_cases hjn : j = w.length
      · exact .inl (.inl hjn)
      · have e1 := List.getElem?_eq_getElem (show j < w.length by omega)
        have e2 := List.getElem?_eq_getElem (show j - p < w.length by omega)
        generalize w[j] = b at e1
        generalize w[j - p] = a at e2
        rw [e1, e2] at e
        rcases Int.lt_trichotomy b a with hlt | heq | hgt
        · exact .inl (.inr ⟨a, b, e2, e1, hlt⟩)
        · exact absurd (by rw [heq]) e
        · exact .inr ⟨-a, -b, by rw [ng_at, e2]; rfl, by rw [ng_at, e1]; rfl, by omega⟩
  rcases hw with hs | hs
  · obtain ⟨k, r⟩ := run_root h0 h2 hj h.per h.min hs
    exact ⟨k, w, .inl rfl, r⟩
  · obtain ⟨k, r⟩ := run_root (v := ng w) h0 h2 (by rw [ng_len]; exact hj) (fun t h3 h4 => ng_eq.2 (h.per t h3 h4)) (fun q h3 h4 h5 => h.min q h3 h4 fun t h6 h7 => ng_eq.1 (h5 t h6 h7)) (.inr hs)
    exact ⟨k, ng w, .inr rfl, r⟩
/-- A Lyndon word of two letters or more: its first letter, some times, and then a greater one. -/
theorem lyn_rise {u : List Int} (h : Lyn u) (hl : 2 ≤ u.length) : ∃ (d : Nat) (a b : Int), (∀ t, t ≤ d → u[t]? = some a) ∧ u[d + 1]? = some b ∧ a < b := by
  obtain ⟨d, x, y, he, hx, hy, hxy⟩ := lt_find (h.2 1 (by omega) (by omega)) (by simp)
  rw [List.getElem?_drop, Nat.add_comm] at hy
  have e0 := List.getElem?_eq_getElem (show 0 < u.length by omega)
  generalize u[0] = a at e0
  have hall : ∀ t, t ≤ d → u[t]? = some a := fun t => by
    induction t with
    | zero => intro _; exact e0
    | succ t ih =>
      intro ht
      have := he t (by omega)
      rw [List.getElem?_drop, Nat.add_comm] at this
      rw [← this]
      exact ih (by omega)
  refine ⟨d, a, y, hall, hy, ?_⟩
  have := hall d (Nat.le_refl _)
  rw [hx] at this
  injection this with this
  omega
theorem root_two {w : List Int} {k p q : Nat} (h1 : Lyn ((w.drop k).take p)) (hp : 2 ≤ p) (hpl : k + p ≤ w.length) (h2 : Lyn (((ng w).drop k).take q)) (hq : 2 ≤ q) (hql : k + q ≤ w.length) : False := by
  have hl := ng_len w
  obtain ⟨d, a, b, r1, r2, r3⟩ := lyn_rise h1 (by rw [List.length_take, List.length_drop]; omega)
  obtain ⟨e, c, f, s1, s2, s3⟩ := lyn_rise h2 (by rw [List.length_take, List.length_drop]; omega)
  have hd := (List.getElem?_eq_some_iff.1 r2).1
  have he := (List.getElem?_eq_some_iff.1 s2).1
  rw [List.length_take, List.length_drop] at hd he
  have r1' : ∀ t, t ≤ d → w[k + t]? = some a := fun t ht => by have := r1 t ht; rwa [at_take_drop (by omega)] at this
  have s1' : ∀ t, t ≤ e → w[k + t]? = some (-c) := fun t ht => by
    have := s1 t ht
    rw [at_take_drop (by omega), ng_at] at this
    cases hw : w[k + t]? with
    | none => rw [hw] at this; simp at this
    | some x => rw [hw] at this; simp at this; rw [← this, Int.neg_neg]
  rw [at_take_drop (by omega)] at r2
  rw [at_take_drop (by omega), ng_at] at s2
  have s2' : w[k + (e + 1)]? = some (-f) := by
    cases hw : w[k + (e + 1)]? with
    | none => rw [hw] at s2; simp at s2
    | some x => rw [hw] at s2; simp at s2; rw [← s2, Int.neg_neg]
  have hac : a = -c := by
    have t1 := r1' 0 (by omega)
    rw [s1' 0 (by omega)] at t1
    injection t1 with t1
    exact t1.symm
  rcases Nat.lt_trichotomy d e with h | h | h
  · have t1 := s1' (d + 1) (by omega)
    rw [r2] at t1
    injection t1 with t1
    omega
  · subst h
    rw [r2] at s2'
    injection s2' with t1
    omega
  · have t1 := r1' (e + 1) (by omega)
    rw [s2'] at t1
    injection t1 with t1
    omega
/-- Runs of the same period that share a period's letters are the same. -/
theorem Rn.join {w : List Int} {i j i' j' p k : Nat} (h : Rn w i j p) (h' : Rn w i' j' p) (h1 : i < k) (h2 : k + p ≤ j) (h3 : i' < k) (h4 : k + p ≤ j') : i = i' ∧ j = j' := by
  have hp := h.p0
  have hj := h.jn; have hj' := h'.jn
  have hi : i = i' := by
    rcases Nat.lt_trichotomy i i' with e | e | e
    · exfalso
      rcases h'.left with e' | e'
      · omega
      · exact e' (h.per (i' - 1) (by omega) (by omega)).symm
    · exact e
    · exfalso
      rcases h.left with e' | e'
      · omega
      · exact e' (h'.per (i - 1) (by omega) (by omega)).symm
  refine ⟨hi, ?_⟩
  rcases Nat.lt_trichotomy j j' with e | e | e
  · exfalso
    rcases h.right with e' | e'
    · omega
    · have := h'.per (j - p) (by omega) (by omega)
      rw [show j - p + p = j from by omega] at this
      exact e' this
  · exact e
  · exfalso
    rcases h'.right with e' | e'
    · omega
    · have := h.per (j' - p) (by omega) (by omega)
      rw [show j' - p + p = j' from by omega] at this
      exact e' this
/-- A Lyndon word of two letters or more does not end as it begins. -/
theorem lyn_ends {u : List Int} (h : Lyn u) (hl : 2 ≤ u.length) : u[u.length - 1]? ≠ u[0]? := by
  intro e
  have h1 := h.2 (u.length - 1) (by omega) (by omega)
  rw [List.drop_eq_getElem_cons (show u.length - 1 < u.length by omega), List.drop_eq_nil_of_le (by omega)] at h1
  rw [List.getElem?_eq_getElem (show u.length - 1 < u.length by omega), List.getElem?_eq_getElem (show 0 < u.length by omega)] at e
  injection e with e
  rw [e] at h1
  cases u with
  | nil => simp at hl
  | cons a u =>
    cases u with
    | nil => simp at hl
    | cons b u => simp [cmpW] at h1
theorem run_one {w v : List Int} {i j p i' j' k : Nat} (h : Rn w i j p) (h' : Rn w i' j' 1) (hv : v = w ∨ v = ng w) (hL : Lyn ((v.drop k).take p)) (hp : 2 ≤ p) (h1 : i < k) (h2 : k + p ≤ j) (h3 : i' < k) (h4 : k + 1 ≤ j') : False := by
  have hj := h.jn
  have hlen : v.length = w.length := by rcases hv with e | e <;> rw [e]; exact ng_len w
  have hl : ((v.drop k).take p).length = p := by rw [List.length_take, List.length_drop]; omega
  refine lyn_ends hL (by omega) ?_
  rw [hl, at_take_drop (by omega), at_take_drop (by omega), Nat.add_zero]
  have e1 := h'.per (k - 1) (by omega) (by omega)
  have e2 := h.per (k - 1) (by omega) (by omega)
  rw [show k - 1 + 1 = k from by omega] at e1
  rw [show k - 1 + p = k + (p - 1) from by omega] at e2
  have : w[k + (p - 1)]? = w[k]? := by rw [e2, e1]
  rcases hv with e | e
  · rw [e]; exact this
  · rw [e]; exact ng_eq.2 this
/-- Where a run's root begins. -/
def RtAt (w : List Int) (i p k : Nat) : Prop := ∃ v, (v = w ∨ v = ng w) ∧ i < k ∧ k ≤ i + p ∧ Lyn ((v.drop k).take p) ∧ lyL (v.drop k) = p
theorem Rn.same {w : List Int} {i j p i' j' p' k : Nat} (h : Rn w i j p) (h' : Rn w i' j' p') (hr : RtAt w i p k) (hr' : RtAt w i' p' k) : i = i' ∧ j = j' ∧ p = p' := by
  obtain ⟨v, hv, h1, h2, h3, h4⟩ := hr
  obtain ⟨v', hv', h1', h2', h3', h4'⟩ := hr'
  have hp := h.p0; have hp' := h'.p0; have ht := h.two; have ht' := h'.two; have hj := h.jn; have hj' := h'.jn
  have fin : p = p' → i = i' ∧ j = j' ∧ p = p' := fun e => by
    subst e
    obtain ⟨e1, e2⟩ := h.join h' h1 (by omega) h1' (by omega)
    exact ⟨e1, e2, rfl⟩
  by_cases e : p = p'
  · exact fin e
  · exfalso
    by_cases hvv : v = v'
    · rw [← hvv, h4] at h4'
      exact e h4'
    · by_cases hp1 : p = 1
      · subst hp1
        exact run_one h' h hv' h3' (by omega) h1' (by omega) h1 (by omega)
      · by_cases hp1' : p' = 1
        · subst hp1'
          exact run_one h h' hv h3 (by omega) h1 (by omega) h1' (by omega)
        · rcases hv with a | a <;> rcases hv' with b | b
          · exact hvv (by rw [a, b])
          · rw [a] at h3; rw [b] at h3'
            exact root_two h3 (by omega) (by omega) h3' (by omega) (by omega)
          · rw [a] at h3; rw [b] at h3'
            exact root_two h3' (by omega) (by omega) h3 (by omega) (by omega)
          · exact hvv (by rw [a, b])
/-- A word has fewer runs than letters. -/
theorem runs_lt {w : List Int} (h0 : 0 < w.length) {R : List (Nat × Nat × Nat)} (hn : R.Nodup) (hR : ∀ r ∈ R, Rn w r.1 r.2.1 r.2.2) : R.length < w.length := by
  have hex : ∀ r : Nat × Nat × Nat, ∃ k, r ∈ R → RtAt w r.1 r.2.2 k := fun r => by
    by_cases hr : r ∈ R
    · obtain ⟨k, v, hk⟩ := (hR r hr).root
      exact ⟨k, fun _ => ⟨v, hk⟩⟩
    · exact ⟨0, fun h => absurd h hr⟩
  obtain ⟨f, hf⟩ : ∃ f : Nat × Nat × Nat → Nat, ∀ r, r ∈ R → RtAt w r.1 r.2.2 (f r) := ⟨fun r => Classical.choose (hex r), fun r => Classical.choose_spec (hex r)⟩
  have h1 := nodup_map (f := f) hn fun x hx y hy e => by
    obtain ⟨e1, e2, e3⟩ := (hR x hx).same (hR y hy) (hf x hx) (by rw [e]; exact hf y hy)
    obtain ⟨x1, x2, x3⟩ := x
    obtain ⟨y1, y2, y3⟩ := y
    dsimp only at e1 e2 e3
    rw [e1, e2, e3]
  have h2 := len_le (R.map f) ((List.range (w.length - 1)).map (· + 1)) h1 fun k hk => by
    obtain ⟨r, hr, rfl⟩ := List.mem_map.1 hk
    obtain ⟨v, _, h3, h4, _⟩ := hf r hr
    have h5 := (hR r hr).two
    have h6 := (hR r hr).jn
    have h7 := (hR r hr).p0
    exact List.mem_map.2 ⟨f r - 1, List.mem_range.2 (by omega), by omega⟩
  rw [List.length_map, List.length_map, List.length_range] at h2
  omega
/-- Every square lies in a run whose period divides its own. -/
theorem sq_in_run {w : List Int} {x y : Nat} (hy : 0 < y) (hx : x + 2 * y ≤ w.length) (hs : ∀ t, x ≤ t → t + y < x + 2 * y → w[t + y]? = w[t]?) : ∃ i j p, Rn w i j p ∧ i ≤ x ∧ x + 2 * y ≤ j ∧ y % p = 0 := by
  -- the least period of the square
  obtain ⟨p, hpy, ⟨hp0, hpp⟩, hpm⟩ := nat_least (P := fun q => 0 < q ∧ ∀ t, x ≤ t → t + q < x + 2 * y → w[t + q]? = w[t]?) y ⟨hy, hs⟩
  have hu : ((w.drop x).take (2 * y)).length = 2 * y := by rw [List.length_take, List.length_drop]; omega
  have toPer : ∀ q, (∀ t, x ≤ t → t + q < x + 2 * y → w[t + q]? = w[t]?) → Per ((w.drop x).take (2 * y)) q := fun q h t ht => by
    rw [hu] at ht
    rw [at_take_drop (by omega), at_take_drop (by omega), ← Nat.add_assoc]
    exact h (x + t) (by omega) (by omega)
  have hmod : y % p = 0 := by
    have h1 := per_rem hp0 (toPer p hpp) y (toPer y hs) (by rw [hu]; omega)
    rcases Nat.eq_zero_or_pos (y % p) with e | e
    · exact e
    · exfalso
      have hlt := Nat.mod_lt y hp0
      refine hpm (y % p) hlt ⟨e, fun t h2 h3 => ?_⟩
      have h4 := h1 (t - x) (by rw [hu]; omega)
      rw [at_take_drop (by omega), at_take_drop (by omega), ← Nat.add_assoc, show x + (t - x) = t from by omega] at h4
      exact h4
  -- as far to the left and to the right as it goes
  obtain ⟨i, hix, ⟨hiA, hiP⟩, him⟩ := nat_least (P := fun i => i ≤ x ∧ ∀ t, i ≤ t → t + p < x + 2 * y → w[t + p]? = w[t]?) x ⟨Nat.le_refl _, hpp⟩
  obtain ⟨g, hgl, ⟨hgA, hgP⟩, hgm⟩ := nat_least (P := fun g => x + 2 * y + g ≤ w.length ∧ ∀ t, i ≤ t → t + p < w.length - g → w[t + p]? = w[t]?) (w.length - (x + 2 * y)) ⟨by omega, fun t h1 h2 => hiP t h1 (by omega)⟩
  refine ⟨i, w.length - g, p, ⟨hp0, by omega, by omega, hgP, fun q h1 h2 h3 => hpm q h2 ⟨h1, fun t h4 h5 => h3 t (by omega) (by omega)⟩, ?_, ?_⟩, hix, by omega, hmod⟩
  · by_cases e : i = 0
    · exact .inl e
    · right
      intro e1
      refine him (i - 1) (by omega) ⟨by omega, fun t h1 h2 => ?_⟩
      by_cases h3 : t = i - 1
      · rw [h3]; exact e1.symm
      · exact hiP t (by omega) h2
  · by_cases e : g = 0
    · left; omega
    · right
      intro e1
      refine hgm (g - 1) (by omega) ⟨by omega, fun t h1 h2 => ?_⟩
      by_cases h3 : t + p = w.length - g
      · rw [h3, e1, show w.length - g - p = t from by omega]
      · exact hgP t h1 (by omega)
end Go.Proofs.Ytcnejfihpaicdaa.Plain
