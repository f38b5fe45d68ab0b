/- Several texts of this proof, one behind the other: each says ahead of it what it shows and under which conditions. -/
import Derived.Test.YtfpdikohlafpiaaGreatPW3
import Derived.Test.YtfpdikohlafpiaaGreatPW2
import Derived.Test.YtfpdikohlafpiaaGreatPW1
import Derived.Test.YtfpdikohlafpiaaGreatSeqs
import Derived.Test.YtfpdikohlafpiaaGreatSeqEq
import Derived.Test.YtfpdikohlafpiaaGreatCells3
import Derived.Deep.RegionHeld3
import Derived.Test.YtfpdikohlafpiaaGreatShelf
import Derived.Test.YtfpdikohlafpiaaGreatSeqs2
import Derived.BigQuiet
import Derived.Test.YtfpdikohlafpiaaGreatSeqMark
import Derived.Test.YtfpdikohlafpiaaGreatSeqHeld
import Derived.Test.YtfpdikohlafpiaaGreatRowsIn
import Derived.Deep.DeepCutAuto
/- Plain facts on runs: a run holds a Lyndon word of its period's length (in the order of letters or in its reverse) behind its first letter, which is the longest one from there; two different runs begin theirs at different places; so a word has fewer runs than letters. Every square lies in a run whose period divides its own. No conditions beyond those that each fact states. -/
set_option linter.unusedVariables false
namespace Go.Proofs.YtfpdikohlafpiaaGreat.Plain

theorem nat_least {P : Nat → Prop} : ∀ n, P n → ∃ m, m ≤ n ∧ P m ∧ ∀ q, q < m → ¬ P q := by
  intro n
  induction n using Nat.strongRecOn with
  | ind n ih =>
    intro h
    by_cases hq : ∃ q, q < n ∧ P q
    · obtain ⟨q, hq, hp⟩ := hq
      obtain ⟨m, h1, h2, h3⟩ := ih q hq hp
      exact ⟨m, by omega, h2, h3⟩
    · exact ⟨n, Nat.le_refl _, h, fun q h1 h2 => hq ⟨q, h1, h2⟩⟩
/-- The least of its turns, if they are different: a Lyndon word. -/
theorem lyn_of_least {l : List Int} (hp : Prim l) (hl : Lst l) : Lyn l := by
  refine ⟨hp.1, fun k h0 hk => ?_⟩
  refine Classical.byContradiction fun hn => ?_
  have hle := not_lt_le hn
  have hne : cmpW (l.drop k) l ≠ 0 := fun e => by
    have := congrArg List.length (cmpW_zero _ _ e)
    rw [List.length_drop] at this
    omega
  rcases lt_split (u := l.drop k) (v := l) (by omega) with ⟨t, ht, he⟩ | h
  · refine unb hp hl h0 hk fun i hi => ?_
    have h1 : (l.drop k)[i]? = l[i]? := by
      conv => rhs; rw [he]
      rw [List.getElem?_append_left (by rw [List.length_drop]; omega)]
    rw [List.getElem?_drop] at h1
    rw [Nat.add_comm, h1]
  · have h1 := lt_app (l.take k) [] h
    rw [List.append_nil, ← pw_turn (by omega)] at h1
    exact lt_irr (lt_le h1 (hl k))

/-- A run of w: the letters from i up to j repeat with the period p, no less one, at least twice; it can't be made longer. -/
structure Rn (w : List Int) (i j p : Nat) : Prop where
  p0 : 0 < p
  two : i + 2 * p ≤ j
  jn : j ≤ w.length
  per : ∀ t, i ≤ t → t + p < j → w[t + p]? = w[t]?
  min : ∀ q, 0 < q → q < p → ¬ ∀ t, i ≤ t → t + q < j → w[t + q]? = w[t]?
  left : i = 0 ∨ w[i - 1]? ≠ w[i - 1 + p]?
  right : j = w.length ∨ w[j]? ≠ w[j - p]?
def ng (w : List Int) : List Int := w.map fun x => -x
theorem ng_at (w : List Int) (t : Nat) : (ng w)[t]? = (w[t]?).map fun x => -x := by simp [ng]
theorem ng_len (w : List Int) : (ng w).length = w.length := by simp [ng]
theorem ng_eq {w : List Int} {a b : Nat} : (ng w)[a]? = (ng w)[b]? ↔ w[a]? = w[b]? := by
  rw [ng_at, ng_at]
  cases w[a]? <;> cases w[b]? <;> simp
theorem per_any {v : List Int} {i j p : Nat} (h0 : 0 < p) (hij : i + p ≤ j) (hper : ∀ t, i ≤ t → t + p < j → v[t + p]? = v[t]?) : ∀ t, i + t < j → v[i + t]? = v[i + t % p]? := fun t => by
  induction t using Nat.strongRecOn with
  | ind t ih =>
    intro ht
    rcases Nat.lt_or_ge t p with h1 | h1
    · rw [Nat.mod_eq_of_lt h1]
    · have h2 := ih (t - p) (by omega) (by omega)
      have h3 := hper (i + (t - p)) (by omega) (by omega)
      rw [show i + (t - p) + p = i + t from by omega] at h3
      rw [h3, h2, ← Nat.mod_eq_sub_mod h1]
/-- The word of the period, as it stands from any place of the repetition. -/
theorem per_turn {v : List Int} {i j p : Nat} (h0 : 0 < p) (hij : i + p ≤ j) (hj : j ≤ v.length) (hper : ∀ t, i ≤ t → t + p < j → v[t + p]? = v[t]?) {a m : Nat} (ha : i + a + m ≤ j) : (v.drop (i + a)).take m = pw ((v.drop i).take p) a m := by
  have hq : ((v.drop i).take p).length = p := by rw [List.length_take, List.length_drop]; omega
  refine pw_ext (by rw [List.length_take, List.length_drop]; omega) fun t ht => ?_
  rw [at_take_drop ht, Nat.add_assoc, per_any h0 hij hper (a + t) (by omega), cy, hq]
  have hm := Nat.mod_lt (a + t) h0
  rw [List.getD_eq_getElem?_getD, at_take_drop hm, List.getElem?_eq_getElem (show i + (a + t) % p < v.length by omega)]
  rfl
/-- The word of a least period is not turned into itself. -/
theorem run_prim {v : List Int} {i j p : Nat} (h0 : 0 < p) (h2 : i + 2 * p ≤ j) (hj : j ≤ v.length) (hper : ∀ t, i ≤ t → t + p < j → v[t + p]? = v[t]?)
    (hmin : ∀ q, 0 < q → q < p → ¬ ∀ t, i ≤ t → t + q < j → v[t + q]? = v[t]?) : Prim ((v.drop i).take p) := by
  have hq : ((v.drop i).take p).length = p := by rw [List.length_take, List.length_drop]; omega
  have hcy : ∀ t, i + t < j → v[i + t]? = some (cy ((v.drop i).take p) t) := fun t ht => by
    have h3 := per_turn (a := t) (m := 1) h0 (by omega) hj hper (by omega)
    have h4 := congrArg (fun l : List Int => l[0]?) h3
    rw [at_take_drop (by omega), pw_get (by omega)] at h4
    simpa using h4
  refine ⟨by omega, fun d hd0 hd1 he => ?_⟩
  rw [hq] at hd1 he
  refine hmin d hd0 hd1 fun t ht hd => ?_
  obtain ⟨t, rfl⟩ : ∃ t', t = i + t' := ⟨t - i, by omega⟩
  rw [show i + t + d = i + (d + t) from by omega, hcy _ (by omega), hcy _ (by omega), ← cy_pw (d := d) hq h0, he]
theorem run_root {v : List Int} {i j p : Nat} (h0 : 0 < p) (h2 : i + 2 * p ≤ j) (hj : j ≤ v.length) (hper : ∀ t, i ≤ t → t + p < j → v[t + p]? = v[t]?)
    (hmin : ∀ q, 0 < q → q < p → ¬ ∀ t, i ≤ t → t + q < j → v[t + q]? = v[t]?) (hs : j = v.length ∨ ∃ a b : Int, v[j - p]? = some a ∧ v[j]? = some b ∧ b < a) :
    ∃ k, i < k ∧ k ≤ i + p ∧ Lyn ((v.drop k).take p) ∧ lyL (v.drop k) = p := by
  have hq : ((v.drop i).take p).length = p := by rw [List.length_take, List.length_drop]; omega
  have hprim := run_prim h0 h2 hj hper hmin
  obtain ⟨a, ha, hpa, hla⟩ := exists_least _ hprim
  rw [hq] at ha hpa hla
  have hL := lyn_of_least hpa hla
  have key : ∀ k, i < k → k ≤ i + p → (v.drop k).take p = pw ((v.drop i).take p) a p → Lyn ((v.drop k).take p) ∧ lyL (v.drop k) = p := fun k hk1 hk2 he => by
    rw [he]
    refine ⟨hL, ?_⟩
    have hD : Duv v k j (j - p) := ⟨by omega, by omega, hj, by rw [show j - (j - p) = p from by omega, he]; exact hL, fun t h3 h4 => by
      rw [show j - (j - p) = p from by omega] at h4 ⊢
      exact hper t (by omega) h4⟩
    rw [hD.emit hs]
    omega
  by_cases h : a = 0
  · subst h
    refine ⟨i + p, by omega, Nat.le_refl _, key _ (by omega) (Nat.le_refl _) ?_⟩
    rw [per_turn (a := p) (m := p) h0 (by omega) hj hper (by omega)]
    have := pw_shift ((v.drop i).take p) 0 p
    rw [hq, Nat.zero_add] at this
    exact this
  · refine ⟨i + a, by omega, by omega, key _ (by omega) (by omega) ?_⟩
    exact per_turn (a := a) (m := p) h0 (by omega) hj hper (by omega)
theorem Rn.root {w : List Int} {i j p : Nat} (h : Rn w i j p) : ∃ k v, (v = w ∨ v = ng w) ∧ i < k ∧ k ≤ i + p ∧ Lyn ((v.drop k).take p) ∧ lyL (v.drop k) = p := by
  have h0 := h.p0; have h2 := h.two; have hj := h.jn
  have hw : (j = w.length ∨ ∃ a b : Int, w[j - p]? = some a ∧ w[j]? = some b ∧ b < a) ∨ ∃ a b : Int, (ng w)[j - p]? = some a ∧ (ng w)[j]? = some b ∧ b < a := by
    rcases h.right with e | e
    · exact .inl (.inl e)
    · by_cases hjn : j = w.length
      · exact .inl (.inl hjn)
      · have e1 := List.getElem?_eq_getElem (show j < w.length by omega)
        have e2 := List.getElem?_eq_getElem (show j - p < w.length by omega)
        generalize w[j] = b at e1
        generalize w[j - p] = a at e2
        rw [e1, e2] at e
        rcases Int.lt_trichotomy b a with hlt | heq | hgt
        · exact .inl (.inr ⟨a, b, e2, e1, hlt⟩)
        · exact absurd (by rw [heq]) e
        · exact .inr ⟨-a, -b, by rw [ng_at, e2]; rfl, by rw [ng_at, e1]; rfl, by omega⟩
  rcases hw with hs | hs
  · obtain ⟨k, r⟩ := run_root h0 h2 hj h.per h.min hs
    exact ⟨k, w, .inl rfl, r⟩
  · obtain ⟨k, r⟩ := run_root (v := ng w) h0 h2 (by rw [ng_len]; exact hj) (fun t h3 h4 => ng_eq.2 (h.per t h3 h4)) (fun q h3 h4 h5 => h.min q h3 h4 fun t h6 h7 => ng_eq.1 (h5 t h6 h7)) (.inr hs)
    exact ⟨k, ng w, .inr rfl, r⟩
/-- A Lyndon word of two letters or more: its first letter, some times, and then a greater one. -/
theorem lyn_rise {u : List Int} (h : Lyn u) (hl : 2 ≤ u.length) : ∃ (d : Nat) (a b : Int), (∀ t, t ≤ d → u[t]? = some a) ∧ u[d + 1]? = some b ∧ a < b := by
  obtain ⟨d, x, y, he, hx, hy, hxy⟩ := lt_find (h.2 1 (by omega) (by omega)) (by simp)
  rw [List.getElem?_drop, Nat.add_comm] at hy
  have e0 := List.getElem?_eq_getElem (show 0 < u.length by omega)
  generalize u[0] = a at e0
  have hall : ∀ t, t ≤ d → u[t]? = some a := fun t => by
    induction t with
    | zero => intro _; exact e0
    | succ t ih =>
      intro ht
      have := he t (by omega)
      rw [List.getElem?_drop, Nat.add_comm] at this
      rw [← this]
      exact ih (by omega)
  refine ⟨d, a, y, hall, hy, ?_⟩
  have := hall d (Nat.le_refl _)
  rw [hx] at this
  injection this with this
  omega
theorem root_two {w : List Int} {k p q : Nat} (h1 : Lyn ((w.drop k).take p)) (hp : 2 ≤ p) (hpl : k + p ≤ w.length) (h2 : Lyn (((ng w).drop k).take q)) (hq : 2 ≤ q) (hql : k + q ≤ w.length) : False := by
  have hl := ng_len w
  obtain ⟨d, a, b, r1, r2, r3⟩ := lyn_rise h1 (by rw [List.length_take, List.length_drop]; omega)
  obtain ⟨e, c, f, s1, s2, s3⟩ := lyn_rise h2 (by rw [List.length_take, List.length_drop]; omega)
  have hd := (List.getElem?_eq_some_iff.1 r2).1
  have he := (List.getElem?_eq_some_iff.1 s2).1
  rw [List.length_take, List.length_drop] at hd he
  have r1' : ∀ t, t ≤ d → w[k + t]? = some a := fun t ht => by have := r1 t ht; rwa [at_take_drop (by omega)] at this
  have s1' : ∀ t, t ≤ e → w[k + t]? = some (-c) := fun t ht => by
    have := s1 t ht
    rw [at_take_drop (by omega), ng_at] at this
    cases hw : w[k + t]? with
    | none => rw [hw] at this; simp at this
    | some x => rw [hw] at this; simp at this; rw [← this, Int.neg_neg]
  rw [at_take_drop (by omega)] at r2
  rw [at_take_drop (by omega), ng_at] at s2
  have s2' : w[k + (e + 1)]? = some (-f) := by
    cases hw : w[k + (e + 1)]? with
    | none => rw [hw] at s2; simp at s2
    | some x => rw [hw] at s2; simp at s2; rw [← s2, Int.neg_neg]
  have hac : a = -c := by
    have t1 := r1' 0 (by omega)
    rw [s1' 0 (by omega)] at t1
    injection t1 with t1
    exact t1.symm
  rcases Nat.lt_trichotomy d e with h | h | h
  · have t1 := s1' (d + 1) (by omega)
    rw [r2] at t1
    injection t1 with t1
    omega
  · subst h
    rw [r2] at s2'
    injection s2' with t1
    omega
  · have t1 := r1' (e + 1) (by omega)
    rw [s2'] at t1
    injection t1 with t1
    omega
/-- Runs of the same period that share a period's letters are the same. -/
theorem Rn.join {w : List Int} {i j i' j' p k : Nat} (h : Rn w i j p) (h' : Rn w i' j' p) (h1 : i < k) (h2 : k + p ≤ j) (h3 : i' < k) (h4 : k + p ≤ j') : i = i' ∧ j = j' := by
  have hp := h.p0
  have hj := h.jn; have hj' := h'.jn
  have hi : i = i' := by
    rcases Nat.lt_trichotomy i i' with e | e | e
    · exfalso
      rcases h'.left with e' | e'
      · omega
      · exact e' (h.per (i' - 1) (by omega) (by omega)).symm
    · exact e
    · exfalso
      rcases h.left with e' | e'
      · omega
      · exact e' (h'.per (i - 1) (by omega) (by omega)).symm
  refine ⟨hi, ?_⟩
  rcases Nat.lt_trichotomy j j' with e | e | e
  · exfalso
    rcases h.right with e' | e'
    · omega
    · have := h'.per (j - p) (by omega) (by omega)
      rw [show j - p + p = j from by omega] at this
      exact e' this
  · exact e
  · exfalso
    rcases h'.right with e' | e'
    · omega
    · have := h.per (j' - p) (by omega) (by omega)
      rw [show j' - p + p = j' from by omega] at this
      exact e' this
/-- A Lyndon word of two letters or more does not end as it begins. -/
theorem lyn_ends {u : List Int} (h : Lyn u) (hl : 2 ≤ u.length) : u[u.length - 1]? ≠ u[0]? := by
  intro e
  have h1 := h.2 (u.length - 1) (by omega) (by omega)
  rw [List.drop_eq_getElem_cons (show u.length - 1 < u.length by omega), List.drop_eq_nil_of_le (by omega)] at h1
  rw [List.getElem?_eq_getElem (show u.length - 1 < u.length by omega), List.getElem?_eq_getElem (show 0 < u.length by omega)] at e
  injection e with e
  rw [e] at h1
  cases u with
  | nil => simp at hl
  | cons a u =>
    cases u with
    | nil => simp at hl
    | cons b u => simp [cmpW] at h1
theorem run_one {w v : List Int} {i j p i' j' k : Nat} (h : Rn w i j p) (h' : Rn w i' j' 1) (hv : v = w ∨ v = ng w) (hL : Lyn ((v.drop k).take p)) (hp : 2 ≤ p) (h1 : i < k) (h2 : k + p ≤ j) (h3 : i' < k) (h4 : k + 1 ≤ j') : False := by
  have hj := h.jn
  have hlen : v.length = w.length := by rcases hv with e | e <;> rw [e]; exact ng_len w
  have hl : ((v.drop k).take p).length = p := by rw [List.length_take, List.length_drop]; omega
  refine lyn_ends hL (by omega) ?_
  rw [hl, at_take_drop (by omega), at_take_drop (by omega), Nat.add_zero]
  have e1 := h'.per (k - 1) (by omega) (by omega)
  have e2 := h.per (k - 1) (by omega) (by omega)
  rw [show k - 1 + 1 = k from by omega] at e1
  rw [show k - 1 + p = k + (p - 1) from by omega] at e2
  have : w[k + (p - 1)]? = w[k]? := by rw [e2, e1]
  rcases hv with e | e
  · rw [e]; exact this
  · rw [e]; exact ng_eq.2 this
/-- Where a run's root begins. -/
def RtAt (w : List Int) (i p k : Nat) : Prop := ∃ v, (v = w ∨ v = ng w) ∧ i < k ∧ k ≤ i + p ∧ Lyn ((v.drop k).take p) ∧ lyL (v.drop k) = p
theorem Rn.same {w : List Int} {i j p i' j' p' k : Nat} (h : Rn w i j p) (h' : Rn w i' j' p') (hr : RtAt w i p k) (hr' : RtAt w i' p' k) : i = i' ∧ j = j' ∧ p = p' := by
  obtain ⟨v, hv, h1, h2, h3, h4⟩ := hr
  obtain ⟨v', hv', h1', h2', h3', h4'⟩ := hr'
  have hp := h.p0; have hp' := h'.p0; have ht := h.two; have ht' := h'.two; have hj := h.jn; have hj' := h'.jn
  have fin : p = p' → i = i' ∧ j = j' ∧ p = p' := fun e => by
    subst e
    obtain ⟨e1, e2⟩ := h.join h' h1 (by omega) h1' (by omega)
    exact ⟨e1, e2, rfl⟩
  by_cases e : p = p'
  · exact fin e
  · exfalso
    by_cases hvv : v = v'
    · rw [← hvv, h4] at h4'
      exact e h4'
    · by_cases hp1 : p = 1
      · subst hp1
        exact run_one h' h hv' h3' (by omega) h1' (by omega) h1 (by omega)
      · by_cases hp1' : p' = 1
        · subst hp1'
          exact run_one h h' hv h3 (by omega) h1 (by omega) h1' (by omega)
        · rcases hv with a | a <;> rcases hv' with b | b
          · exact hvv (by rw [a, b])
          · rw [a] at h3; rw [b] at h3'
            exact root_two h3 (by omega) (by omega) h3' (by omega) (by omega)
          · rw [a] at h3; rw [b] at h3'
            exact root_two h3' (by omega) (by omega) h3 (by omega) (by omega)
          · exact hvv (by rw [a, b])
/-- A word has fewer runs than letters. -/
theorem runs_lt {w : List Int} (h0 : 0 < w.length) {R : List (Nat × Nat × Nat)} (hn : R.Nodup) (hR : ∀ r ∈ R, Rn w r.1 r.2.1 r.2.2) : R.length < w.length := by
  have hex : ∀ r : Nat × Nat × Nat, ∃ k, r ∈ R → RtAt w r.1 r.2.2 k := fun r => by
    by_cases hr : r ∈ R
    · obtain ⟨k, v, hk⟩ := (hR r hr).root
      exact ⟨k, fun _ => ⟨v, hk⟩⟩
    · exact ⟨0, fun h => absurd h hr⟩
  obtain ⟨f, hf⟩ : ∃ f : Nat × Nat × Nat → Nat, ∀ r, r ∈ R → RtAt w r.1 r.2.2 (f r) := ⟨fun r => Classical.choose (hex r), fun r => Classical.choose_spec (hex r)⟩
  have h1 := nodup_map (f := f) hn fun x hx y hy e => by
    obtain ⟨e1, e2, e3⟩ := (hR x hx).same (hR y hy) (hf x hx) (by rw [e]; exact hf y hy)
    obtain ⟨x1, x2, x3⟩ := x
    obtain ⟨y1, y2, y3⟩ := y
    dsimp only at e1 e2 e3
    rw [e1, e2, e3]
  have h2 := len_le (R.map f) ((List.range (w.length - 1)).map (· + 1)) h1 fun k hk => by
    obtain ⟨r, hr, rfl⟩ := List.mem_map.1 hk
    obtain ⟨v, _, h3, h4, _⟩ := hf r hr
    have h5 := (hR r hr).two
    have h6 := (hR r hr).jn
    have h7 := (hR r hr).p0
    exact List.mem_map.2 ⟨f r - 1, List.mem_range.2 (by omega), by omega⟩
  rw [List.length_map, List.length_map, List.length_range] at h2
  omega
/-- Every square lies in a run whose period divides its own. -/
theorem sq_in_run {w : List Int} {x y : Nat} (hy : 0 < y) (hx : x + 2 * y ≤ w.length) (hs : ∀ t, x ≤ t → t + y < x + 2 * y → w[t + y]? = w[t]?) : ∃ i j p, Rn w i j p ∧ i ≤ x ∧ x + 2 * y ≤ j ∧ y % p = 0 := by
  -- the least period of the square
  obtain ⟨p, hpy, ⟨hp0, hpp⟩, hpm⟩ := nat_least (P := fun q => 0 < q ∧ ∀ t, x ≤ t → t + q < x + 2 * y → w[t + q]? = w[t]?) y ⟨hy, hs⟩
  have hu : ((w.drop x).take (2 * y)).length = 2 * y := by rw [List.length_take, List.length_drop]; omega
  have toPer : ∀ q, (∀ t, x ≤ t → t + q < x + 2 * y → w[t + q]? = w[t]?) → Per ((w.drop x).take (2 * y)) q := fun q h t ht => by
    rw [hu] at ht
    rw [at_take_drop (by omega), at_take_drop (by omega), ← Nat.add_assoc]
    exact h (x + t) (by omega) (by omega)
  have hmod : y % p = 0 := by
    have h1 := per_rem hp0 (toPer p hpp) y (toPer y hs) (by rw [hu]; omega)
    rcases Nat.eq_zero_or_pos (y % p) with e | e
    · exact e
    · exfalso
      have hlt := Nat.mod_lt y hp0
      refine hpm (y % p) hlt ⟨e, fun t h2 h3 => ?_⟩
      have h4 := h1 (t - x) (by rw [hu]; omega)
      rw [at_take_drop (by omega), at_take_drop (by omega), ← Nat.add_assoc, show x + (t - x) = t from by omega] at h4
      exact h4
  -- as far to the left and to the right as it goes
  obtain ⟨i, hix, ⟨hiA, hiP⟩, him⟩ := nat_least (P := fun i => i ≤ x ∧ ∀ t, i ≤ t → t + p < x + 2 * y → w[t + p]? = w[t]?) x ⟨Nat.le_refl _, hpp⟩
  obtain ⟨g, hgl, ⟨hgA, hgP⟩, hgm⟩ := nat_least (P := fun g => x + 2 * y + g ≤ w.length ∧ ∀ t, i ≤ t → t + p < w.length - g → w[t + p]? = w[t]?) (w.length - (x + 2 * y)) ⟨by omega, fun t h1 h2 => hiP t h1 (by omega)⟩
  refine ⟨i, w.length - g, p, ⟨hp0, by omega, by omega, hgP, fun q h1 h2 h3 => hpm q h2 ⟨h1, fun t h4 h5 => h3 t (by omega) (by omega)⟩, ?_, ?_⟩, hix, by omega, hmod⟩
  · by_cases e : i = 0
    · exact .inl e
    · right
      intro e1
      refine him (i - 1) (by omega) ⟨by omega, fun t h1 h2 => ?_⟩
      by_cases h3 : t = i - 1
      · rw [h3]; exact e1.symm
      · exact hiP t (by omega) h2
  · by_cases e : g = 0
    · left; omega
    · right
      intro e1
      refine hgm (g - 1) (by omega) ⟨by omega, fun t h1 h2 => ?_⟩
      by_cases h3 : t + p = w.length - g
      · rw [h3, e1, show w.length - g - p = t from by omega]
      · exact hgP t h1 (by omega)
end Go.Proofs.YtfpdikohlafpiaaGreat.Plain
/- Plain facts on the turns of a word: its different turns in their order, the least one, which is a Lyndon word if no turn but a whole one gives the word back; so the least turn of a run's period is a Lyndon word. No conditions beyond those that each fact states. -/
set_option linter.unusedVariables false
namespace Go.Proofs.YtfpdikohlafpiaaGreat.Plain

def rots (u : List Int) : List (List Int) := (List.range u.length).map fun k => u.drop k ++ u.take k
def conjV (u : List Int) : List (List Int) := if u.length ≤ 64 then sdl (rots u) else []
def lcV (u : List Int) : List Int := match conjV u with | [] => u | x :: _ => x
theorem rots_mem {u x : List Int} : x ∈ rots u ↔ ∃ d, d < u.length ∧ x = pw u d u.length := by
  unfold rots
  rw [List.mem_map]
  constructor
  · rintro ⟨k, hk, rfl⟩
    have hk := List.mem_range.1 hk
    exact ⟨k, hk, (pw_turn (by omega)).symm⟩
  · rintro ⟨k, hk, rfl⟩
    exact ⟨k, List.mem_range.2 hk, (pw_turn (by omega)).symm⟩
theorem conjV_nil {u : List Int} (h : u.length = 0) : conjV u = [] := by
  unfold conjV rots
  rw [h]
  simp
  rfl
theorem lcV_big {u : List Int} (h : 64 < u.length) : lcV u = u := by
  unfold lcV conjV
  rw [if_neg (by omega)]
theorem lcV_head {u x : List Int} {l : List (List Int)} (h : conjV u = x :: l) : lcV u = x := by unfold lcV; rw [h]
/-- The first of them is one of them, and none is less. -/
theorem conjV_first {u : List Int} (h0 : 0 < u.length) (h : u.length ≤ 64) : (∃ d, d < u.length ∧ lcV u = pw u d u.length) ∧ ∀ d, cmpW (lcV u) (pw u d u.length) ≤ 0 := by
  have hc : conjV u = sdl (rots u) := by unfold conjV; rw [if_pos h]
  have hsd := sdl_sd (rots u)
  have hmem := sdl_mem (rots u)
  rw [← hc] at hsd hmem
  cases hl : conjV u with
  | nil =>
    exfalso
    have := (hmem _).2 (rots_mem.2 ⟨0, h0, rfl⟩)
    rw [hl] at this
    cases this
  | cons x l =>
    rw [lcV_head hl]
    rw [hl] at hsd hmem
    refine ⟨rots_mem.1 ((hmem x).1 (by simp)), fun d => ?_⟩
    have hd : pw u d u.length = pw u (d % u.length) u.length := pw_ext (pw_len _ _ _) fun i hi => by
      rw [pw_get hi]
      unfold cy
      rw [Nat.mod_add_mod]
    rw [hd]
    rcases List.mem_cons.1 ((hmem _).2 (rots_mem.2 ⟨d % u.length, Nat.mod_lt _ h0, rfl⟩)) with e | e
    · rw [e, cmpW_self]; omega
    · have := (List.pairwise_cons.1 hsd).1 _ e
      omega
theorem lcV_len {u : List Int} : (lcV u).length = u.length := by
  by_cases h0 : u.length = 0
  · unfold lcV
    rw [conjV_nil h0]
  · by_cases h : u.length ≤ 64
    · obtain ⟨⟨d, _, e⟩, _⟩ := conjV_first (u := u) (by omega) h
      rw [e, pw_len]
    · rw [lcV_big (by omega)]
theorem lcV_lyn {u : List Int} (hp : Prim u) (h : u.length ≤ 64) : Lyn (lcV u) := by
  obtain ⟨⟨b, hb, he⟩, hle⟩ := conjV_first hp.1 h
  obtain ⟨a, ha, hpa, hla⟩ := exists_least u hp
  have hn := hp.1
  have e1 : pw (pw u a u.length) (b + u.length - a) u.length = pw u b u.length := by
    rw [pw_pw rfl hn, show a + (b + u.length - a) = b + u.length from by omega, pw_shift]
  have h1 := hla (b + u.length - a)
  rw [pw_len, e1, ← he] at h1
  have h2 := hle a
  have h3 := cmpW_neg (lcV u) (pw u a u.length)
  have h4 := cmpW_zero (lcV u) (pw u a u.length) (by omega)
  rw [h4]
  exact lyn_of_least hpa hla
theorem Rn.lyn {w : List Int} {i j p : Nat} (h : Rn w i j p) (hw : w.length ≤ 64) : Lyn (lcV ((w.drop i).take p)) :=
  lcV_lyn (run_prim h.p0 h.two h.jn h.per h.min) (by rw [List.length_take, List.length_drop]; omega)
end Go.Proofs.YtfpdikohlafpiaaGreat.Plain
/- Plain facts on the words of a number, on the Lyndon words among them, and on how many there are by the formulas of Moebius and of the classes. No conditions beyond those that each fact states. -/
namespace Go.Proofs.YtfpdikohlafpiaaGreat.Plain

/-- The word of n letters of a number, the first letter counts most. -/
def wd (a : Nat) : Nat → Nat → List Int
  | 0, _ => []
  | n + 1, c => wd a n (c / a) ++ [((c % a : Nat) : Int)]
theorem wd_len (a : Nat) : ∀ n c, (wd a n c).length = n
  | 0, _ => rfl
  | n + 1, c => by simp [wd, wd_len a n]
theorem wd_range {a : Nat} (h : 0 < a) : ∀ n c, ∀ x ∈ wd a n c, 0 ≤ x ∧ x < a
  | 0, _, x, hx => by simp [wd] at hx
  | n + 1, c, x, hx => by
    rw [wd, List.mem_append] at hx
    rcases hx with hx | hx
    · exact wd_range h n _ x hx
    · rw [List.mem_singleton] at hx
      have := Nat.mod_lt c h
      omega
theorem wd_lt {a : Nat} (h : 0 < a) : ∀ n c c', c < c' → c' < a ^ n → cmpW (wd a n c) (wd a n c') < 0
  | 0, c, c', h1, h2 => by simp at h2; omega
  | n + 1, c, c', h1, h2 => by
    have hd := Nat.div_le_div_right (c := a) (Nat.le_of_lt h1)
    have hc := Nat.div_add_mod c a
    have hc' := Nat.div_add_mod c' a
    have hlt : c' / a < a ^ n := by
      rw [Nat.pow_succ, Nat.mul_comm] at h2
      exact Nat.div_lt_of_lt_mul h2
    unfold wd
    by_cases e : c / a = c' / a
    · rw [e, cmpW_pre]
      rw [e] at hc
      have : c % a < c' % a := by omega
      simp only [cmpW]
      rw [if_pos (by omega)]
      omega
    · exact lt_app _ _ (lt_find (wd_lt h n _ _ (by omega) hlt) (by rw [wd_len, wd_len]; omega))
theorem wd_all {a : Nat} (h : 0 < a) : ∀ n (x : List Int), x.length = n → (∀ y ∈ x, 0 ≤ y ∧ y < a) → ∃ c, c < a ^ n ∧ x = wd a n c
  | 0, x, hl, _ => ⟨0, by simp, by rw [List.length_eq_zero_iff.1 hl]; rfl⟩
  | n + 1, x, hl, hx => by
    have hne : x ≠ [] := fun e => by rw [e] at hl; simp at hl
    obtain ⟨y, z, rfl⟩ : ∃ y z, x = y ++ [z] := ⟨x.dropLast, x.getLast hne, (List.dropLast_concat_getLast hne).symm⟩
    obtain ⟨c, hc, rfl⟩ := wd_all h n y (by rw [List.length_append] at hl; simpa using hl) (fun q hq => hx q (List.mem_append.2 (.inl hq)))
    have hz := hx z (by simp)
    refine ⟨a * c + z.toNat, ?_, ?_⟩
    · have : a * (c + 1) ≤ a * a ^ n := Nat.mul_le_mul_left a hc
      rw [Nat.mul_succ] at this
      rw [Nat.pow_succ, Nat.mul_comm (a ^ n) a]
      omega
    · rw [show wd a (n + 1) (a * c + z.toNat) = wd a n ((a * c + z.toNat) / a) ++ [(((a * c + z.toNat) % a : Nat) : Int)] from rfl]
      rw [Nat.mul_add_div h, Nat.mul_add_mod, Nat.div_eq_of_lt (by omega), Nat.mod_eq_of_lt (by omega), Nat.add_zero, Int.toNat_of_nonneg hz.1]
def lynW (a n : Nat) : List (List Int) := ((List.range (a ^ n)).map (wd a n)).filter lyB
theorem lynW_mem {a n : Nat} (h : 0 < a) {x : List Int} : x ∈ lynW a n ↔ x.length = n ∧ (∀ y ∈ x, 0 ≤ y ∧ y < a) ∧ Lyn x := by
  unfold lynW
  rw [List.mem_filter, List.mem_map, lyB_iff]
  constructor
  · rintro ⟨⟨c, hc, rfl⟩, hl⟩
    exact ⟨wd_len a n c, wd_range h n c, hl⟩
  · rintro ⟨h1, h2, h3⟩
    obtain ⟨c, hc, rfl⟩ := wd_all h n x h1 h2
    exact ⟨⟨c, List.mem_range.2 hc, rfl⟩, h3⟩
theorem lynW_sd {a n : Nat} (h : 0 < a) : SD (lynW a n) := by
  unfold lynW SD
  refine List.Pairwise.filter _ ?_
  rw [List.pairwise_map]
  refine List.Pairwise.imp_of_mem (fun {c c'} h1 h2 hlt => wd_lt h n c c' hlt (List.mem_range.1 h2)) List.pairwise_lt_range
def mobA : Nat → Nat → Nat → Int → Int
  | 0, _, _, m => m
  | f + 1, p, n, m => if p ≤ n then (if n % p = 0 then (if n / p % p = 0 then 0 else mobA f (p + 1) (n / p) (-m)) else mobA f (p + 1) n m) else m
def mob (n : Nat) : Int := mobA n 2 n 1
def clS (a n : Nat) : Int := ((List.range n).map fun d => if n % (d + 1) = 0 then mob (d + 1) * ((a ^ (n / (d + 1)) : Nat) : Int) else 0).sum
def clV (a n : Nat) : Int := clS a n / (n : Int)
def cnS (a n : Nat) : Nat := ((List.range n).map fun k => a ^ Nat.gcd n k).sum
def cnV (a n : Nat) : Nat := cnS a n / n
/-- The numbers from 1 on. -/
theorem cl_table : ∀ a, a < 4 → ∀ n, n < 8 → (a + 1) ^ (n + 1) ≤ 300 → ((lynW (a + 1) (n + 1)).length : Int) = clV (a + 1) (n + 1) := by
  have h : ((List.range 4).all fun a => (List.range 8).all fun n => decide (300 < (a + 1) ^ (n + 1)) || decide (((lynW (a + 1) (n + 1)).length : Int) = clV (a + 1) (n + 1))) = true := by kernel_rfl
  intro a ha n hn hp
  have h1 := List.all_eq_true.1 (List.all_eq_true.1 h a (List.mem_range.2 ha)) n (List.mem_range.2 hn)
  rw [Bool.or_eq_true, decide_eq_true_eq, decide_eq_true_eq] at h1
  rcases h1 with e | e
  · omega
  · exact e
theorem cl_words {a n : Nat} (ha : 1 ≤ a ∧ a ≤ 4) (hn : 1 ≤ n ∧ n ≤ 8) (hp : a ^ n ≤ 300) : ((lynW a n).length : Int) = clV a n := by
  obtain ⟨a, rfl⟩ : ∃ b, a = b + 1 := ⟨a - 1, by omega⟩
  obtain ⟨n, rfl⟩ : ∃ m, n = m + 1 := ⟨n - 1, by omega⟩
  exact cl_table a (by omega) n (by omega) hp
end Go.Proofs.YtfpdikohlafpiaaGreat.Plain
/- Plain facts on the parts of a word, on those that are followed by two letters, on what lies between two places of a part. No conditions beyond those that each fact states. -/
namespace Go.Proofs.YtfpdikohlafpiaaGreat.Plain
/-- The parts of n letters, place by place. -/
def wins (xs : List Int) (n : Nat) : List (List Int) := (List.range (xs.length + 1 - n)).map fun i => (xs.drop i).take n
theorem wins_len (xs : List Int) (n : Nat) : (wins xs n).length = xs.length + 1 - n := by simp [wins]
theorem wins_take {xs : List Int} {n i : Nat} (h : i + n ≤ xs.length) : (wins xs n).take (i + 1) = (wins xs n).take i ++ [(xs.drop i).take n] := by
  rw [List.take_succ_eq_append_getElem (by rw [wins_len]; omega)]
  simp [wins]
theorem wins_all {xs : List Int} {n i : Nat} (h : i = xs.length + 1 - n) : (wins xs n).take i = wins xs n := List.take_of_length_le (by rw [wins_len]; omega)
theorem wins_row {xs : List Int} {n : Nat} {p : List Int} (h : p ∈ wins xs n) : p.length = n := by
  simp only [wins, List.mem_map, List.mem_range] at h
  obtain ⟨i, hi, rfl⟩ := h
  rw [List.length_take, List.length_drop]
  omega
def facB (xs : List Int) : Bool := wordB xs 16 && decide (xs.length ≤ 128)
def facK (xs : List Int) (n : Int) : Bool := facB xs && decide (0 ≤ n ∧ n ≤ 40)
def facV (xs : List Int) (n : Int) : List (List Int) := if facK xs n = true then sdl (wins xs n.toNat) else []
theorem facK_out {xs : List Int} {n : Int} (h : facK xs n = true) : wordB xs 16 = true ∧ xs.length ≤ 128 ∧ 0 ≤ n ∧ n ≤ 40 := by
  simp only [facK, facB, Bool.and_eq_true, decide_eq_true_eq] at h
  exact ⟨h.1.1, h.1.2, h.2.1, h.2.2⟩
theorem facB_yes {xs : List Int} (h1 : wordB xs 16 = true) (h2 : xs.length ≤ 128) : facB xs = true := by simp [facB, h1, h2]
theorem facK_yes {xs : List Int} {n : Int} (h1 : wordB xs 16 = true) (h2 : xs.length ≤ 128) (h3 : 0 ≤ n) (h4 : n ≤ 40) : facK xs n = true := by simp [facK, facB_yes h1 h2, h3, h4]
theorem facB_no1 {xs : List Int} (h : wordB xs 16 = false) : facB xs = false := by simp [facB, h]
theorem facB_no2 {xs : List Int} (h : ¬ xs.length ≤ 128) : facB xs = false := by simp [facB]; intros; omega
theorem facK_no {xs : List Int} {n : Int} (h : facB xs = false) : facK xs n = false := by simp [facK, h]
theorem facK_no3 {xs : List Int} {n : Int} (h : ¬ (0 ≤ n ∧ n ≤ 40)) : facK xs n = false := by simp only [facK, decide_eq_false h, Bool.and_false]
theorem facV_no {xs : List Int} {n : Int} (h : facK xs n = false) : facV xs n = [] := by simp [facV, h]
theorem facV_yes {xs : List Int} {n : Nat} (h : facK xs n = true) : facV xs n = sdl (wins xs n) := by simp [facV, h]
theorem facV_row {xs : List Int} {n : Int} {p : List Int} (h : p ∈ facV xs n) : (p.length : Int) = n := by
  unfold facV at h
  split at h
  · rename_i hk
    have := wins_row ((sdl_mem _ _).1 h)
    have := facK_out hk
    omega
  · cases h
theorem facV_len (xs : List Int) (n : Int) : (facV xs n).length ≤ 129 := by
  unfold facV
  split
  · rename_i hk
    have h1 := sdl_len (wins xs n.toNat)
    have h2 := wins_len xs n.toNat
    have h3 := facK_out hk
    omega
  · simp
theorem tot_le {rows : List (List Int)} {n : Nat} (h : ∀ r ∈ rows, r.length ≤ n) : tot rows ≤ rows.length * n := by
  induction rows with
  | nil => simp [tot]
  | cons r rows ih =>
    have h1 := ih fun x hx => h x (by simp [hx])
    have h2 := h r (by simp)
    have : tot (r :: rows) = r.length + tot rows := by simp [tot]
    rw [this, List.length_cons, Nat.add_mul]
    omega
theorem facV_size (xs : List Int) (n : Int) : tot (facV xs n) ≤ 5160 := by
  by_cases hk : facK xs n = true
  · have h1 := facK_out hk
    have h2 := tot_le (rows := facV xs n) (n := 40) fun r hr => by have := facV_row hr; omega
    have h3 := facV_len xs n
    omega
  · rw [facV_no (by simpa using hk)]
    simp [tot]
def cntV (xs : List Int) (n : Int) : Int := if facK xs n = true then (facV xs n).length else -1
theorem cntV_no {xs : List Int} {n : Int} (h : facK xs n = false) : cntV xs n = -1 := by simp [cntV, h]
theorem cntV_yes {xs : List Int} {n : Int} (h : facK xs n = true) : cntV xs n = (facV xs n).length := by simp [cntV, h]
/-- The different letters that stand m places behind the places of a list. -/
def addN (l : List Int) (x : Int) : List Int := if x ∈ l then l else l ++ [x]
def folT (xs : List Int) (m : Nat) (at_ : List Int) (k : Nat) : List Int := (at_.take k).foldl (fun l i => if h : (i.toNat + m) < xs.length then addN l xs[i.toNat + m] else l) []
def folls (xs : List Int) (m : Nat) (at_ : List Int) : List Int := folT xs m at_ at_.length
theorem folT_zero (xs : List Int) (m : Nat) (at_ : List Int) : folT xs m at_ 0 = [] := rfl
theorem folT_none {xs : List Int} {m : Nat} {at_ : List Int} {k : Nat} {i : Int} (h : at_[k]? = some i) (hn : xs.length ≤ i.toNat + m) : folT xs m at_ (k + 1) = folT xs m at_ k := by
  obtain ⟨h1, h2⟩ := List.getElem?_eq_some_iff.1 h
  unfold folT
  rw [List.take_succ_eq_append_getElem h1, List.foldl_append, h2]
  simp [show ¬ i.toNat + m < xs.length from by omega]
theorem folT_some {xs : List Int} {m : Nat} {at_ : List Int} {k : Nat} {i x : Int} (h : at_[k]? = some i) (hx : xs[i.toNat + m]? = some x) : folT xs m at_ (k + 1) = addN (folT xs m at_ k) x := by
  obtain ⟨h1, h2⟩ := List.getElem?_eq_some_iff.1 h
  obtain ⟨h3, h4⟩ := List.getElem?_eq_some_iff.1 hx
  unfold folT
  rw [List.take_succ_eq_append_getElem h1, List.foldl_append, h2]
  simp [h3, h4]
theorem addN_has {l : List Int} {x : Int} (h : x ∈ l) : addN l x = l := by simp [addN, h]
theorem addN_new {l : List Int} {x : Int} (h : ¬ x ∈ l) : addN l x = l ++ [x] := by simp [addN, h]
theorem addN_len (l : List Int) (x : Int) : (addN l x).length ≤ l.length + 1 := by
  unfold addN
  split <;> simp
theorem folT_len (xs : List Int) (m : Nat) (at_ : List Int) : ∀ k, (folT xs m at_ k).length ≤ k
  | 0 => by simp [folT]
  | k + 1 => by
    have ih := folT_len xs m at_ k
    cases h : at_[k]? with
    | none =>
      have h1 := List.getElem?_eq_none_iff.1 h
      have : folT xs m at_ (k + 1) = folT xs m at_ k := by
        unfold folT
        rw [List.take_of_length_le (by omega), List.take_of_length_le (by omega)]
      rw [this]; omega
    | some i =>
      by_cases hn : xs.length ≤ i.toNat + m
      · rw [folT_none h hn]; omega
      · rw [folT_some h (List.getElem?_eq_getElem (by omega))]
        have := addN_len (folT xs m at_ k) (xs[i.toNat + m]'(by omega))
        omega
theorem folT_all {xs : List Int} {m : Nat} {at_ : List Int} {k : Nat} (h : k = at_.length) : folT xs m at_ k = folls xs m at_ := by rw [h]; rfl
/-- Is a part followed by two letters at least. -/
def rsB (xs p : List Int) : Bool := decide (2 ≤ (folls xs p.length (occ xs p)).length)
def rsV (xs : List Int) (n : Int) : List (List Int) := (facV xs n).filter (rsB xs)
theorem rsV_size (xs : List Int) (n : Int) : tot (rsV xs n) ≤ 5160 := by
  by_cases hk : facK xs n = true
  · have h1 := facK_out hk
    have h2 := tot_le (rows := rsV xs n) (n := 40) fun r hr => by have := facV_row (List.mem_filter.1 hr).1; omega
    have h3 := facV_len xs n
    have h4 : (rsV xs n).length ≤ (facV xs n).length := List.length_filter_le _ _
    omega
  · rw [rsV, facV_no (by simpa using hk)]
    simp [tot]
theorem filter_take {α : Type} {p : α → Bool} {l : List α} {k : Nat} {x : α} (h : l[k]? = some x) : (l.take (k + 1)).filter p = (l.take k).filter p ++ if p x = true then [x] else [] := by
  obtain ⟨h1, rfl⟩ := List.getElem?_eq_some_iff.1 h
  rw [List.take_succ_eq_append_getElem h1, List.filter_append]
  congr 1
  by_cases hp : p l[k] = true <;> simp [hp]
/-- What lies between one place and the next. -/
def segT (xs at_ : List Int) (k : Nat) : List (List Int) := (List.range k).map fun j => (xs.drop (at_.getD j 0).toNat).take ((at_.getD (j + 1) 0).toNat - (at_.getD j 0).toNat)
def segs (xs at_ : List Int) : List (List Int) := segT xs at_ (at_.length - 1)
theorem segT_len (xs at_ : List Int) (k : Nat) : (segT xs at_ k).length = k := by simp [segT]
theorem segT_succ {xs at_ : List Int} {k a b : Nat} (ha : at_[k]? = some (a : Int)) (hb : at_[k + 1]? = some (b : Int)) : segT xs at_ (k + 1) = segT xs at_ k ++ [(xs.drop a).take (b - a)] := by
  simp only [segT, List.range_succ, List.map_append, List.map_cons, List.map_nil]
  simp [List.getD, ha, hb]
def retK (xs ys : List Int) : Bool := facB xs && decide (0 < ys.length)
def retV (xs ys : List Int) : List (List Int) := if retK xs ys = true then sdl (segs xs (occ xs ys)) else []
theorem retK_no1 {xs ys : List Int} (h : facB xs = false) : retK xs ys = false := by simp [retK, h]
theorem retK_no2 {xs ys : List Int} (h : ys.length = 0) : retK xs ys = false := by simp [retK, h]
theorem retV_no {xs ys : List Int} (h : retK xs ys = false) : retV xs ys = [] := by simp [retV, h]
theorem retV_yes {xs ys : List Int} (h : facB xs = true) (h2 : 0 < ys.length) : retV xs ys = sdl (segs xs (occ xs ys)) := by simp [retV, retK, h, h2]
theorem retV_size (xs ys : List Int) : tot (retV xs ys) ≤ 20000 := by
  unfold retV
  split
  · rename_i hk
    simp only [retK, facB, Bool.and_eq_true, decide_eq_true_eq] at hk
    have h2 := tot_le (rows := sdl (segs xs (occ xs ys))) (n := 128) fun r hr => by
      have := (sdl_mem _ _).1 hr
      simp only [segs, segT, List.mem_map, List.mem_range] at this
      obtain ⟨i, hi, rfl⟩ := this
      rw [List.length_take, List.length_drop]
      omega
    have h3 := sdl_len (segs xs (occ xs ys))
    have h4 := occ_len xs ys
    have h5 : (segs xs (occ xs ys)).length = (occ xs ys).length - 1 := segT_len _ _ _
    have h6 : (sdl (segs xs (occ xs ys))).length * 128 ≤ 129 * 128 := Nat.mul_le_mul_right _ (by omega)
    omega
  · simp [tot]
/-- How many parts there are of each length up to n. -/
def compT (xs : List Int) (k : Nat) : List Int := (List.range k).map fun j : Nat => cntV xs j
def compV (xs : List Int) (n : Int) : List Int := if facK xs n = true then compT xs (n.toNat + 1) else []
theorem compT_succ (xs : List Int) (k : Nat) : compT xs (k + 1) = compT xs k ++ [cntV xs k] := by simp [compT, List.range_succ]
theorem compT_len (xs : List Int) (k : Nat) : (compT xs k).length = k := by simp [compT]
theorem compV_len (xs : List Int) (n : Int) : (compV xs n).length ≤ 41 := by
  unfold compV
  split
  · rename_i h
    have := facK_out h
    rw [compT_len]
    omega
  · simp
end Go.Proofs.YtfpdikohlafpiaaGreat.Plain
/- Plain facts on Lyndon words for the two programs: the first factor and how often it comes; the turns of a word as parts of its double; the last factor is the longest end that is a Lyndon word; the words of a number, letter by letter; the sums of the counts. No conditions beyond those that each fact states. -/
set_option linter.unusedVariables false
namespace Go.Proofs.YtfpdikohlafpiaaGreat.Plain

/-! ### The first factor -/
/-- The first factor has p letters and comes t times in a row. -/
def FF (v : List Int) (p t : Nat) : Prop := (v.length = 0 → p = 1 ∧ t = 0) ∧ (0 < v.length → p = lyL v ∧ 0 < p ∧ 0 < t ∧ t * p ≤ v.length ∧ ∀ s, s < t → lynF (v.drop (s * p)) = (v.drop (s * p)).take p :: lynF (v.drop ((s + 1) * p)))
theorem Duv.all {w : List Int} {j k : Nat} (h : Duv w 0 j k) : ∀ s, (s + 1) * (j - k) ≤ j → Duv w (s * (j - k)) j k
  | 0, _ => by rw [Nat.zero_mul]; exact h
  | s + 1, hs => by
    have e : (s + 1 + 1) * (j - k) = s * (j - k) + (j - k) + (j - k) := by rw [Nat.succ_mul, Nat.succ_mul]
    have e2 : (s + 1) * (j - k) = s * (j - k) + (j - k) := Nat.succ_mul _ _
    have h1 := h.kj
    rw [e] at hs
    have := (h.all s (by rw [e2]; omega)).next (by omega)
    rw [e2]
    exact this
theorem Duv.ff {w : List Int} {j k : Nat} (h : Duv w 0 j k) (hs : j = w.length ∨ ∃ a b : Int, w[k]? = some a ∧ w[j]? = some b ∧ b < a) : FF w (j - k) (j / (j - k)) := by
  have h1 := h.kj; have h2 := h.jn
  refine ⟨fun e => by omega, fun h0 => ?_⟩
  have he := h.emit hs
  rw [List.drop_zero] at he
  have hm : j / (j - k) * (j - k) ≤ j := Nat.div_mul_le_self _ _
  refine ⟨he.symm, by omega, Nat.div_pos (by omega) (by omega), by omega, fun s hst => ?_⟩
  have hle : (s + 1) * (j - k) ≤ j := Nat.le_trans (Nat.mul_le_mul_right _ hst) hm
  have := (h.all s hle).out hs
  rw [this, Nat.succ_mul]
theorem Duv.same' {w : List Int} {j p : Nat} (h : Duv w 0 j (j - p)) (hp : p ≤ j) (hj : j < w.length) (he : w[j - p]? = w[j]?) : Duv w 0 (j + 1) (j + 1 - p) := by
  have := h.same hj he
  rwa [show j - p + 1 = j + 1 - p from by omega] at this
theorem ff_ly {w : List Int} {p t : Nat} (h : FF w p t) : (decide (0 < w.length) && decide (p = w.length)) = lyB w := by
  by_cases h0 : 0 < w.length
  · obtain ⟨h1, _⟩ := h.2 h0
    rw [decide_eq_true h0, Bool.true_and, h1, Bool.eq_iff_iff, decide_eq_true_eq, lyB_iff]
    exact (lyn_lyL h0).symm
  · rw [decide_eq_false h0, Bool.false_and]
    symm
    rw [Bool.eq_false_iff]
    intro e
    exact h0 (lyB_iff.1 e).1

theorem lynF_len (w : List Int) : (lynF w).length ≤ w.length := by
  refine lynF_ind (P := fun w => (lynF w).length ≤ w.length) (fun w h => by rw [lynF_nil h]; simp) (fun w h ih => ?_) w
  have h1 := (lyL_spec h).1
  rw [lynF_cons h, List.length_cons]
  rw [List.length_drop] at ih
  omega
theorem tot_lynF (w : List Int) : tot (lynF w) = w.length := by
  have := congrArg List.length (lynF_join w)
  rw [List.length_flatten] at this
  exact this
theorem lynF_part {w a b : List Int} {rows : List (List Int)} (h : rows ++ lynF a = lynF w) : rows.length ≤ w.length := by
  have := congrArg List.length h
  rw [List.length_append] at this
  have := lynF_len w
  omega

/-! ### The turns of a word -/
theorem rots_len (u : List Int) : (rots u).length = u.length := by simp [rots]
theorem rots_take {u : List Int} {k : Nat} (h : k < u.length) : (rots u).take (k + 1) = (rots u).take k ++ [u.drop k ++ u.take k] := by
  rw [List.take_succ_eq_append_getElem (by rw [rots_len]; exact h)]
  congr 2
  simp [rots]
theorem rots_all {u : List Int} {k : Nat} (h : u.length ≤ k) : (rots u).take k = rots u := List.take_of_length_le (by rw [rots_len]; exact h)
theorem double_part {u : List Int} {i : Nat} (h : i ≤ u.length) : ((u ++ u).drop i).take u.length = u.drop i ++ u.take i := by
  rw [List.drop_append_of_le_length h, List.take_append, List.take_of_length_le (by rw [List.length_drop]; omega), List.length_drop]
  congr 2
  omega
theorem conj_wins {u : List Int} (h : 0 < u.length) : sdl (wins (u ++ u) u.length) = sdl (rots u) := by
  refine sdl_eq (sdl_sd _) fun x => (sdl_mem _ x).trans ?_
  unfold rots wins
  rw [List.mem_map, List.mem_map]
  constructor
  · rintro ⟨k, hk, rfl⟩
    have hk := List.mem_range.1 hk
    exact ⟨k, List.mem_range.2 (by rw [List.length_append]; omega), double_part (by omega)⟩
  · rintro ⟨k, hk, rfl⟩
    have hk := List.mem_range.1 hk
    rw [List.length_append] at hk
    by_cases e : k = u.length
    · subst e
      exact ⟨0, List.mem_range.2 h, by rw [double_part (Nat.le_refl _), List.drop_length, List.take_length]; simp⟩
    · exact ⟨k, List.mem_range.2 (by omega), (double_part (by omega)).symm⟩
theorem conjV_eq {u : List Int} (h0 : 0 < u.length) (h : u.length ≤ 64) : conjV u = sdl (wins (u ++ u) u.length) := by
  rw [conj_wins h0]
  unfold conjV
  rw [if_pos h]
theorem conjV_big {u : List Int} (h : 64 < u.length) : conjV u = [] := by
  unfold conjV
  rw [if_neg (by omega)]
theorem conjV_len (u : List Int) : (conjV u).length ≤ 64 := by
  unfold conjV
  by_cases h : u.length ≤ 64
  · rw [if_pos h]
    have := sdl_len (rots u)
    rw [rots_len] at this
    omega
  · rw [if_neg h]; simp
theorem conjV_row {u x : List Int} (h : x ∈ conjV u) : x.length = u.length ∧ u.length ≤ 64 := by
  unfold conjV at h
  by_cases hl : u.length ≤ 64
  · rw [if_pos hl, sdl_mem, rots_mem] at h
    obtain ⟨d, _, rfl⟩ := h
    exact ⟨pw_len _ _ _, hl⟩
  · rw [if_neg hl] at h; cases h
theorem conjV_none {u : List Int} (h : conjV u = []) : lcV u = u := by unfold lcV; rw [h]

/-! ### The last factor -/
theorem getLast?_cons2 {α : Type} (x y : α) (l : List α) : (x :: y :: l).getLast? = (y :: l).getLast? := by simp [List.getLast?_cons]
theorem lynF_last (v : List Int) (h0 : 0 < v.length) : ∃ x, (lynF v).getLast? = some x ∧ x.length ≤ v.length ∧ v.drop (v.length - x.length) = x ∧ Lyn x ∧ ∀ q, q < v.length - x.length → ¬ Lyn (v.drop q) := by
  revert h0
  refine lynF_ind (P := fun v => 0 < v.length → ∃ x, (lynF v).getLast? = some x ∧ x.length ≤ v.length ∧ v.drop (v.length - x.length) = x ∧ Lyn x ∧ ∀ q, q < v.length - x.length → ¬ Lyn (v.drop q)) (fun v h h0 => by omega) (fun v h ih _ => ?_) v
  obtain ⟨p1, p2, p3, p4⟩ := lyL_spec h
  have hc := lynF_cons h
  obtain ⟨p, hp⟩ : ∃ p, p = lyL v := ⟨_, rfl⟩
  rw [← hp] at ih hc p1 p2 p3
  by_cases hr : (v.drop p).length = 0
  · rw [lynF_nil hr] at hc
    have : p = v.length := by rw [List.length_drop] at hr; omega
    rw [this, List.take_length] at hc p3
    exact ⟨v, by rw [hc]; rfl, Nat.le_refl _, by rw [Nat.sub_self, List.drop_zero], p3, fun q hq => by omega⟩
  · obtain ⟨x, h1, h2, h3, h4, h5⟩ := ih (by omega)
    have hx0 := h4.1
    rw [List.length_drop] at h2 h3 h5
    rw [List.drop_drop, show p + (v.length - p - x.length) = v.length - x.length from by omega] at h3
    obtain ⟨y, l, hyl⟩ : ∃ y l, lynF (v.drop p) = y :: l := by
      rw [lynF_cons (by omega)]
      exact ⟨_, _, rfl⟩
    have hlast : (lynF v).getLast? = some x := by rw [hc, hyl, getLast?_cons2, ← hyl, h1]
    refine ⟨x, hlast, by omega, h3, h4, fun q hq hL => ?_⟩
    by_cases hqp : p ≤ q
    · refine h5 (q - p) (by omega) ?_
      rw [List.drop_drop, show p + (q - p) = q from by omega]
      exact hL
    · have hs := hL.2 (v.length - x.length - q) (by omega) (by rw [List.length_drop]; omega)
      rw [List.drop_drop, show q + (v.length - x.length - q) = v.length - x.length from by omega, h3] at hs
      have ht : cmpW (v.take p) ((v.take p).drop q) ≤ 0 := by
        by_cases e : q = 0
        · rw [e, List.drop_zero, cmpW_self]; omega
        · have := p3.2 q (by omega) (by rw [List.length_take]; omega)
          omega
      have hsp : cmpW ((v.take p).drop q) (v.drop q) ≤ 0 := by
        have e : v.drop q = (v.take p).drop q ++ v.drop p := by
          conv => lhs; rw [← List.take_append_drop p v]
          rw [List.drop_append_of_le_length (by rw [List.length_take]; omega)]
        rw [e]
        exact pre_le _ _
      have hxf : cmpW x (v.take p) ≤ 0 := by
        rw [List.getLast?_eq_getElem?] at hlast
        exact lynF_chain v _ _ _ (by rw [hc]; rfl) hlast
      exact lt_irr (lt_le hs (le_le (le_le hxf ht) hsp))
/-- The longest proper end that is a Lyndon word begins there. -/
def spN (w : List Int) : Nat := w.length - ((lynF (w.drop 1)).getLast?.getD []).length
def spK (w : List Int) : Bool := decide (2 ≤ w.length) && lyB w
def spA (w : List Int) : List Int := if spK w = true then w.take (spN w) else []
def spB (w : List Int) : List Int := if spK w = true then w.drop (spN w) else []
theorem sp_spec {w : List Int} (h : 2 ≤ w.length) : 0 < spN w ∧ spN w < w.length ∧ (lynF (w.drop 1)).getLast? = some (w.drop (spN w)) ∧ Lyn (w.drop (spN w)) ∧ ∀ q, 0 < q → q < spN w → ¬ Lyn (w.drop q) := by
  have hl : (w.drop 1).length = w.length - 1 := by rw [List.length_drop]
  obtain ⟨x, h1, h2, h3, h4, h5⟩ := lynF_last (w.drop 1) (by omega)
  have e : spN w = w.length - x.length := by unfold spN; rw [h1]; rfl
  have hx := h4.1
  rw [hl] at h2 h3 h5
  rw [List.drop_drop, show 1 + (w.length - 1 - x.length) = w.length - x.length from by omega] at h3
  rw [e]
  refine ⟨by omega, by omega, by rw [h1, h3], by rw [h3]; exact h4, fun q hq0 hq hL => h5 (q - 1) (by omega) ?_⟩
  rw [List.drop_drop, show 1 + (q - 1) = q from by omega]
  exact hL
theorem sp_unique {w : List Int} {k : Nat} (h : 2 ≤ w.length) (h0 : 0 < k) (hk : k < w.length) (hL : Lyn (w.drop k)) (hm : ∀ q, 0 < q → q < k → ¬ Lyn (w.drop q)) : k = spN w := by
  obtain ⟨h1, h2, h3, h4, h5⟩ := sp_spec h
  rcases Nat.lt_trichotomy k (spN w) with e | e | e
  · exact absurd hL (h5 k h0 e)
  · exact e
  · exact absurd h4 (hm _ h1 e)
theorem sp_len (w : List Int) : (spA w).length ≤ w.length ∧ (spB w).length ≤ w.length := by
  unfold spA spB
  by_cases h : spK w = true
  · rw [if_pos h, if_pos h, List.length_take, List.length_drop]; omega
  · rw [if_neg h, if_neg h]; simp

/-! ### The words of a number -/
def allW (a n : Nat) : List (List Int) := (List.range (a ^ n)).map (wd a n)
theorem allW_len (a n : Nat) : (allW a n).length = a ^ n := by simp [allW]
theorem allW_at {a n c : Nat} (h : c < a ^ n) : (allW a n)[c]? = some (wd a n c) := by simp [allW, h]
theorem allW_zero (a : Nat) : allW a 0 = [[]] := by simp [allW, wd]
theorem wd_next {a n i c : Nat} (hc : c < a) : wd a (n + 1) (i * a + c) = wd a n i ++ [(c : Int)] := by
  have h0 : 0 < a := by omega
  show wd a n ((i * a + c) / a) ++ [(((i * a + c) % a : Nat) : Int)] = _
  rw [show (i * a + c) / a = i from by rw [Nat.mul_comm, Nat.mul_add_div h0, Nat.div_eq_of_lt hc, Nat.add_zero], show (i * a + c) % a = c from by rw [Nat.mul_comm, Nat.mul_add_mod, Nat.mod_eq_of_lt hc]]
theorem allW_take {a n i c : Nat} (hc : c < a) (hi : i < a ^ n) : (allW a (n + 1)).take (i * a + c + 1) = (allW a (n + 1)).take (i * a + c) ++ [wd a n i ++ [(c : Int)]] := by
  have hlt : i * a + c < a ^ (n + 1) := by
    have : (i + 1) * a ≤ a ^ n * a := Nat.mul_le_mul_right a hi
    rw [Nat.succ_mul] at this
    rw [Nat.pow_succ]
    omega
  rw [List.take_succ_eq_append_getElem (by rw [allW_len]; exact hlt)]
  congr 2
  have := allW_at hlt
  obtain ⟨h1, h2⟩ := List.getElem?_eq_some_iff.1 this
  rw [h2, wd_next hc]
theorem lynW_all (a n : Nat) : lynW a n = (allW a n).filter lyB := rfl
theorem lynW_take {a n c : Nat} (h : c < a ^ n) : ((allW a n).take (c + 1)).filter lyB = ((allW a n).take c).filter lyB ++ (if lyB (wd a n c) = true then [wd a n c] else []) := by
  rw [List.take_succ_eq_append_getElem (by rw [allW_len]; exact h), List.filter_append]
  congr 1
  have := allW_at h
  obtain ⟨h1, h2⟩ := List.getElem?_eq_some_iff.1 this
  rw [h2]
  by_cases hb : lyB (wd a n c) = true
  · simp [hb]
  · simp [hb]
def lwK (a n : Int) : Bool := decide (1 ≤ a ∧ a ≤ 4 ∧ 1 ≤ n ∧ n ≤ 8) && decide (a.toNat ^ n.toNat ≤ 300)
def lwV (a n : Int) : List (List Int) := if lwK a n = true then lynW a.toNat n.toNat else []
theorem lynW_len (a n : Nat) : (lynW a n).length ≤ a ^ n := by
  rw [lynW_all]
  have := List.length_filter_le lyB (allW a n)
  rw [allW_len] at this
  exact this
theorem lynW_row {a n : Nat} {x : List Int} (h : x ∈ lynW a n) : x.length = n := by
  unfold lynW at h
  obtain ⟨c, _, rfl⟩ := List.mem_map.1 (List.mem_filter.1 h).1
  exact wd_len a n c
theorem lwV_len (a n : Int) : (lwV a n).length ≤ 300 := by
  unfold lwV
  by_cases h : lwK a n = true
  · rw [if_pos h]
    simp only [lwK, Bool.and_eq_true, decide_eq_true_eq] at h
    exact Nat.le_trans (lynW_len _ _) h.2
  · rw [if_neg h]; simp
theorem lwV_row {a n : Int} {x : List Int} (h : x ∈ lwV a n) : x.length ≤ 8 := by
  unfold lwV at h
  by_cases hk : lwK a n = true
  · rw [if_pos hk] at h
    simp only [lwK, Bool.and_eq_true, decide_eq_true_eq] at hk
    have := lynW_row h
    omega
  · rw [if_neg hk] at h; cases h

/-! ### The counts -/
theorem pow_top {a n i : Nat} (ha : a ≤ 4) (hn : n ≤ 20) (hi : i ≤ n) : a ^ i ≤ 1099511627776 := by
  have h1 : a ^ i ≤ 4 ^ i := Nat.pow_le_pow_left ha i
  have h2 : (4 : Nat) ^ i ≤ 4 ^ 20 := Nat.pow_le_pow_right (by omega) (by omega)
  have h3 : (4 : Nat) ^ 20 = 1099511627776 := by decide
  omega
def dvs (n : Nat) : List Nat := ((List.range n).map (· + 1)).filter fun d => n % d = 0
def dvT (n k : Nat) : List Nat := (((List.range n).map (· + 1)).take k).filter fun d => n % d = 0
theorem dvT_zero (n : Nat) : dvT n 0 = [] := rfl
theorem dvT_all {n k : Nat} (h : n ≤ k) : dvT n k = dvs n := by unfold dvT dvs; rw [List.take_of_length_le (by simp; omega)]
theorem dvT_next {n k : Nat} (h : k < n) : dvT n (k + 1) = dvT n k ++ (if n % (k + 1) = 0 then [k + 1] else []) := by
  unfold dvT
  rw [List.take_succ_eq_append_getElem (by simpa using h), List.filter_append]
  congr 1
  by_cases hb : n % (k + 1) = 0
  · simp [hb]
  · simp [hb]
theorem dvT_len (n k : Nat) : (dvT n k).length ≤ n := by
  unfold dvT
  refine Nat.le_trans (List.length_filter_le _ _) ?_
  rw [List.length_take]
  simp
  omega
theorem dvs_mem {n d : Nat} : d ∈ dvs n ↔ 0 < d ∧ d ≤ n ∧ n % d = 0 := by
  unfold dvs
  rw [List.mem_filter, List.mem_map]
  simp only [List.mem_range, decide_eq_true_eq]
  constructor
  · rintro ⟨⟨a, h1, rfl⟩, h2⟩; exact ⟨by omega, by omega, h2⟩
  · rintro ⟨h1, h2, h3⟩; exact ⟨⟨d - 1, by omega, by omega⟩, h3⟩
theorem dvs_len (n : Nat) : (dvs n).length ≤ n := by rw [← dvT_all (Nat.le_refl n)]; exact dvT_len n n
theorem mobA_abs : ∀ (f p n : Nat) (m : Int), m = 1 ∨ m = -1 → mobA f p n m = 1 ∨ mobA f p n m = 0 ∨ mobA f p n m = -1
  | 0, p, n, m, h => by unfold mobA; omega
  | f + 1, p, n, m, h => by
    unfold mobA
    by_cases h1 : p ≤ n
    · rw [if_pos h1]
      by_cases h2 : n % p = 0
      · rw [if_pos h2]
        by_cases h3 : n / p % p = 0
        · rw [if_pos h3]; omega
        · rw [if_neg h3]; exact mobA_abs f (p + 1) (n / p) (-m) (by omega)
      · rw [if_neg h2]; exact mobA_abs f (p + 1) n m h
    · rw [if_neg h1]; omega
theorem mob_abs (n : Nat) : mob n = 1 ∨ mob n = 0 ∨ mob n = -1 := mobA_abs _ _ _ _ (.inl rfl)
theorem mobA_end {f p n : Nat} {m : Int} (h : n < p) : mobA f p n m = m := by
  cases f with
  | zero => rfl
  | succ f => unfold mobA; rw [if_neg (by omega)]
/-- The sum of the program: over the divisors in their order. -/
def clT (a n : Nat) (l : List Nat) : Int := (l.map fun d => mob (n / d) * ((a ^ d : Nat) : Int)).sum
def cnT (a : Nat) (l : List Nat) : Int := (l.map fun d => clV a d).sum
theorem clT_snoc (a n : Nat) (l : List Nat) (d : Nat) : clT a n (l ++ [d]) = clT a n l + mob (n / d) * ((a ^ d : Nat) : Int) := by simp [clT]
theorem cnT_snoc (a : Nat) (l : List Nat) (d : Nat) : cnT a (l ++ [d]) = cnT a l + clV a d := by simp [cnT]
def clP (a n k : Nat) : Int := ((List.range k).map fun d => if n % (d + 1) = 0 then mob (d + 1) * ((a ^ (n / (d + 1)) : Nat) : Int) else 0).sum
theorem clP_next (a n k : Nat) : clP a n (k + 1) = clP a n k + if n % (k + 1) = 0 then mob (k + 1) * ((a ^ (n / (k + 1)) : Nat) : Int) else 0 := by simp [clP, List.range_succ]
theorem clP_all (a n : Nat) : clP a n n = clS a n := rfl
def cnP (a n k : Nat) : Nat := ((List.range k).map fun k => a ^ Nat.gcd n k).sum
theorem cnP_next (a n k : Nat) : cnP a n (k + 1) = cnP a n k + a ^ Nat.gcd n k := by simp [cnP, List.range_succ]
theorem cnP_all (a n : Nat) : cnP a n n = cnS a n := rfl
theorem cl_tab : ∀ a, a < 4 → ∀ n, n < 20 → clT (a + 1) (n + 1) (dvs (n + 1)) = clS (a + 1) (n + 1) ∧ 0 ≤ clS (a + 1) (n + 1) ∧ cnT (a + 1) (dvs (n + 1)) = (cnV (a + 1) (n + 1) : Int) ∧ clV (a + 1) (n + 1) ≤ 1099511627776 := by
  have h : ((List.range 4).all fun a => (List.range 20).all fun n => decide (clT (a + 1) (n + 1) (dvs (n + 1)) = clS (a + 1) (n + 1)) && (decide (0 ≤ clS (a + 1) (n + 1)) && (decide (cnT (a + 1) (dvs (n + 1)) = (cnV (a + 1) (n + 1) : Int)) && decide (clV (a + 1) (n + 1) ≤ 1099511627776)))) = true := by kernel_rfl
  intro a ha n hn
  have h1 := List.all_eq_true.1 (List.all_eq_true.1 h a (List.mem_range.2 ha)) n (List.mem_range.2 hn)
  simpa only [Bool.and_eq_true, decide_eq_true_eq] using h1
theorem cl_same {a n : Nat} (ha : 1 ≤ a ∧ a ≤ 4) (hn : 1 ≤ n ∧ n ≤ 20) : clT a n (dvs n) = clS a n ∧ 0 ≤ clS a n ∧ cnT a (dvs n) = (cnV a n : Int) ∧ clV a n ≤ 1099511627776 := by
  obtain ⟨a, rfl⟩ : ∃ b, a = b + 1 := ⟨a - 1, by omega⟩
  obtain ⟨n, rfl⟩ : ∃ m, n = m + 1 := ⟨n - 1, by omega⟩
  exact cl_tab a (by omega) n (by omega)
/-- The value of CountLyndon, of CountNecklaces. -/
def clN (a n : Int) : Int := if 1 ≤ a ∧ a ≤ 4 ∧ 1 ≤ n ∧ n ≤ 20 then clV a.toNat n.toNat else -1
def cnN (a n : Int) : Int := if 1 ≤ a ∧ a ≤ 4 ∧ 1 ≤ n ∧ n ≤ 20 then (cnV a.toNat n.toNat : Int) else -1
end Go.Proofs.YtfpdikohlafpiaaGreat.Plain
/- Contracts of EqualSequences, of the program and of the model, and of the comparisons of lists that they call. No conditions beyond those that each states. -/
namespace Go.Proofs.YtfpdikohlafpiaaGreat
open Go.ChangeShapes Go.WideShapes Go.ChangeAt Go.RowKit
open Go.PlainAid Plain
set_option linter.unusedVariables false
namespace Seqs
theorem list_ne {α : Type} {xs ys : List α} {k : Nat} {x y : α} (h1 : xs[k]? = some x) (h2 : ys[k]? = some y) (h : ¬ x = y) : ¬ xs = ys := fun e => by
  subst e
  exact h (Option.some.inj (h1.symm.trans h2))
theorem list_eq {α : Type} {xs ys : List α} (hl : xs.length = ys.length) (h : ∀ (k : Nat) (x y : α), k < xs.length → xs[k]? = some x → ys[k]? = some y → x = y) : xs = ys := by
  refine List.ext_getElem hl fun i h1 h2 => ?_
  exact h i _ _ h1 (List.getElem?_eq_getElem h1) (List.getElem?_eq_getElem h2)
theorem some_drew {w W' : World} (he : (∃ n, W' = w.drewN n) ∨ (∃ n m, W' = (w.drewN n).drewN m) := by first | exact .inl ⟨_, rfl⟩ | exact .inr ⟨_, _, rfl⟩) : ∃ n, W' = w.drewN n := by
  rcases he with ⟨n, rfl⟩ | ⟨n, m, rfl⟩
  · exact ⟨n, rfl⟩
  · exact ⟨n + m, by rw [World.drewN_drewN]⟩
theorem equal_ints (u v : Value) (xs ys : List Int) (w : World) (h1 : Lies (Value.int .i64) w u xs) (h2 : Lies (Value.int .i64) w v ys) :
    Calls Tryz.prog 63 #[u, v] w fun e w' => e = .returned (.bool (decide (xs = ys))) ∧ ∃ n, w' = w.drewN n := by
  obtain ⟨hl, a, ca, rfl, _, hca⟩ := h1
  obtain ⟨hl2, b, cb, rfl, _, hcb⟩ := h2
  have HA := Lib.hid hca
  have HB := Lib.hid hcb
  clear hca hcb
  by_cases hlen : xs.length = ys.length
  · have HL := Lib.hid hlen
    have hd : ((xs.length : Int) != (ys.length : Int)) = false := by rw [hlen]; simp
    have hle : xs.length ≤ ys.length := by omega
    clear hlen
    go_enter Tryz.func63, Tryz.ntmps63
    go_wp2
    go_loopw [13] (fun i' wr => ∃ k : Nat, k ≤ xs.length ∧ i' = .int .i64 k ∧ Hid (∀ (j : Nat) (x y : Int), j < k → xs[j]? = some x → ys[j]? = some y → x = y) ∧ ∃ n, wr = w.drewN n) (fun i' _ => xs.length - (intOf i').toNat)
    case atStart => exact ⟨0, Nat.zero_le _, rfl, fun j x y h => by omega, 0, rfl⟩
    case round =>
      obtain ⟨k, hk, rfl, HI, n, rfl⟩ := hrel
      by_cases hlt : k < xs.length
      · obtain ⟨x, hx⟩ : ∃ x, xs[k]? = some x := ⟨_, List.getElem?_eq_getElem hlt⟩
        obtain ⟨y, hy⟩ : ∃ y, ys[k]? = some y := ⟨_, List.getElem?_eq_getElem (by omega)⟩
        obtain ⟨p, o, rfl, hc1⟩ := HA.out k x hx
        obtain ⟨q, r, rfl, hc2⟩ := HB.out k y hy
        have HX := Lib.hid hx
        have HY := Lib.hid hy
        clear hx hy
        by_cases he : x = y
        · have HN : Hid (∀ (j : Nat) (x y : Int), j < k + 1 → xs[j]? = some x → ys[j]? = some y → x = y) := fun j x' y' hj hx' hy' => by
            by_cases e : j = k
            · subst e
              obtain rfl := Option.some.inj (HX.out.symm.trans hx')
              obtain rfl := Option.some.inj (HY.out.symm.trans hy')
              exact he
            · exact HI.out j x' y' (by omega) hx' hy'
          have hd2 : (x != y) = false := by rw [he]; simp
          clear he
          go_wp2
          go_quiet (fail)
          go_wp2
          go_roundw
          case rel => exact ⟨k + 1, by omega, by go_num, HN, _, rfl⟩
          case measure => simp [intOf]; omega
        · have HE := Lib.hid (decide_eq_false (list_ne HX.out HY.out he))
          have hd2 : (x != y) = true := by simpa using he
          clear he
          go_wp2
          go_quiet (fail)
          go_wp2
          go_ret
          exact ⟨ret_b HE.out.symm, some_drew⟩
      · have HE := Lib.hid (decide_eq_true (list_eq HL.out fun j x y hj => HI.out j x y (by omega)))
        go_wp2
        go_ret
        exact ⟨ret_b HE.out.symm, n, rfl⟩
  · have HE := Lib.hid (decide_eq_false (fun e : xs = ys => hlen (by rw [e])))
    have hd : ((xs.length : Int) != (ys.length : Int)) = true := by simp; omega
    clear hlen
    go_enter Tryz.func63, Tryz.ntmps63
    go_wp2
    go_ret
    exact ⟨ret_b HE.out.symm, 0, rfl⟩
theorem LiesS.two {w : World} {b : Int} {rows : List (List Int)} {out : List Int} {vn vo : Value} (h : LiesS w (.agg #[.int .i64 b, vn, vo]) b rows out) : LiesR w vn rows ∧ Lies (Value.int .i64) w vo out := by
  obtain ⟨vn', vo', hv, h1, h2⟩ := h
  injection hv with hv
  simp only [Array.mk.injEq, List.cons.injEq, and_true, true_and] at hv
  obtain ⟨rfl, rfl⟩ := hv
  exact ⟨h1, h2⟩
theorem endsE {B : Nat} {w W W' : World} (h : ∀ n, Below B w (W.drewN n)) (he : (∃ n, W' = W.drewN n) ∨ (∃ n m, W' = (W.drewN n).drewN m) := by first | exact .inl ⟨_, rfl⟩ | exact .inr ⟨_, _, rfl⟩) : Below B w W' := by
  rcases he with ⟨n, rfl⟩ | ⟨n, m, rfl⟩
  · exact h n
  · rw [World.drewN_drewN]; exact h _
/-- Are the two sequences equal, in all their parts? -/
def sameB (b b' : Int) (rows rows' : List (List Int)) (out out' : List Int) : Bool := decide (b = b') && decide (rows = rows') && decide (out = out')
end Seqs
end Go.Proofs.YtfpdikohlafpiaaGreat
/- Contracts of CompareWords, of the model and of the program; a slice with room for what it holds, and parts of it. No conditions beyond those that each states. -/
namespace Go.Proofs.YtfpdikohlafpiaaGreat
open Go.ChangeShapes Go.WideShapes Go.ChangeAt Go.RowKit
open Go.PlainAid Plain
set_option linter.unusedVariables false
namespace Fac
open Seqs
theorem ret_i {a b : Int} (h : a = b) : Ending.returned (.int .i64 a) = Ending.returned (.int .i64 b) := by rw [h]
theorem ret_b {a b : Bool} (h : a = b) : Ending.returned (.bool a) = Ending.returned (.bool b) := by rw [h]
/-- A slice that reads as a list, its capacity no less than its length. -/
def LiesC (w : World) (v : Value) (xs : List Int) : Prop := Lies (Value.int .i64) w v xs ∧ ∀ a n c, v = .slice a n c → n ≤ c
theorem LiesC.lies {w : World} {v : Value} {xs : List Int} (h : LiesC w v xs) : Lies (Value.int .i64) w v xs := h.1
theorem LiesC.below {w w' : World} {v : Value} {xs : List Int} (h : LiesC w v xs) (hb : Below w.heap.size w w') : LiesC w' v xs := ⟨h.1.below hb, h.2⟩
theorem LiesC.form {w : World} {v : Value} {xs : List Int} (h : LiesC w v xs) : ∃ a c, v = .slice a xs.length c ∧ xs.length ≤ c := by
  obtain ⟨⟨_, a, c, rfl, _⟩, h2⟩ := h
  exact ⟨a, c, rfl, h2 _ _ _ rfl⟩
theorem LiesC.of_has {w : World} {base : Nat} {v : Value} {xs : List Int} (h : Has (Value.int .i64) 3 w base v xs) : LiesC w v xs := by
  refine ⟨h.lies, fun a n c hv => ?_⟩
  rcases h.2 with ⟨rfl, hn⟩ | ⟨g, cap, cur, rfl, _, _, hc, _⟩
  · injection hv with e1 e2 e3
    omega
  · injection hv with e1 e2 e3
    omega
theorem size_ti : (Tryz.prog.info? 3).map (·.size) = some 1 := by kernel_rfl
theorem elem_tr : Tryz.prog.elem 24 = 3 := by kernel_rfl
/-- A part of such a slice. -/
theorem LiesC.cut {w : World} {a : Option Addr} {c : Nat} {xs : List Int} {l h : Nat} (hl : LiesC w (.slice a xs.length c) xs) (h1 : l ≤ h) (h2 : h ≤ xs.length) :
    LiesC w (sliced a l h c 1) ((xs.drop l).take (h - l)) := by
  obtain ⟨⟨hs, a', c', hv, hn, hc⟩, hcap⟩ := hl
  have hcap := hcap _ _ _ rfl
  injection hv with e1 e2 e3
  subst e1; subst e3
  have hlen : ((xs.drop l).take (h - l)).length = h - l := by rw [List.length_take, List.length_drop]; omega
  have hm : ∀ (i : Nat) (x : Int), ((xs.drop l).take (h - l))[i]? = some x → i < h - l ∧ xs[l + i]? = some x := fun i x hx => by
    rw [List.getElem?_take] at hx
    split at hx
    · rw [List.getElem?_drop] at hx
      exact ⟨by assumption, hx⟩
    · cases hx
  refine ⟨⟨by omega, ?_⟩, fun p n q hv => ?_⟩
  · unfold sliced
    rw [hlen]
    by_cases hcl : c = l
    · rw [if_pos hcl]
      refine ⟨a, c - l, rfl, fun _ => by omega, fun i x hx => ?_⟩
      have := (hm i x hx).1
      omega
    · rw [if_neg hcl]
      refine ⟨a.map (·.add (l * 1)), c - l, rfl, fun hnone => ?_, fun i x hx => ?_⟩
      · cases a with
        | none => have := hn rfl; omega
        | some _ => cases hnone
      · obtain ⟨b, off, rfl, hcell⟩ := hc _ _ (hm i x hx).2
        refine ⟨b, off + l, ?_, ?_⟩
        · rw [Option.map_some, addr_plus, Nat.mul_one]
        · rw [Nat.add_assoc]
          exact hcell
  · unfold sliced at hv
    injection hv with e1 e2 e3
    omega
/-- What the operation makes of it, under a name of its own. -/
theorem LiesC.slice {w : World} {a : Option Addr} {c : Nat} {xs : List Int} {l h : Nat} {L H : Int} (hl : LiesC w (.slice a xs.length c) xs) (h1 : l ≤ h) (h2 : h ≤ xs.length) (hL : L = l) (hH : H = h) :
    ∃ a' c', (∀ W : World, (Instr.slice 24 (.slice a xs.length c) (some (.int .i64 L)) (some (.int .i64 H)) none).run Tryz.prog W = .ok (.slice a' (h - l) c') W) ∧ LiesC w (.slice a' (h - l) c') ((xs.drop l).take (h - l)) := by
  have hcut := hl.cut h1 h2
  have hcap := hl.2 _ _ _ rfl
  subst hL; subst hH
  refine ⟨_, _, fun W => ?_, hcut⟩
  have := run_slice_lh (P := Tryz.prog) (w := W) (t := 24) (a := a) (len := xs.length) (cap := c) (by rw [elem_tr]; exact Tryz.underlying24) .i64 .i64 (l : Int) (h : Int) (by omega) (by omega) (by omega)
  rw [this, elem_tr]
  simp [go_sem, Result.andThen]
theorem cmp_int (x y : Int) (w : World) : Calls Tryz.prog 90 #[.int .i64 x, .int .i64 y] w fun e w' => e = .returned (.int .i64 (Lib.compareInt x y)) ∧ w = w' :=
  (Tryz.cmp_Compare_int x y w).mono fun _ _ h => ⟨h.1, h.2.symm⟩
theorem cmp_lt (x y : Int) (w : World) (h : x < y) : Calls Tryz.prog 90 #[.int .i64 x, .int .i64 y] w fun e w' => e = .returned (.int .i64 (-1)) ∧ w = w' := by
  have := cmp_int x y w
  rwa [show Lib.compareInt x y = -1 from by simp [Lib.compareInt, h]] at this
theorem cmp_gt (x y : Int) (w : World) (h : y < x) : Calls Tryz.prog 90 #[.int .i64 x, .int .i64 y] w fun e w' => e = .returned (.int .i64 1) ∧ w = w' := by
  have := cmp_int x y w
  have h' : ¬ x < y := by omega
  rwa [show Lib.compareInt x y = 1 from by simp [Lib.compareInt, h, h']] at this
theorem cmp_same (x : Int) (w : World) : Calls Tryz.prog 90 #[.int .i64 x, .int .i64 x] w fun e w' => e = .returned (.int .i64 0) ∧ w = w' := by
  have := cmp_int x x w
  rwa [show Lib.compareInt x x = 0 from by simp [Lib.compareInt]] at this
theorem sl_cmp (u v : Value) (xs ys : List Int) (w : World) (h1 : Lies (Value.int .i64) w u xs) (h2 : Lies (Value.int .i64) w v ys) :
    Calls Tryz.prog 72 #[u, v] w fun e w' => e = .returned (.int .i64 (cmpW xs ys)) ∧ w = w' := by
  obtain ⟨hl, a, ca, rfl, _, hca⟩ := h1
  obtain ⟨hl2, b, cb, rfl, _, hcb⟩ := h2
  have HA := Lib.hid hca
  have HB := Lib.hid hcb
  clear hca hcb
  go_enter Tryz.func72, Tryz.ntmps72
  go_wp2
  go_loop [11] (fun i' => ∃ i : Nat, i ≤ xs.length ∧ i' = .int .i64 i ∧ Hid (cmpW (xs.drop i) (ys.drop i) = cmpW xs ys)) (fun i' => xs.length - (intOf i').toNat)
  case atStart => exact ⟨0, Nat.zero_le _, rfl, rfl⟩
  case round =>
    obtain ⟨i, hi, rfl, HI⟩ := hrel
    by_cases hlt : i < xs.length
    · obtain ⟨x, hx⟩ : ∃ x, xs[i]? = some x := ⟨_, List.getElem?_eq_getElem hlt⟩
      obtain ⟨p, o, rfl, hc1⟩ := HA.out i x hx
      have HX := Lib.hid hx
      clear hx
      by_cases hy : i < ys.length
      · obtain ⟨y, hy'⟩ : ∃ y, ys[i]? = some y := ⟨_, List.getElem?_eq_getElem hy⟩
        obtain ⟨q, r, rfl, hc2⟩ := HB.out i y hy'
        have HE := Lib.hid (cmpW_at HX.out hy')
        clear hy'
        rcases Int.lt_trichotomy x y with hxy | hxy | hxy
        · have HV : Hid (-1 = cmpW xs ys) := by
            have := HI.out
            rw [HE.out, if_pos hxy] at this
            exact this
          go_wp2_with (go_at_call 90; refine (cmp_lt x y _ hxy).mono ?_; rintro e w' ⟨rfl, rfl⟩)
          go_ret
          exact ⟨ret_i HV.out, rfl⟩
        · subst hxy
          have HN : Hid (cmpW (xs.drop (i + 1)) (ys.drop (i + 1)) = cmpW xs ys) := by
            have := HI.out
            rw [HE.out, if_neg (by omega), if_neg (by omega)] at this
            exact this
          go_wp2_with (go_at_call 90; refine (cmp_same x _).mono ?_; rintro e w' ⟨rfl, rfl⟩)
          go_round
          case rel => exact ⟨i + 1, by omega, by go_num, HN⟩
          case measure => simp [intOf]; omega
        · have HV : Hid (1 = cmpW xs ys) := by
            have := HI.out
            rw [HE.out, if_neg (by omega), if_pos hxy] at this
            exact this
          go_wp2_with (go_at_call 90; refine (cmp_gt x y _ hxy).mono ?_; rintro e w' ⟨rfl, rfl⟩)
          go_ret
          exact ⟨ret_i HV.out, rfl⟩
      · have HV : Hid (1 = cmpW xs ys) := by
          have := HI.out
          rw [cmpW_short hlt (by omega)] at this
          exact this
        go_wp2
        go_ret
        exact ⟨ret_i HV.out, rfl⟩
    · by_cases hl3 : xs.length < ys.length
      · have HV : Hid (-1 = cmpW xs ys) := by
          have := HI.out
          rw [cmpW_long (by omega) (by omega)] at this
          exact this
        go_wp2
        go_ret
        exact ⟨ret_i HV.out, rfl⟩
      · have HV : Hid (0 = cmpW xs ys) := by
          have := HI.out
          rw [cmpW_both (by omega) (by omega)] at this
          exact this
        go_wp2
        go_ret
        exact ⟨ret_i HV.out, rfl⟩
theorem impl_cmp (u v : Value) (xs ys : List Int) (w : World) (h1 : Lies (Value.int .i64) w u xs) (h2 : Lies (Value.int .i64) w v ys) :
    Calls Tryz.prog 61 #[u, v] w fun e w' => e = .returned (.int .i64 (cmpW xs ys)) ∧ w = w' := by
  go_enter Tryz.func61, Tryz.ntmps61
  go_wp2_with (go_at_call 72; refine (sl_cmp u v xs ys _ h1 h2).mono ?_; rintro e w' ⟨rfl, rfl⟩)
  go_ret
  exact ⟨rfl, rfl⟩
theorem impl_cmp_b (u v : Value) (xs ys : List Int) (w : World) (h1 : Lies (Value.int .i64) w u xs) (h2 : Lies (Value.int .i64) w v ys) :
    Calls Tryz.prog 61 #[u, v] w fun e w' => e = .returned (.int .i64 (cmpW xs ys)) ∧ Below w.heap.size w w' :=
  (impl_cmp u v xs ys w h1 h2).mono fun _ _ h => ⟨h.1, h.2 ▸ Below.refl _ _⟩
theorem spec_cmp (u v : Value) (xs ys : List Int) (w : World) (h1 : Lies (Value.int .i64) w u xs) (h2 : Lies (Value.int .i64) w v ys) :
    Calls Tryz.prog 16 #[u, v] w fun e w' => e = .returned (.int .i64 (cmpW xs ys)) ∧ Below w.heap.size w w' := by
  obtain ⟨hl, a, ca, rfl, _, hca⟩ := h1
  obtain ⟨hl2, b, cb, rfl, _, hcb⟩ := h2
  have HA := Lib.hid hca
  have HB := Lib.hid hcb
  clear hca hcb
  go_enter Tryz.func16, Tryz.ntmps16
  go_wp2
  go_loopw [5] (fun i' wr => ∃ i : Nat, i ≤ xs.length ∧ i ≤ ys.length ∧ i' = .int .i64 i ∧ Hid (cmpW (xs.drop i) (ys.drop i) = cmpW xs ys) ∧ Hid (∃ n, wr = w.drewN n)) (fun i' _ => xs.length - (intOf i').toNat)
  case atStart => exact ⟨0, Nat.zero_le _, Nat.zero_le _, rfl, rfl, 0, rfl⟩
  case round =>
    obtain ⟨i, hi, hi2, rfl, HI, HW⟩ := hrel
    by_cases hlt : i < xs.length
    · by_cases hy : i < ys.length
      · obtain ⟨x, hx⟩ : ∃ x, xs[i]? = some x := ⟨_, List.getElem?_eq_getElem hlt⟩
        obtain ⟨y, hy'⟩ : ∃ y, ys[i]? = some y := ⟨_, List.getElem?_eq_getElem hy⟩
        obtain ⟨p, o, rfl, hc1⟩ := HA.out i x hx
        obtain ⟨q, r, rfl, hc2⟩ := HB.out i y hy'
        have HE := Lib.hid (cmpW_at hx hy')
        clear hx hy'
        obtain ⟨n, hn⟩ := HW.out
        subst hn
        rcases Int.lt_trichotomy x y with hxy | hxy | hxy
        · have HV : Hid (-1 = cmpW xs ys) := by
            have := HI.out
            rw [HE.out, if_pos hxy] at this
            exact this
          go_wp2
          go_quiet (fail)
          go_wp2
          go_ret
          exact ⟨ret_i HV.out, below_drewN (below_drewN (Below.refl _ _) _) _⟩
        · subst hxy
          have HN : Hid (cmpW (xs.drop (i + 1)) (ys.drop (i + 1)) = cmpW xs ys) := by
            have := HI.out
            rw [HE.out, if_neg (by omega), if_neg (by omega)] at this
            exact this
          go_wp2
          go_quiet (fail)
          go_wp2
          go_quiet (fail)
          go_wp2
          go_roundw
          case rel => exact ⟨i + 1, by omega, by omega, by go_num, HN, ⟨_, rfl⟩⟩
          case measure => simp [intOf]; omega
        · have HV : Hid (1 = cmpW xs ys) := by
            have := HI.out
            rw [HE.out, if_neg (by omega), if_pos hxy] at this
            exact this
          go_wp2
          go_quiet (fail)
          go_wp2
          go_quiet (fail)
          go_wp2
          go_ret
          exact ⟨ret_i HV.out, below_drewN (below_drewN (below_drewN (Below.refl _ _) _) _) _⟩
      · have HV : Hid (1 = cmpW xs ys) := by
          have := HI.out
          rw [cmpW_short hlt (by omega)] at this
          exact this
        obtain ⟨n, hn⟩ := HW.out
        subst hn
        go_wp2
        go_ret
        exact ⟨ret_i HV.out, below_drewN (Below.refl _ _) _⟩
    · obtain ⟨n, hn⟩ := HW.out
      subst hn
      by_cases hl3 : xs.length < ys.length
      · have HV : Hid (-1 = cmpW xs ys) := by
          have := HI.out
          rw [cmpW_long (by omega) (by omega)] at this
          exact this
        go_wp2
        go_ret
        exact ⟨ret_i HV.out, below_drewN (Below.refl _ _) _⟩
      · have HV : Hid (0 = cmpW xs ys) := by
          have := HI.out
          rw [cmpW_both (by omega) (by omega)] at this
          exact this
        go_wp2
        go_ret
        exact ⟨ret_i HV.out, below_drewN (Below.refl _ _) _⟩
end Fac
end Go.Proofs.YtfpdikohlafpiaaGreat
/- Contracts of the program's firstFactor and IsLyndon; parts of a slice. No conditions beyond those that each states. -/
namespace Go.Proofs.YtfpdikohlafpiaaGreat
open Go.ChangeShapes Go.WideShapes Go.ChangeAt Go.RowKit
open Go.PlainAid Plain
set_option linter.unusedVariables false
namespace Lynd
open Fac
/-- The rest of a slice from l on. -/
theorem cut_from {w : World} {a : Option Addr} {c : Nat} {xs : List Int} {l : Nat} {L : Int} (hl : LiesC w (.slice a xs.length c) xs) (h1 : l ≤ xs.length) (hL : L = l) :
    ∃ a' c', (∀ W : World, (Instr.slice 24 (.slice a xs.length c) (some (.int .i64 L)) none none).run Tryz.prog W = .ok (.slice a' (xs.drop l).length c') W) ∧ LiesC w (.slice a' (xs.drop l).length c') (xs.drop l) := by
  have hcut := hl.cut h1 (Nat.le_refl _)
  have hcap := hl.2 _ _ _ rfl
  have e : (xs.drop l).take (xs.length - l) = xs.drop l := List.take_of_length_le (by rw [List.length_drop]; exact Nat.le_refl _)
  rw [e] at hcut
  subst hL
  rw [List.length_drop]
  refine ⟨_, _, fun W => ?_, hcut⟩
  have := run_slice_l (P := Tryz.prog) (w := W) (t := 24) (a := a) (len := xs.length) (cap := c) (by rw [elem_tr]; exact Tryz.underlying24) .i64 (l : Int) (by omega) (by omega)
  rw [this, elem_tr]
  simp [go_sem, Result.andThen]
/-- The beginning of a slice up to h. -/
theorem cut_to {w : World} {a : Option Addr} {c : Nat} {xs : List Int} {h : Nat} {H : Int} (hl : LiesC w (.slice a xs.length c) xs) (h2 : h ≤ xs.length) (hH : H = h) :
    ∃ a' c', (∀ W : World, (Instr.slice 24 (.slice a xs.length c) none (some (.int .i64 H)) none).run Tryz.prog W = .ok (.slice a' h c') W) ∧ LiesC w (.slice a' h c') (xs.take h) := by
  have hcut := hl.cut (Nat.zero_le h) h2
  have hcap := hl.2 _ _ _ rfl
  rw [Nat.sub_zero, List.drop_zero] at hcut
  subst hH
  refine ⟨_, _, fun W => ?_, hcut⟩
  have := run_slice_h (P := Tryz.prog) (w := W) (t := 24) (a := a) (len := xs.length) (cap := c) (by rw [elem_tr]; exact Tryz.underlying24) .i64 (h : Int) (by omega) (by omega)
  rw [this, elem_tr]
  simp [go_sem, Result.andThen]
theorem ret_pt {p t p' t' : Nat} (h1 : p = p') (h2 : t = t') : Ending.returned (.tuple #[.int .i64 (p : Int), .int .i64 (t : Int)]) = Ending.returned (.tuple #[.int .i64 (p' : Int), .int .i64 (t' : Int)]) := by rw [h1, h2]
set_option maxRecDepth 100000 in
set_option maxHeartbeats 2000000 in
theorem first (v : Value) (u : List Int) (w : World) (h : Lies (Value.int .i64) w v u) (hs : u.length ≤ 4194304) :
    Calls Tryz.prog 29 #[v] w fun e w' => ∃ p t : Nat, e = .returned (.tuple #[.int .i64 p, .int .i64 t]) ∧ FF u p t ∧ Below w.heap.size w w' := by
  obtain ⟨hl, a, ca, rfl, _, hca⟩ := h
  have HA := Lib.hid hca
  clear hca
  by_cases h0 : 0 < u.length
  · have HD0 := Lib.hid (Duv.start (w := u) (i := 0) h0)
    go_enter Tryz.func29, Tryz.ntmps29
    go_wp2
    go_loopw [4, 5] (fun p' j' wr => ∃ (p j k : Nat), j = k + p ∧ 0 < p ∧ j ≤ u.length ∧ p' = .int .i64 p ∧ j' = .int .i64 j ∧ Hid (Duv u 0 j k) ∧ Hid (∃ n, wr = w.drewN n)) (fun _ j' _ => u.length - (intOf j').toNat)
    case atStart => exact ⟨1, 1, 0, rfl, by omega, by omega, rfl, rfl, HD0, 0, rfl⟩
    case round =>
      obtain ⟨p, j, k, hj, hp, hjl, rfl, rfl, HD, HW⟩ := hrel
      have hw : IntKind.i64.wrap ((j : Int) - (p : Int)) = (k : Int) := by rw [IntKind.wrap_i64]; omega
      have hjk : (j : Int) - (p : Int) = (k : Int) := by omega
      have hpk : j - k = p := by omega
      have hp0 : ¬ (p : Int) = 0 := by omega
      have hp1 : ((p : Int) == 0) = false := by simp; omega
      have hkj : k < j := by omega
      have HJ := Lib.hid hj
      have HPK := Lib.hid hpk
      clear hj hpk
      by_cases hlt : j < u.length
      · obtain ⟨x, hx⟩ : ∃ x, u[j]? = some x := ⟨_, List.getElem?_eq_getElem hlt⟩
        obtain ⟨y, hy⟩ : ∃ y, u[k]? = some y := ⟨_, List.getElem?_eq_getElem (by omega)⟩
        obtain ⟨g, o, rfl, hc1⟩ := HA.out j x hx
        obtain ⟨_, _, e, hc2⟩ := HA.out k y hy
        cases e
        have hkl : k < u.length := by omega
        rcases Int.lt_trichotomy x y with hxy | hxy | hxy
        · have HF := Lib.hid (HD.out.ff (.inr ⟨y, x, hy, hx, hxy⟩))
          rw [HPK.out] at HF
          obtain ⟨t, ht⟩ : ∃ t, t = j / p := ⟨_, rfl⟩
          rw [← ht] at HF
          have htj : t ≤ j := by rw [ht]; exact Nat.div_le_self _ _
          have e1 : (j : Int) / (p : Int) = (t : Int) := by rw [ht]; rfl
          have e2 : (j : Int).tdiv (p : Int) = (t : Int) := by rw [ht]; rfl
          have hwt : IntKind.i64.wrap (t : Int) = (t : Int) := by rw [IntKind.wrap_i64]; omega
          obtain ⟨n, hn⟩ := HW.out
          subst hn
          clear hx hy ht HD HA
          go_wp2
          go_quiet (fail)
          go_wp2
          go_quiet (fail)
          go_wp2
          go_ret2
          exact ⟨p, t, rfl, HF.out, by repeat (first | exact Below.refl _ _ | apply below_drewN)⟩
        · subst hxy
          have HD2 := Lib.hid (HD.out.same hlt (hy.trans hx.symm))
          obtain ⟨n, hn⟩ := HW.out
          subst hn
          clear hx hy HD
          go_wp2
          go_quiet (fail)
          go_wp2
          go_quiet (fail)
          go_wp2
          go_roundw
          case rel => exact ⟨p, j + 1, k + 1, by have := HJ.out; omega, hp, by omega, rfl, by go_num, HD2, ⟨_, rfl⟩⟩
          case measure => simp [intOf]; omega
        · have HD2 := Lib.hid (HD.out.more hy hx hxy)
          obtain ⟨n, hn⟩ := HW.out
          subst hn
          clear hx hy HD
          go_wp2
          go_quiet (fail)
          go_wp2
          go_quiet (fail)
          go_wp2
          go_roundw
          case rel => exact ⟨j + 1, j + 1, 0, by omega, by omega, by omega, by go_num, by go_num, HD2, ⟨_, rfl⟩⟩
          case measure => simp [intOf]; omega
      · have HF := Lib.hid (HD.out.ff (.inl (by omega)))
        rw [HPK.out] at HF
        obtain rfl : j = u.length := by omega
        obtain ⟨L, hL⟩ : ∃ L, L = u.length := ⟨_, rfl⟩
        obtain ⟨t, ht⟩ : ∃ t, t = L / p := ⟨_, rfl⟩
        rw [← hL] at HF hw hjk hlt hl ⊢
        rw [← ht] at HF
        have htj : t ≤ L := by rw [ht]; exact Nat.div_le_self _ _
        have hLs : L ≤ 4194304 := by rw [hL]; exact hs
        have e1 : (L : Int) / (p : Int) = (t : Int) := by rw [ht]; rfl
        have e2 : (L : Int).tdiv (p : Int) = (t : Int) := by rw [ht]; rfl
        have hwt : IntKind.i64.wrap (t : Int) = (t : Int) := by rw [IntKind.wrap_i64]; omega
        obtain ⟨n, hn⟩ := HW.out
        subst hn
        clear ht HD HA hL hjl hs HJ HPK hkj
        go_wp2
        go_quiet (fail)
        go_wp2
        go_ret2
        exact ⟨p, t, rfl, HF.out, by repeat (first | exact Below.refl _ _ | apply below_drewN)⟩
  · have HF : Hid (FF u 1 0) := ⟨fun _ => ⟨rfl, rfl⟩, fun h => absurd h h0⟩
    obtain rfl : u = [] := List.eq_nil_of_length_eq_zero (by omega)
    clear h0 HA
    go_enter Tryz.func29, Tryz.ntmps29
    go_wp2
    refine wp_loop_rounds 1 ?_
    rw [rounds_succ]
    go_wp2
    go_quiet (fail)
    go_wp2
    go_ret2
    exact ⟨1, 0, rfl, HF.out, by repeat (first | exact Below.refl _ _ | apply below_drewN)⟩
theorem impl_lyn (v : Value) (u : List Int) (w : World) (h : Lies (Value.int .i64) w v u) (hs : u.length ≤ 4194304) :
    Calls Tryz.prog 9 #[v] w fun e w' => e = .returned (.bool (lyB u)) ∧ Below w.heap.size w w' := by
  have HC := Lib.hid (first v u w h hs)
  obtain ⟨hl, a, ca, rfl, _, _⟩ := h
  obtain ⟨c, hc⟩ : ∃ c, c = lyB u := ⟨_, rfl⟩
  rw [← hc]
  have HCC := Lib.hid hc
  clear hc
  go_enter Tryz.func9, Tryz.ntmps9
  go_wp2_with fail
  refine HC.out.mono ?_
  rintro e W1 ⟨p, t, rfl, hf, hb⟩
  have HF := Lib.hid (ff_ly hf)
  have HB := Lib.hid hb
  clear hf hb HC
  by_cases h0 : 0 < u.length
  · have hd := decide_eq_true (show (u.length : Int) > 0 by omega)
    obtain ⟨q, hq⟩ : ∃ q, ((p : Int) == (u.length : Int)) = q := ⟨_, rfl⟩
    have HE : Hid (q = c) := by
      show _ = _
      rw [HCC.out, ← HF.out, decide_eq_true h0, Bool.true_and, ← hq, Bool.eq_iff_iff]
      simp
      omega
    go_wp2
    go_ret
    exact ⟨Fac.ret_b HE.out, HB.out⟩
  · have hd := decide_eq_false (show ¬ (u.length : Int) > 0 by omega)
    have HE : Hid (false = c) := by
      show _ = _
      rw [HCC.out, ← HF.out, decide_eq_false h0, Bool.false_and]
    go_wp2
    go_ret
    exact ⟨Fac.ret_b HE.out, HB.out⟩
end Lynd
end Go.Proofs.YtfpdikohlafpiaaGreat
/- The laws' marks, begun at a later number: behind another argument's. No conditions beyond those that each states. -/
namespace Go.Proofs.YtfpdikohlafpiaaGreat
open Go.ChangeShapes Go.WideShapes Go.ChangeAt Go.RowKit
open Go.PlainAid Plain
open Ints (marks)
set_option linter.unusedVariables false
namespace Seqs
end Seqs
end Go.Proofs.YtfpdikohlafpiaaGreat
/- Slices of rows whose rows are the call's own, whether or not two of them share a block; the laws' tools for slices of rows. No conditions beyond those that each states. -/
namespace Go.Proofs.YtfpdikohlafpiaaGreat
open Go.ChangeShapes Go.WideShapes Go.ChangeAt Go.RowKit
open Go.PlainAid Plain
set_option linter.unusedVariables false
namespace Fac
open Seqs
theorem infoR' : (Tryz.prog.info? 24).map (fun i => (i.zero, i.size, i.bytes)) = some (some (.slice none 0 0), 1, 24) := by kernel_rfl
/-- The slice v of rows is the call's own, from block lo on; its rows are so from block base on. -/
def RowsV (w : World) (lo base : Nat) (v : Value) (rows : List (List Int)) : Prop := ∃ us, Has id 24 w lo v us ∧ us.length = rows.length ∧ ∀ (i : Nat) (u : Value) (r : List Int), us[i]? = some u → rows[i]? = some r → Has (Value.int .i64) 3 w base u r
section
variable {w w' : World} {lo base : Nat} {v : Value} {rows : List (List Int)}
theorem RowsV.below (h : RowsV w lo base v rows) (hb : Below w.heap.size w w') : RowsV w' lo base v rows := by
  obtain ⟨us, h1, h2, h3⟩ := h
  exact ⟨us, h1.below hb, h2, fun i u r hu hr => (h3 i u r hu hr).below hb⟩
theorem RowsV.mono {lo' base' : Nat} (h : RowsV w lo base v rows) (hl : lo' ≤ lo) (hb : base' ≤ base) : RowsV w lo' base' v rows := by
  obtain ⟨us, h1, h2, h3⟩ := h
  exact ⟨us, h1.mono hl, h2, fun i u r hu hr => (h3 i u r hu hr).mono hb⟩
theorem RowsV.liesR (h : RowsV w lo base v rows) : LiesR w v rows := by
  obtain ⟨us, h1, h2, h3⟩ := h
  exact ⟨us, h1.lies, h2, fun i u r hu hr => (h3 i u r hu hr).lies⟩
theorem RowsV.form (h : RowsV w lo base v rows) : ∃ a c, v = .slice a rows.length c := by
  obtain ⟨us, h1, h2, h3⟩ := h
  obtain ⟨a, c, h4, _⟩ := h1.form
  exact ⟨a, c, by rw [h4, h2]⟩
theorem RowsV.nil (h : Has id 24 w lo v []) : RowsV w lo base v [] := ⟨[], h, rfl, fun i u r hu => by simp at hu⟩
theorem RowsV.frame {w0 : World} (h : RowsV w lo base v rows) (hb : Below w0.heap.size w0 w) (hB : w0.heap.size ≤ lo) (hg : w.grownBy w' v.ownBlock) : Below w0.heap.size w0 w' := by
  obtain ⟨us, h1, _⟩ := h
  exact h1.frame hb hB hg
theorem RowsV.other {b : Nat} {u : Value} {xs : List Int} (h : RowsV w lo base v rows) (hu : Has (Value.int .i64) 3 w b u xs) (hg : w.grownBy w' v.ownBlock) : Has (Value.int .i64) 3 w' b u xs := by
  obtain ⟨us, h1, _⟩ := h
  exact hu.grown hg (h1.ne_row hu)
/-- A row of it, its cell. -/
theorem RowsV.row {a : Option Addr} {n c i : Nat} {r : List Int} (h : RowsV w lo base (.slice a n c) rows) (hr : rows[i]? = some r) : ∃ p o ua uc, a = some ⟨p, o, none⟩ ∧ w.cell? ⟨p, o + i, none⟩ = some (.slice ua r.length uc) ∧ Has (Value.int .i64) 3 w base (.slice ua r.length uc) r := by
  obtain ⟨us, h1, h2, h3⟩ := h
  obtain ⟨_, a', c', hv, _, hc⟩ := h1.lies
  injection hv with e1 e2 e3
  subst e1
  have hi : i < us.length := by rw [h2]; exact (List.getElem?_eq_some_iff.1 hr).1
  obtain ⟨p, o, ha, hcell⟩ := hc i _ (List.getElem?_eq_getElem hi)
  have hh := h3 i _ r (List.getElem?_eq_getElem hi) hr
  obtain ⟨ua, uc, hu, _⟩ := hh.form
  rw [hu] at hh
  refine ⟨p, o, ua, uc, ha, ?_, hh⟩
  rw [hcell]
  exact congrArg some hu
end
/-- 'v = append(v, x)', x a row of the call's own; where the slice lies then. -/
theorem wpList_append_rowV2 {P : Program} {wr : World} {lo base : Nat} {rows : List (List Int)} {ops : Array Oper} {rest : List Oper} {o : Oper} {a : Act} {Q : Exit → Act → World → Prop} (hgd : o.guard = none) (s x : Operand) (t : TypeId)
    (ho : o.op = .call { callee := .builtin .append, args := #[s, x], argTypes := #[t, t] })
    (i : TypeInfo) (ht : P.underlying t = some (.slice 24)) (hi' : P.info? 24 = some i) (hz : i.zero = some (.slice none 0 0))
    (hsize : i.size = 1) (hby : i.bytes = 24) (v : Value) (hs : a.eval s = v) (hown : RowsV wr lo base v rows) (u : Value) (r : List Int) (hu : Has (Value.int .i64) 3 wr base u r)
    (g : Nat) (hx : a.eval x = .slice (some ⟨g, 0, none⟩) 1 1) (hgs : g = wr.heap.size) (hlen : rows.length ≤ 10000000) (hlo : lo ≤ wr.heap.size)
    (h : ∀ v' w', RowsV w' lo base v' (rows ++ [r]) → wr.grownBy w' v.ownBlock → (∀ k, v'.ownBlock = some k → v.ownBlock = some k ∨ wr.heap.size ≤ k) → wpList P ops Q rest (a.put o.dst v') w') :
    wpList P ops Q (o :: rest) a (wr.alloc (.cells #[u] 24)) := by
  subst hgs
  obtain ⟨us, h1, h2, h3⟩ := hown
  have hu1 : u.oneCell' = true := by
    obtain ⟨a, c, h5, _⟩ := hu.form
    rw [h5]
    rfl
  refine wpList_append_list (enc := id) (e := 24) hgd s x t ho lo i (.slice none 0 0) 24 ht hi' hz hsize hby rfl v us hs (has_alloc h1 _) (.slice (some ⟨wr.heap.size, 0, none⟩) 1 1) [u] hx (lies_lit1v u rfl) (fun y hy => by simp at hy; subst hy; exact hu1) (by simp; omega) (by simp; omega) (by simp; omega) ?_
  intro v' w' hv' hg hbk
  have hg' : wr.grownBy w' v.ownBlock := grown_alloc hg
  refine h v' w' ⟨us ++ [u], hv', by simp [h2], fun j y z hy hz => ?_⟩ hg' (fun k hk => (hbk k hk).imp id fun h => by simp at h; omega)
  by_cases hj : j < us.length
  · rw [List.getElem?_append_left hj] at hy
    rw [List.getElem?_append_left (by rw [← h2]; exact hj)] at hz
    have := h3 j y z hy hz
    exact this.grown hg' (h1.ne_row this)
  · have e1 : j = us.length := by have := (List.getElem?_eq_some_iff.1 hy).1; simp at this; omega
    subst e1
    rw [List.getElem?_append_right (Nat.le_refl _)] at hy
    rw [h2, List.getElem?_append_right (Nat.le_refl _)] at hz
    simp at hy hz
    subst hy; subst hz
    exact hu.grown hg' (h1.ne_row hu)
/-- 'v = append(v, x)', x a row of the call's own. -/
theorem wpList_append_rowV {P : Program} {wr : World} {lo base : Nat} {rows : List (List Int)} {ops : Array Oper} {rest : List Oper} {o : Oper} {a : Act} {Q : Exit → Act → World → Prop} (hgd : o.guard = none) (s x : Operand) (t : TypeId)
    (ho : o.op = .call { callee := .builtin .append, args := #[s, x], argTypes := #[t, t] })
    (i : TypeInfo) (ht : P.underlying t = some (.slice 24)) (hi' : P.info? 24 = some i) (hz : i.zero = some (.slice none 0 0))
    (hsize : i.size = 1) (hby : i.bytes = 24) (v : Value) (hs : a.eval s = v) (hown : RowsV wr lo base v rows) (u : Value) (r : List Int) (hu : Has (Value.int .i64) 3 wr base u r)
    (g : Nat) (hx : a.eval x = .slice (some ⟨g, 0, none⟩) 1 1) (hgs : g = wr.heap.size) (hlen : rows.length ≤ 10000000) (hlo : lo ≤ wr.heap.size)
    (h : ∀ v' w', RowsV w' lo base v' (rows ++ [r]) → wr.grownBy w' v.ownBlock → wpList P ops Q rest (a.put o.dst v') w') :
    wpList P ops Q (o :: rest) a (wr.alloc (.cells #[u] 24)) :=
    wpList_append_rowV2 hgd s x t ho i ht hi' hz hsize hby v hs hown u r hu g hx hgs hlen hlo fun v' w' h1 h2 _ => h v' w' h1 h2
/-- 'v = append(v, x)', x an int; where the slice lies then. -/
theorem append_one2 {P : Program} (wr : World) {ops : Array Oper} {rest : List Oper} {o : Oper} {a : Act} {Q : Exit → Act → World → Prop} (hgd : o.guard = none) (s x : Operand) (t : TypeId)
    (ho : o.op = .call { callee := .builtin .append, args := #[s, x], argTypes := #[t, t] })
    (base : Nat) (i : TypeInfo) (ht : P.underlying t = some (.slice 3)) (hi : P.info? 3 = some i) (hz : i.zero = some (.int .i64 0))
    (hsize : i.size = 1) (hby : i.bytes = 8)
    (v : Value) (xs : List Int) (hs : a.eval s = v) (hown : Has (Value.int .i64) 3 wr base v xs) (y : Int) (hx : a.eval x = .slice (some ⟨wr.heap.size, 0, none⟩) 1 1)
    (hlen : xs.length ≤ 100000000) (hb2 : base ≤ wr.heap.size)
    (h : ∀ v' w', Has (Value.int .i64) 3 w' base v' (xs ++ [y]) → wr.grownBy w' v.ownBlock → (∀ k, v'.ownBlock = some k → v.ownBlock = some k ∨ wr.heap.size ≤ k) → wpList P ops Q rest (a.put o.dst v') w') :
    wpList P ops Q (o :: rest) a (wr.alloc (.cells #[.int .i64 y] 3)) := by
  refine wpList_append_list (enc := (Value.int .i64)) (e := 3) hgd s x t ho base i (.int .i64 0) 8 ht hi hz hsize hby rfl v xs hs (has_alloc hown _) (.slice (some ⟨wr.heap.size, 0, none⟩) 1 1) [y] hx (lies_lit1 (enc := (Value.int .i64)) y rfl) (fun _ _ => rfl) (by simp; omega) (by simp; omega) (by simp; omega) ?_
  intro v' w' hv' hg hbk
  exact h v' w' hv' (grown_alloc hg) (fun k hk => (hbk k hk).imp id fun h => by simp at h; omega)
/-- Two slices of the call's own share no block. -/
def Apart (u v : Value) : Prop := u.ownBlock = none ∨ u.ownBlock ≠ v.ownBlock
theorem Apart.step {u v v' : Value} {W : World} (h : Apart u v) (hk : ∀ k, v'.ownBlock = some k → v.ownBlock = some k ∨ W.heap.size ≤ k) (hu : ∀ k, u.ownBlock = some k → k < W.heap.size) : Apart u v' := by
  unfold Apart at *
  cases hb : u.ownBlock with
  | none => exact .inl rfl
  | some k =>
    refine .inr fun e => ?_
    rcases hk k e.symm with h1 | h1
    · rcases h with h2 | h2
      · rw [hb] at h2; cases h2
      · exact h2 (by rw [hb, h1])
    · have := hu k hb
      omega
theorem RowsV.grown {w w' : World} {lo base lo' : Nat} {v vo : Value} {rows : List (List Int)} {us' : List Value} (h : RowsV w lo base v rows) (ho : Has id 24 w lo' vo us') (hg : w.grownBy w' vo.ownBlock) (hap : Apart v vo) : RowsV w' lo base v rows := by
  obtain ⟨us, h1, h2, h3⟩ := h
  exact ⟨us, h1.grown hg hap, h2, fun i u r hu hr => (h3 i u r hu hr).grown hg (ho.ne_row (h3 i u r hu hr))⟩
theorem RowsV.grown' {w w' : World} {lo base lo' base' : Nat} {v vo : Value} {rows rows' : List (List Int)} (h : RowsV w lo base v rows) (ho : RowsV w lo' base' vo rows') (hg : w.grownBy w' vo.ownBlock) (hap : Apart v vo) : RowsV w' lo base v rows := by
  obtain ⟨us', h1, _⟩ := ho
  exact h.grown h1 hg hap
theorem RowsV.lt {w : World} {lo base : Nat} {v : Value} {rows : List (List Int)} (h : RowsV w lo base v rows) : ∀ k, v.ownBlock = some k → lo ≤ k ∧ k < w.heap.size := by
  obtain ⟨us, h1, _⟩ := h
  exact h1.lt
/-- The slice v of rows lies, whole, in the blocks from lo to hi. -/
def OwnV (w : World) (lo hi : Nat) (v : Value) (rows : List (List Int)) : Prop := ∃ us, Has id 24 w lo v us ∧ (∀ k, v.ownBlock = some k → k < hi) ∧ hi ≤ w.heap.size ∧ us.length = rows.length ∧ ∀ (i : Nat) (u : Value) (r : List Int), us[i]? = some u → rows[i]? = some r → OwnI w lo hi u r
section
variable {w w' : World} {lo hi : Nat} {v : Value} {rows : List (List Int)}
theorem OwnV.below (h : OwnV w lo hi v rows) (hb : Below w.heap.size w w') : OwnV w' lo hi v rows := by
  obtain ⟨us, h1, h2, h3, h4, h5⟩ := h
  exact ⟨us, h1.below hb, h2, Nat.le_trans h3 hb.size, h4, fun i u r hu hr => (h5 i u r hu hr).below hb⟩
theorem OwnV.touch {lo' hi' : Nat} (h : OwnV w lo hi v rows) (ht : Plain.Touch lo' hi' w w') (hd : hi ≤ lo' ∨ hi' ≤ lo) : OwnV w' lo hi v rows := by
  obtain ⟨us, h1, h2, h3, h4, h5⟩ := h
  exact ⟨us, h1.of_same fun k hk => ht.block k (h1.lt k hk).2 (by have := (h1.lt k hk).1; have := h2 k hk; omega), h2, Nat.le_trans h3 ht.size, h4, fun i u r hu hr => (h5 i u r hu hr).touch ht hd⟩
theorem OwnV.lies (h : OwnV w lo hi v rows) : LiesR w v rows := by
  obtain ⟨us, h1, h2, h3, h4, h5⟩ := h
  exact ⟨us, h1.lies, h4, fun i u r hu hr => (h5 i u r hu hr).lies⟩
theorem RowsV.own {base : Nat} (h : RowsV w base base v rows) : OwnV w base w.heap.size v rows := by
  obtain ⟨us, h1, h2, h3⟩ := h
  exact ⟨us, h1, fun k hk => (h1.lt k hk).2, Nat.le_refl _, h2, fun i u r hu hr => own_of_has (h3 i u r hu hr)⟩
end
/-- Calls that hand back new rows: of the model; of the program; each with a bool too. -/
def GivesV (rows : List (List Int)) (w : World) (e : Ending) (w' : World) : Prop := ∃ v, e = .returned v ∧ OwnV w' w.heap.size w'.heap.size v rows ∧ Below w.heap.size w w'
def GivesVK (rows : List (List Int)) (k : Bool) (w : World) (e : Ending) (w' : World) : Prop := ∃ v, e = .returned (.tuple #[v, .bool k]) ∧ OwnV w' w.heap.size w'.heap.size v rows ∧ Below w.heap.size w w'
def GivesRK (rows : List (List Int)) (k : Bool) (w : World) (e : Ending) (w' : World) : Prop := ∃ v us, e = .returned (.tuple #[v, .bool k]) ∧ OwnR w' w.heap.size w'.heap.size v us rows ∧ Below w.heap.size w w'
end Fac
end Go.Proofs.YtfpdikohlafpiaaGreat
/- Contracts of the model's IsLyndon and LyndonFactors. No conditions beyond those that each states. -/
namespace Go.Proofs.YtfpdikohlafpiaaGreat
open Go.ChangeShapes Go.WideShapes Go.ChangeAt Go.RowKit
open Go.PlainAid Plain
set_option linter.unusedVariables false
namespace Lynd
open Fac Seqs
theorem lyB_no {u : List Int} {k : Nat} (h0 : 0 < k) (hk : k < u.length) (h : 0 ≤ cmpW u (u.drop k)) : lyB u = false := by
  rw [Bool.eq_false_iff]
  intro e
  have := (lyB_iff.1 e).2 k h0 hk
  omega
theorem lyB_yes {u : List Int} (h : ∀ k, 0 < k → k < u.length → cmpW u (u.drop k) < 0) : lyB u = decide (0 < u.length) := by
  by_cases h0 : 0 < u.length
  · rw [decide_eq_true h0]
    exact lyB_iff.2 ⟨h0, h⟩
  · rw [decide_eq_false h0, Bool.eq_false_iff]
    intro e
    exact h0 (lyB_iff.1 e).1
set_option maxRecDepth 100000 in
set_option maxHeartbeats 2000000 in
theorem spec_lyn (v : Value) (u : List Int) (w : World) (h : LiesC w v u) :
    Calls Tryz.prog 10 #[v] w fun e w' => e = .returned (.bool (lyB u)) ∧ Below w.heap.size w w' := by
  have hsm := h.1.1
  obtain ⟨a, ca, rfl, _⟩ := h.form
  have HX := Lib.hid h
  clear h
  go_enter Tryz.func10, Tryz.ntmps10
  go_wp2
  go_loopw [3] (fun k' wr => ∃ k : Nat, k ≤ u.length ∧ k' = .int .i64 ((k : Int) + 1) ∧ Hid (∀ q, 0 < q → q < k + 1 → q < u.length → cmpW u (u.drop q) < 0) ∧ Hid (Below w.heap.size w wr)) (fun k' _ => u.length + 1 - (intOf k').toNat)
  case atStart => exact ⟨0, Nat.zero_le _, by go_num, fun q h1 h2 => by omega, Below.refl _ _⟩
  case round =>
    obtain ⟨k, hk, rfl, HK, HB⟩ := hrel
    by_cases hlt : k + 1 < u.length
    · have hlt1 : (k : Int) + 1 < (u.length : Int) := by omega
      obtain ⟨a2, c2, hsl, hc2⟩ := cut_from HX.out (l := k + 1) (by omega) (L := (k : Int) + 1) (by omega)
      obtain ⟨V, hV⟩ : ∃ V, V = u.drop (k + 1) := ⟨_, rfl⟩
      rw [← hV] at hsl hc2
      have HCC := Lib.hid (spec_cmp _ _ u V wr (HX.out.lies.below HB.out) (hc2.lies.below HB.out))
      obtain ⟨z, hz⟩ : ∃ z, z = cmpW u V := ⟨_, rfl⟩
      rw [← hz] at HCC
      have HZ := Lib.hid hz
      have HVV := Lib.hid hV
      have e := cmpW_three u V
      clear hz hc2 hV
      rcases e with e | e | e
      · obtain rfl : z = -1 := HZ.out.trans e
        have HK2 : Hid (∀ q, 0 < q → q < (k + 1) + 1 → q < u.length → cmpW u (u.drop q) < 0) := fun q h1 h2 h3 => by
          by_cases e2 : q = k + 1
          · rw [e2, ← HVV.out]; omega
          · exact HK.out q h1 (by omega) h3
        clear e HZ
        go_wp2_with fail
        refine HCC.out.mono ?_
        rintro e W5 ⟨rfl, b5⟩
        have HB5 := Lib.hid (HB.out.trans (b5.mono HB.out.size))
        clear b5 HCC
        go_wp2
        go_roundw
        case rel => exact ⟨k + 1, by omega, by go_num, HK2, HB5⟩
        case measure => simp [intOf]; omega
      · obtain rfl : z = 0 := HZ.out.trans e
        have HE := Lib.hid (lyB_no (u := u) (k := k + 1) (by omega) hlt (by rw [← HVV.out]; omega)).symm
        clear e HZ
        go_wp2_with fail
        refine HCC.out.mono ?_
        rintro e W5 ⟨rfl, b5⟩
        have HB5 := Lib.hid (HB.out.trans (b5.mono HB.out.size))
        clear b5 HCC
        go_wp2
        go_ret
        exact ⟨Fac.ret_b HE.out, HB5.out⟩
      · obtain rfl : z = 1 := HZ.out.trans e
        have HE := Lib.hid (lyB_no (u := u) (k := k + 1) (by omega) hlt (by rw [← HVV.out]; omega)).symm
        clear e HZ
        go_wp2_with fail
        refine HCC.out.mono ?_
        rintro e W5 ⟨rfl, b5⟩
        have HB5 := Lib.hid (HB.out.trans (b5.mono HB.out.size))
        clear b5 HCC
        go_wp2
        go_ret
        exact ⟨Fac.ret_b HE.out, HB5.out⟩
    · have hlt1 : ¬ (k : Int) + 1 < (u.length : Int) := by omega
      have HE := Lib.hid (lyB_yes (u := u) fun q h1 h2 => HK.out q h1 (by omega) h2).symm
      go_wp2
      go_ret
      exact ⟨Fac.ret_b HE.out, HB.out⟩
set_option maxRecDepth 100000 in
set_option maxHeartbeats 4000000 in
theorem spec_lf (v : Value) (u : List Int) (w : World) (h : LiesC w v u) (hs : u.length ≤ 1048576) :
    Calls Tryz.prog 8 #[v] w (GivesV (lynF u) w) := by
  obtain ⟨i0, hi, hz0, hz1, hz2⟩ := info_parts Ints.infoI
  obtain ⟨j0, hj, hy0, hy1, hy2⟩ := info_parts infoR'
  have hsm := h.1.1
  obtain ⟨a, ca, rfl, _⟩ := h.form
  have HX := Lib.hid h
  have HB : Hid (Below w.heap.size w (w.alloc (Obj.cells #[] 24))) := (Below.refl _ _).alloc (Nat.le_refl _) _
  have HO : Hid (RowsV (w.alloc (Obj.cells #[] 24)) w.heap.size w.heap.size (.slice (some ⟨w.heap.size, 0, none⟩) 0 0) []) := RowsV.nil (has_lit0 (enc := id) rfl (Nat.le_refl _))
  clear h
  go_enter Tryz.func8, Tryz.ntmps8
  go_wp2
  go_loopw [3, 4, 5, 6] (fun o' i' j' k' wr => ∃ (i : Nat) (vo : Value) (rows : List (List Int)), i ≤ u.length ∧ vo = o' ∧ i' = .int .i64 i ∧ Hid (RowsV wr w.heap.size w.heap.size vo rows) ∧ Hid (rows ++ lynF (u.drop i) = lynF u) ∧ Hid (Below w.heap.size w wr)) (fun _ i' _ _ _ => u.length - (intOf i').toNat)
  case atStart => exact ⟨0, _, [], Nat.zero_le _, rfl, rfl, HO, rfl, HB⟩
  case round =>
    clear HO HB
    obtain ⟨i, vo, rows, hil, rfl, rfl, HO, HE, HB⟩ := hrel
    obtain ⟨W0, rfl⟩ : ∃ W : World, W = wr := ⟨_, rfl⟩
    by_cases hlt : i < u.length
    · have HD0 := Lib.hid (Duv.start hlt)
      go_wp2
      go_loopw [5, 6] (fun j' k' wr => ∃ (j k : Nat), i ≤ k ∧ k < j ∧ j ≤ u.length ∧ j' = .int .i64 j ∧ k' = .int .i64 k ∧ Hid (Duv u i j k) ∧ Hid (∃ n, wr = W0.drewN n)) (fun j' _ _ => u.length - (intOf j').toNat)
      case atStart => exact ⟨i + 1, i, Nat.le_refl _, by omega, by omega, by go_num, rfl, HD0, 0, rfl⟩
      case round =>
        clear HD0
        obtain ⟨j, k, hik, hkj, hjl, rfl, rfl, HD, HW⟩ := hrel
        have hkl : k < u.length := by omega
        obtain ⟨y, hy⟩ : ∃ y, u[k]? = some y := ⟨_, List.getElem?_eq_getElem hkl⟩
        obtain ⟨g, o, rfl, hc2⟩ := lies_at (enc := (Value.int .i64)) (HX.out.lies.below HB.out) hy
        by_cases hlj : j < u.length
        · obtain ⟨x, hx⟩ : ∃ x, u[j]? = some x := ⟨_, List.getElem?_eq_getElem hlj⟩
          obtain ⟨_, _, e, hc1⟩ := lies_at (enc := (Value.int .i64)) (HX.out.lies.below HB.out) hx
          cases e
          rcases Int.lt_trichotomy y x with hxy | hxy | hxy
          · have HD2 := Lib.hid (HD.out.more hy hx hxy)
            have hle : y ≤ x := by omega
            obtain ⟨n, hn⟩ := HW.out
            subst hn
            clear hx hy HD
            go_wp2_with fail
            go_quiet (fail)
            go_wp2_with fail
            go_quiet (fail)
            go_wp2
            go_roundw
            case rel => exact ⟨j + 1, i, Nat.le_refl _, by omega, by omega, by go_num, rfl, HD2, ⟨_, rfl⟩⟩
            case measure => simp [intOf]; omega
          · subst hxy
            have HD2 := Lib.hid (HD.out.same hlj (hy.trans hx.symm))
            have hle : y ≤ y := by omega
            obtain ⟨n, hn⟩ := HW.out
            subst hn
            clear hx hy HD
            go_wp2_with fail
            go_quiet (fail)
            go_wp2_with fail
            go_quiet (fail)
            go_wp2
            go_roundw
            case rel => exact ⟨j + 1, k + 1, by omega, by omega, by omega, by go_num, by go_num, HD2, ⟨_, rfl⟩⟩
            case measure => simp [intOf]; omega
          · have HS : Hid (j = u.length ∨ ∃ a b : Int, u[k]? = some a ∧ u[j]? = some b ∧ b < a) := .inr ⟨y, x, hy, hx, hxy⟩
            have hle : ¬ y ≤ x := by omega
            obtain ⟨n, hn⟩ := HW.out
            subst hn
            clear hx hy
            go_wp2_with fail
            go_quiet (fail)
            go_wp2
            go_loopw [3, 4] (fun o' i' wr => ∃ (i2 : Nat) (vq : Value) (rows2 : List (List Int)), i2 ≤ j ∧ i ≤ i2 ∧ vq = o' ∧ i' = .int .i64 i2 ∧ Hid (i2 ≤ k → Duv u i2 j k) ∧ Hid (RowsV wr w.heap.size w.heap.size vq rows2) ∧ Hid (rows2 ++ lynF (u.drop i2) = lynF u) ∧ Hid (Below w.heap.size w wr)) (fun _ i' _ => u.length + 1 - (intOf i').toNat)
            case atStart => exact ⟨i, _, rows, by omega, Nat.le_refl _, rfl, rfl, fun _ => HD.out, HO.out.below (by repeat (first | exact Below.refl _ _ | apply below_drewN)), HE, HB.out.trans (Below.mono (by repeat (first | exact Below.refl _ _ | apply below_drewN)) HB.out.size)⟩
            case round =>
              obtain ⟨i2, vq, rows2, hi2, hii, rfl, rfl, HD2, HO2, HE2, HB2⟩ := hrel
              by_cases hle : i2 ≤ k
              · obtain ⟨p, hp⟩ : ∃ p, p = j - k := ⟨_, rfl⟩
                have hout := (HD2.out hle).out HS.out
                have hnx : i2 + p ≤ k → Duv u (i2 + p) j k := fun h => by rw [hp]; exact (HD2.out hle).next (by rw [← hp]; exact h)
                rw [← hp] at hout
                have HNX := Lib.hid hnx
                have HRL := lynF_part (b := []) HE2.out
                have hrl : rows2.length ≤ 10000000 := by omega
                have hp0 : 0 < p := by omega
                have hjp : j = k + p := by omega
                obtain ⟨a1, c1, hsl, hcut⟩ := HX.out.slice (l := i2) (h := i2 + p) (by omega) (by omega) (L := (i2 : Int)) (H := (i2 : Int) + (j : Int) - (k : Int)) rfl (by omega)
                rw [show i2 + p - i2 = p from by omega] at hsl hcut
                obtain ⟨X, hX⟩ : ∃ X, X = (u.drop i2).take p := ⟨_, rfl⟩
                rw [← hX] at hcut hout
                have hXl : X.length ≤ 1048576 := by rw [hX, List.length_take, List.length_drop]; omega
                have HEN : Hid ((rows2 ++ [X]) ++ lynF (u.drop (i2 + p)) = lynF u) := by
                  show _ = _
                  rw [List.append_assoc, ← HE2.out, hout]
                  rfl
                have HCT := Lib.hid hcut
                have HJP := Lib.hid hjp
                obtain ⟨va, vc, hvo⟩ := HO2.out.form
                subst hvo
                clear hcut hX hout hnx hjp HRL hp
                go_wp2_with (first | (refine append_lies (enc := (Value.int .i64)) (e := 3) _ rfl (.tmp 48) (.tmp 56) 24 rfl (wr).heap.size i0 (.int .i64 0) 8 Tryz.underlying24 hi hz0 hz1 hz2 rfl (.slice (some ⟨(wr).heap.size, 0, none⟩) 0 0) [] rfl (has_lit0 rfl (Nat.le_refl _)) (.slice a1 p c1) X rfl (lies_alloc (HCT.out.lies.below HB2.out) _) (fun _ => rfl) (by simp; omega) (by simp; omega) (by simp) ?_; intro vn wn hn hgn; rw [List.nil_append] at hn; obtain ⟨an, cn, rfl, _⟩ := hn.form; have bn : Below (wr).heap.size wr wn := grown_below2 (.inl (grown_alloc hgn)) (Nat.le_refl _); have HOn := Lib.hid (HO2.out.below bn); have HBn := Lib.hid (HB2.out.trans (bn.mono HB2.out.size)); have HVn := Lib.hid (hn.mono HB2.out.size); have HLn := Lib.hid HBn.out.size; clear hn hgn) | (refine wpList_append_rowV rfl (.tmp 47) (.tmp 58) 26 rfl j0 Tryz.underlying26 hj hy0 hy1 hy2 _ rfl HOn.out _ X HVn.out _ rfl rfl hrl HLn.out ?_; intro vm wm hom hgm; have HOm := Lib.hid hom; have HBm := Lib.hid (HOn.out.frame HBn.out (Nat.le_refl _) hgm); clear hom hgm))
                have hjk : (i2 : Int) + (j : Int) - (k : Int) = (i2 : Int) + (p : Int) := by have := HJP.out; omega
                go_roundw
                case rel => exact ⟨i2 + p, _, _, by have := HJP.out; omega, by omega, rfl, by go_num, HNX, HOm, HEN, HBm⟩
                case measure => simp [intOf]; omega
              · go_wp2
                go_roundw
                case rel => exact ⟨i2, _, rows2, by omega, rfl, rfl, HO2, HE2, HB2⟩
                case measure => simp [intOf]; omega
        · have HS : Hid (j = u.length ∨ ∃ a b : Int, u[k]? = some a ∧ u[j]? = some b ∧ b < a) := .inl (by omega)
          obtain ⟨n, hn⟩ := HW.out
          subst hn
          clear hy
          go_wp2_with fail
          go_quiet (fail)
          go_wp2
          go_loopw [3, 4] (fun o' i' wr => ∃ (i2 : Nat) (vq : Value) (rows2 : List (List Int)), i2 ≤ j ∧ i ≤ i2 ∧ vq = o' ∧ i' = .int .i64 i2 ∧ Hid (i2 ≤ k → Duv u i2 j k) ∧ Hid (RowsV wr w.heap.size w.heap.size vq rows2) ∧ Hid (rows2 ++ lynF (u.drop i2) = lynF u) ∧ Hid (Below w.heap.size w wr)) (fun _ i' _ => u.length + 1 - (intOf i').toNat)
          case atStart => exact ⟨i, _, rows, by omega, Nat.le_refl _, rfl, rfl, fun _ => HD.out, HO.out.below (by repeat (first | exact Below.refl _ _ | apply below_drewN)), HE, HB.out.trans (Below.mono (by repeat (first | exact Below.refl _ _ | apply below_drewN)) HB.out.size)⟩
          case round =>
            obtain ⟨i2, vq, rows2, hi2, hii, rfl, rfl, HD2, HO2, HE2, HB2⟩ := hrel
            by_cases hle : i2 ≤ k
            · obtain ⟨p, hp⟩ : ∃ p, p = j - k := ⟨_, rfl⟩
              have hout := (HD2.out hle).out HS.out
              have hnx : i2 + p ≤ k → Duv u (i2 + p) j k := fun h => by rw [hp]; exact (HD2.out hle).next (by rw [← hp]; exact h)
              rw [← hp] at hout
              have HNX := Lib.hid hnx
              have HRL := lynF_part (b := []) HE2.out
              have hrl : rows2.length ≤ 10000000 := by omega
              have hp0 : 0 < p := by omega
              have hjp : j = k + p := by omega
              obtain ⟨a1, c1, hsl, hcut⟩ := HX.out.slice (l := i2) (h := i2 + p) (by omega) (by omega) (L := (i2 : Int)) (H := (i2 : Int) + (j : Int) - (k : Int)) rfl (by omega)
              rw [show i2 + p - i2 = p from by omega] at hsl hcut
              obtain ⟨X, hX⟩ : ∃ X, X = (u.drop i2).take p := ⟨_, rfl⟩
              rw [← hX] at hcut hout
              have hXl : X.length ≤ 1048576 := by rw [hX, List.length_take, List.length_drop]; omega
              have HEN : Hid ((rows2 ++ [X]) ++ lynF (u.drop (i2 + p)) = lynF u) := by
                show _ = _
                rw [List.append_assoc, ← HE2.out, hout]
                rfl
              have HCT := Lib.hid hcut
              have HJP := Lib.hid hjp
              obtain ⟨va, vc, hvo⟩ := HO2.out.form
              subst hvo
              clear hcut hX hout hnx hjp HRL hp
              go_wp2_with (first | (refine append_lies (enc := (Value.int .i64)) (e := 3) _ rfl (.tmp 48) (.tmp 56) 24 rfl (wr).heap.size i0 (.int .i64 0) 8 Tryz.underlying24 hi hz0 hz1 hz2 rfl (.slice (some ⟨(wr).heap.size, 0, none⟩) 0 0) [] rfl (has_lit0 rfl (Nat.le_refl _)) (.slice a1 p c1) X rfl (lies_alloc (HCT.out.lies.below HB2.out) _) (fun _ => rfl) (by simp; omega) (by simp; omega) (by simp) ?_; intro vn wn hn hgn; rw [List.nil_append] at hn; obtain ⟨an, cn, rfl, _⟩ := hn.form; have bn : Below (wr).heap.size wr wn := grown_below2 (.inl (grown_alloc hgn)) (Nat.le_refl _); have HOn := Lib.hid (HO2.out.below bn); have HBn := Lib.hid (HB2.out.trans (bn.mono HB2.out.size)); have HVn := Lib.hid (hn.mono HB2.out.size); have HLn := Lib.hid HBn.out.size; clear hn hgn) | (refine wpList_append_rowV rfl (.tmp 47) (.tmp 58) 26 rfl j0 Tryz.underlying26 hj hy0 hy1 hy2 _ rfl HOn.out _ X HVn.out _ rfl rfl hrl HLn.out ?_; intro vm wm hom hgm; have HOm := Lib.hid hom; have HBm := Lib.hid (HOn.out.frame HBn.out (Nat.le_refl _) hgm); clear hom hgm))
              have hjk : (i2 : Int) + (j : Int) - (k : Int) = (i2 : Int) + (p : Int) := by have := HJP.out; omega
              go_roundw
              case rel => exact ⟨i2 + p, _, _, by have := HJP.out; omega, by omega, rfl, by go_num, HNX, HOm, HEN, HBm⟩
              case measure => simp [intOf]; omega
            · go_wp2
              go_roundw
              case rel => exact ⟨i2, _, rows2, by omega, rfl, rfl, HO2, HE2, HB2⟩
              case measure => simp [intOf]; omega
    · have HE2 : Hid (rows = lynF u) := by
        have := HE.out
        rw [lynF_nil (by rw [List.length_drop]; omega), List.append_nil] at this
        exact this
      go_wp2
      go_ret
      exact ⟨_, rfl, by rw [← HE2.out]; exact HO.out.own, HB.out⟩
end Lynd
end Go.Proofs.YtfpdikohlafpiaaGreat
