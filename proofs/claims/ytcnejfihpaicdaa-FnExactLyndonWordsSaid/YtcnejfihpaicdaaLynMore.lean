/- Plain facts on Lyndon words for the two programs: the first factor and how often it comes; the turns of a word as parts of its double; the last factor is the longest end that is a Lyndon word; the words of a number, letter by letter; the sums of the counts. No conditions beyond those that each fact states. -/
import Derived.Test.YtcnejfihpaicdaaConjVal
import Derived.Test.YtcnejfihpaicdaaLynCnt
import Derived.Test.YtcnejfihpaicdaaFacVal2
set_option linter.unusedVariables false
namespace Go.Proofs.Ytcnejfihpaicdaa.Plain

/-! ### The first factor -/
/-- The first factor has p letters and comes t times in a row. -/
def FF (v : List Int) (p t : Nat) : Prop := (v.length = 0 → p = 1 ∧ t = 0) ∧ (0 < v.length → p = lyL v ∧ 0 < p ∧ 0 < t ∧ t * p ≤ v.length ∧ ∀ s, s < t → lynF (v.drop (s * p)) = (v.drop (s * p)).take p :: lynF (v.drop ((s + 1) * p)))
theorem Duv.all {w : List Int} {j k : Nat} (h : Duv w 0 j k) : ∀ s, (s + 1) * (j - k) ≤ j → Duv w (s * (j - k)) j k
  | 0, _ => by rw [Nat.zero_mul]; exact h
  | s + 1, hs => by
    have e : (s + 1 + 1) * (j - k) = s * (j - k) + (j - k) + (j - k) := by rw [Nat.succ_mul, Nat.succ_mul]
    have e2 : (s + 1) * (j - k) = s * (j - k) + (j - k) := Nat.succ_mul _ _
    have h1 := h.kj
    rw [e] at hs
    have := (h.all s (by rw [e2]; omega)).next (by omega)
    rw [e2]
    exact this
theorem Duv.ff {w : List Int} {j k : Nat} (h : Duv w 0 j k) (hs : j = w.length ∨ ∃ a b : Int, w[k]? = some a ∧ w[j]? = some b ∧ b < a) : FF w (j - k) (j / (j - k)) := by
  have h1 := h.kj; have h2 := h.jn
  refine ⟨fun e => by omega, fun h0 => ?_⟩
  have he := h.emit hs
  rw [List.drop_zero] at he
  have hm : j / (j - k) * (j - k) ≤ j := Nat.div_mul_le_self _ _
  refine ⟨he.symm, by omega, Nat.div_pos (by omega) (by omega), by omega, fun s hst => ?_⟩
  have hle : (s + 1) * (j - k) ≤ j := Nat.le_trans (Nat.mul_le_mul_right _ hst) hm
  have := (h.all s hle).out hs
  rw [this, Nat.succ_mul]
theorem Duv.same' {w : List Int} {j p : Nat} (h : Duv w 0 j (j - p)) (hp : p ≤ j) (hj : j < w.length) (he : w[j - p]? = w[j]?) : Duv w 0 (j + 1) (j + 1 - p) := by
  have := h.same hj he
  rwa [show j - p + 1 = j + 1 - p from by omega] at this
theorem ff_ly {w : List Int} {p t : Nat} (h : FF w p t) : (decide (0 < w.length) && decide (p = w.length)) = lyB w := by
  by_cases h0 : 0 < w.length
  · obtain ⟨h1, _⟩ := h.2 h0
    rw [decide_eq_true h0, Bool.true_and, h1, Bool.eq_iff_iff, decide_eq_true_eq, lyB_iff]
    exact (lyn_lyL h0).symm
  · rw [decide_eq_false h0, Bool.false_and]
    symm
    rw [Bool.eq_false_iff]
    intro e
    exact h0 (lyB_iff.1 e).1

theorem lynF_len (w : List Int) : (lynF w).length ≤ w.length := by
  refine lynF_ind (P := fun w => (lynF w).length ≤ w.length) (fun w h => by rw [lynF_nil h]; simp) (fun w h ih => ?_) w
  have h1 := (lyL_spec h).1
  rw [lynF_cons h, List.length_cons]
  rw [List.length_drop] at ih
  omega
theorem tot_lynF (w : List Int) : tot (lynF w) = w.length := by
  have := congrArg List.length (lynF_join w)
  rw [List.length_flatten] at this
  exact this
theorem lynF_part {w a b : List Int} {rows : List (List Int)} (h : rows ++ lynF a = lynF w) : rows.length ≤ w.length := by
  have := congrArg List.length h
  rw [List.length_append] at this
  have := lynF_len w
  omega

/-! ### The turns of a word -/
theorem rots_len (u : List Int) : (rots u).length = u.length := by simp [rots]
theorem rots_take {u : List Int} {k : Nat} (h : k < u.length) : (rots u).take (k + 1) = (rots u).take k ++ [u.drop k ++ u.take k] := by
  rw [List.take_succ_eq_append_getElem (by rw [rots_len]; exact h)]
  congr 2
  simp [rots]
theorem rots_all {u : List Int} {k : Nat} (h : u.length ≤ k) : (rots u).take k = rots u := List.take_of_length_le (by rw [rots_len]; exact h)
theorem double_part {u : List Int} {i : Nat} (h : i ≤ u.length) : ((u ++ u).drop i).take u.length = u.drop i ++ u.take i := by
  rw [List.drop_append_of_le_length h, List.take_append, List.take_of_length_le (by rw [List.length_drop]; omega), List.length_drop]
  congr 2
  omega
theorem conj_wins {u : List Int} (h : 0 < u.length) : sdl (wins (u ++ u) u.length) = sdl (rots u) := by
  refine sdl_eq (sdl_sd _) fun x => (sdl_mem _ x).trans ?_
  unfold rots wins
  rw [List.mem_map, List.mem_map]
  constructor
  · rintro ⟨k, hk, rfl⟩
    have hk := List.mem_range.1 hk
    exact ⟨k, List.mem_range.2 (by rw [List.length_append]; omega), double_part (by omega)⟩
  · rintro ⟨k, hk, rfl⟩
    have hk := List.mem_range.1 hk
    rw [List.length_append] at hk
    by_cases e : k = u.length
    · subst e
      exact ⟨0, List.mem_range.2 h, by rw [double_part (Nat.le_refl _), List.drop_length, List.take_length]; simp⟩
    · exact ⟨k, List.mem_range.2 (by omega), (double_part (by omega)).symm⟩
theorem conjV_eq {u : List Int} (h0 : 0 < u.length) (h : u.length ≤ 64) : conjV u = sdl (wins (u ++ u) u.length) := by
  rw [conj_wins h0]
  unfold conjV
  rw [if_pos h]
theorem conjV_big {u : List Int} (h : 64 < u.length) : conjV u = [] := by
  unfold conjV
  rw [if_neg (by omega)]
theorem conjV_len (u : List Int) : (conjV u).length ≤ 64 := by
  unfold conjV
  by_cases h : u.length ≤ 64
  · rw [if_pos h]
    have := sdl_len (rots u)
    rw [rots_len] at this
    omega
  · rw [if_neg h]; simp
theorem conjV_row {u x : List Int} (h : x ∈ conjV u) : x.length = u.length ∧ u.length ≤ 64 := by
  unfold conjV at h
  by_cases hl : u.length ≤ 64
  · rw [if_pos hl, sdl_mem, rots_mem] at h
    obtain ⟨d, _, rfl⟩ := h
    exact ⟨pw_len _ _ _, hl⟩
  · rw [if_neg hl] at h; cases h
theorem conjV_none {u : List Int} (h : conjV u = []) : lcV u = u := by unfold lcV; rw [h]

/-! ### The last factor -/
theorem getLast?_cons2 {α : Type} (x y : α) (l : List α) : (x :: y :: l).getLast? = (y :: l).getLast? := by simp [List.getLast?_cons]
theorem lynF_last (v : List Int) (h0 : 0 < v.length) : ∃ x, (lynF v).getLast? = some x ∧ x.length ≤ v.length ∧ v.drop (v.length - x.length) = x ∧ Lyn x ∧ ∀ q, q < v.length - x.length → ¬ Lyn (v.drop q) := by
  revert h0
  refine lynF_ind (P := fun v => 0 < v.length → ∃ x, (lynF v).getLast? = some x ∧ x.length ≤ v.length ∧ v.drop (v.length - x.length) = x ∧ Lyn x ∧ ∀ q, q < v.length - x.length → ¬ Lyn (v.drop q)) (fun v h h0 => by omega) (fun v h ih _ => ?_) v
  obtain ⟨p1, p2, p3, p4⟩ := lyL_spec h
  have hc := lynF_cons h
  obtain ⟨p, hp⟩ : ∃ p, p = lyL v := ⟨_, rfl⟩
  rw [← hp] at ih hc p1 p2 p3
  by_cases hr : (v.drop p).length = 0
  · rw [lynF_nil hr] at hc
    have : p = v.length := by rw [List.length_drop] at hr; omega
    rw [this, List.take_length] at hc p3
    exact ⟨v, by rw [hc]; rfl, Nat.le_refl _, by rw [Nat.sub_self, List.drop_zero], p3, fun q hq => by omega⟩
  · obtain ⟨x, h1, h2, h3, h4, h5⟩ := ih (by omega)
    have hx0 := h4.1
    rw [List.length_drop] at h2 h3 h5
    rw [List.drop_drop, show p + (v.length - p - x.length) = v.length - x.length from by omega] at h3
    obtain ⟨y, l, hyl⟩ : ∃ y l, lynF (v.drop p) = y :: l := by
      rw [lynF_cons (by omega)]
      exact ⟨_, _, rfl⟩
    have hlast : (lynF v).getLast? = some x := by rw [hc, hyl, getLast?_cons2, ← hyl, h1]
    refine ⟨x, hlast, by omega, h3, h4, fun q hq hL => ?_⟩
    by_cases hqp : p ≤ q
    · refine h5 (q - p) (by omega) ?_
      rw [List.drop_drop, show p + (q - p) = q from by omega]
      exact hL
    · have hs := hL.2 (v.length - x.length - q) (by omega) (by rw [List.length_drop]; omega)
      rw [List.drop_drop, show q + (v.length - x.length - q) = v.length - x.length from by omega, h3] at hs
      have ht : cmpW (v.take p) ((v.take p).drop q) ≤ 0 := by
        by_cases e : q = 0
        · rw [e, List.drop_zero, cmpW_self]; omega
        · have := p3.2 q (by omega) (by rw [List.length_take]; omega)
          omega
      have hsp : cmpW ((v.take p).drop q) (v.drop q) ≤ 0 := by
        have e : v.drop q = (v.take p).drop q ++ v.drop p := by
          conv => lhs; rw [← List.take_append_drop p v]
          rw [List.drop_append_of_le_length (by rw [List.length_take]; omega)]
        rw [e]
        exact pre_le _ _
      have hxf : cmpW x (v.take p) ≤ 0 := by
        rw [List.getLast?_eq_getElem?] at hlast
        exact lynF_chain v _ _ _ (by rw [hc]; rfl) hlast
      exact lt_irr (lt_le hs (le_le (le_le hxf ht) hsp))
/-- The longest proper end that is a Lyndon word begins there. -/
def spN (w : List Int) : Nat := w.length - ((lynF (w.drop 1)).getLast?.getD []).length
def spK (w : List Int) : Bool := decide (2 ≤ w.length) && lyB w
def spA (w : List Int) : List Int := if spK w = true then w.take (spN w) else []
def spB (w : List Int) : List Int := if spK w = true then w.drop (spN w) else []
theorem sp_spec {w : List Int} (h : 2 ≤ w.length) : 0 < spN w ∧ spN w < w.length ∧ (lynF (w.drop 1)).getLast? = some (w.drop (spN w)) ∧ Lyn (w.drop (spN w)) ∧ ∀ q, 0 < q → q < spN w → ¬ Lyn (w.drop q) := by
  have hl : (w.drop 1).length = w.length - 1 := by rw [List.length_drop]
  obtain ⟨x, h1, h2, h3, h4, h5⟩ := lynF_last (w.drop 1) (by omega)
  have e : spN w = w.length - x.length := by unfold spN; rw [h1]; rfl
  have hx := h4.1
  rw [hl] at h2 h3 h5
  rw [List.drop_drop, show 1 + (w.length - 1 - x.length) = w.length - x.length from by omega] at h3
  rw [e]
  refine ⟨by omega, by omega, by rw [h1, h3], by rw [h3]; exact h4, fun q hq0 hq hL => h5 (q - 1) (by omega) ?_⟩
  rw [List.drop_drop, show 1 + (q - 1) = q from by omega]
  exact hL
theorem sp_unique {w : List Int} {k : Nat} (h : 2 ≤ w.length) (h0 : 0 < k) (hk : k < w.length) (hL : Lyn (w.drop k)) (hm : ∀ q, 0 < q → q < k → ¬ Lyn (w.drop q)) : k = spN w := by
  obtain ⟨h1, h2, h3, h4, h5⟩ := sp_spec h
  rcases Nat.lt_trichotomy k (spN w) with e | e | e
  · exact absurd hL (h5 k h0 e)
  · exact e
  · exact absurd h4 (hm _ h1 e)
theorem sp_len (w : List Int) : (spA w).length ≤ w.length ∧ (spB w).length ≤ w.length := by
  unfold spA spB
  by_cases h : spK w = true
  · rw [if_pos h, if_pos h, List.length_take, List.length_drop]; omega
  · rw [if_neg h, if_neg h]; simp

/-! ### The words of a number -/
def allW (a n : Nat) : List (List Int) := (List.range (a ^ n)).map (wd a n)
theorem allW_len (a n : Nat) : (allW a n).length = a ^ n := by simp [allW]
theorem allW_at {a n c : Nat} (h : c < a ^ n) : (allW a n)[c]? = some (wd a n c) := by simp [allW, h]
theorem allW_zero (a : Nat) : allW a 0 = [[]] := by simp [allW, wd]
theorem wd_next {a n i c : Nat} (hc : c < a) : wd a (n + 1) (i * a + c) = wd a n i ++ [(c : Int)] := by
  have h0 : 0 < a := by omega
  show wd a n ((i * a + c) / a) ++ [(((i * a + c) % a : Nat) : Int)] = _
  rw [show (i * a + c) / a = i from by rw [Nat.mul_comm, Nat.mul_add_div h0, Nat.div_eq_of_lt hc, Nat.add_zero], show (i * a + c) % a = c from by rw [Nat.mul_comm, Nat.mul_add_mod, Nat.mod_eq_of_lt hc]]
theorem allW_take {a n i c : Nat} (hc : c < a) (hi : i < a ^ n) : (allW a (n + 1)).take (i * a + c + 1) = (allW a (n + 1)).take (i * a + c) ++ [wd a n i ++ [(c : Int)]] := by
  have hlt : i * a + c < a ^ (n + 1) := by
    have : (i + 1) * a ≤ a ^ n * a := Nat.mul_le_mul_right a hi
    rw [Nat.succ_mul] at this
    rw [Nat.pow_succ]
    omega
  rw [List.take_succ_eq_append_getElem (by rw [allW_len]; exact hlt)]
  congr 2
  have := allW_at hlt
  obtain ⟨h1, h2⟩ := List.getElem?_eq_some_iff.1 this
  rw [h2, wd_next hc]
theorem lynW_all (a n : Nat) : lynW a n = (allW a n).filter lyB := rfl
theorem lynW_take {a n c : Nat} (h : c < a ^ n) : ((allW a n).take (c + 1)).filter lyB = ((allW a n).take c).filter lyB ++ (if lyB (wd a n c) = true then [wd a n c] else []) := by
  rw [List.take_succ_eq_append_getElem (by rw [allW_len]; exact h), List.filter_append]
  congr 1
  have := allW_at h
  obtain ⟨h1, h2⟩ := List.getElem?_eq_some_iff.1 this
  rw [h2]
  by_cases hb : lyB (wd a n c) = true
  · simp [hb]
  · simp [hb]
def lwK (a n : Int) : Bool := decide (1 ≤ a ∧ a ≤ 4 ∧ 1 ≤ n ∧ n ≤ 8) && decide (a.toNat ^ n.toNat ≤ 300)
def lwV (a n : Int) : List (List Int) := if lwK a n = true then lynW a.toNat n.toNat else []
theorem lynW_len (a n : Nat) : (lynW a n).length ≤ a ^ n := by
  rw [lynW_all]
  have := List.length_filter_le lyB (allW a n)
  rw [allW_len] at this
  exact this
theorem lynW_row {a n : Nat} {x : List Int} (h : x ∈ lynW a n) : x.length = n := by
  unfold lynW at h
  obtain ⟨c, _, rfl⟩ := List.mem_map.1 (List.mem_filter.1 h).1
  exact wd_len a n c
theorem lwV_len (a n : Int) : (lwV a n).length ≤ 300 := by
  unfold lwV
  by_cases h : lwK a n = true
  · rw [if_pos h]
    simp only [lwK, Bool.and_eq_true, decide_eq_true_eq] at h
    exact Nat.le_trans (lynW_len _ _) h.2
  · rw [if_neg h]; simp
theorem lwV_row {a n : Int} {x : List Int} (h : x ∈ lwV a n) : x.length ≤ 8 := by
  unfold lwV at h
  by_cases hk : lwK a n = true
  · rw [if_pos hk] at h
    simp only [lwK, Bool.and_eq_true, decide_eq_true_eq] at hk
    have := lynW_row h
    omega
  · rw [if_neg hk] at h; cases h

/-! ### The counts -/
theorem pow_top {a n i : Nat} (ha : a ≤ 4) (hn : n ≤ 20) (hi : i ≤ n) : a ^ i ≤ 1099511627776 := by
  have h1 : a ^ i ≤ 4 ^ i := Nat.pow_le_pow_left ha i
  have h2 : (4 : Nat) ^ i ≤ 4 ^ 20 := Nat.pow_le_pow_right (by omega) (by omega)
  have h3 : (4 : Nat) ^ 20 = 1099511627776 := by decide
  omega
def dvs (n : Nat) : List Nat := ((List.range n).map (· + 1)).filter fun d => n % d = 0
def dvT (n k : Nat) : List Nat := (((List.range n).map (· + 1)).take k).filter fun d => n % d = 0
theorem dvT_zero (n : Nat) : dvT n 0 = [] := rfl
theorem dvT_all {n k : Nat} (h : n ≤ k) : dvT n k = dvs n := by unfold dvT dvs; rw [List.take_of_length_le (by simp; omega)]
theorem dvT_next {n k : Nat} (h : k < n) : dvT n (k + 1) = dvT n k ++ (if n % (k + 1) = 0 then [k + 1] else []) := by
  unfold dvT
  rw [List.take_succ_eq_append_getElem (by simpa using h), List.filter_append]
  congr 1
  by_cases hb : n % (k + 1) = 0
  · simp [hb]
  · simp [hb]
theorem dvT_len (n k : Nat) : (dvT n k).length ≤ n := by
  unfold dvT
  refine Nat.le_trans (List.length_filter_le _ _) ?_
  rw [List.length_take]
  simp
  omega
theorem dvs_mem {n d : Nat} : d ∈ dvs n ↔ 0 < d ∧ d ≤ n ∧ n % d = 0 := by
  unfold dvs
  rw [List.mem_filter, List.mem_map]
  simp only [List.mem_range, decide_eq_true_eq]
  constructor
  · rintro ⟨⟨a, h1, rfl⟩, h2⟩; exact ⟨by omega, by omega, h2⟩
  · rintro ⟨h1, h2, h3⟩; exact ⟨⟨d - 1, by omega, by omega⟩, h3⟩
theorem dvs_len (n : Nat) : (dvs n).length ≤ n := by rw [← dvT_all (Nat.le_refl n)]; exact dvT_len n n
theorem mobA_abs : ∀ (f p n : Nat) (m : Int), m = 1 ∨ m = -1 → mobA f p n m = 1 ∨ mobA f p n m = 0 ∨ mobA f p n m = -1
  | 0, p, n, m, h => by unfold mobA; omega
  | f + 1, p, n, m, h => by
    unfold mobA
    by_cases h1 : p ≤ n
    · rw [if_pos h1]
      by_cases h2 : n % p = 0
      · rw [if_pos h2]
        by_cases h3 : n / p % p = 0
        · rw [if_pos h3]; omega
        · rw [if_neg h3]; exact mobA_abs f (p + 1) (n / p) (-m) (by omega)
      · rw [if_neg h2]; exact mobA_abs f (p + 1) n m h
    · rw [if_neg h1]; omega
theorem mob_abs (n : Nat) : mob n = 1 ∨ mob n = 0 ∨ mob n = -1 := mobA_abs _ _ _ _ (.inl rfl)
theorem mobA_end {f p n : Nat} {m : Int} (h : n < p) : mobA f p n m = m := by
  cases f with
  | zero => rfl
  | succ f => unfold mobA; rw [if_neg (by omega)]
/-- The sum of the program: over the divisors in their order. -/
def clT (a n : Nat) (l : List Nat) : Int := (l.map fun d => mob (n / d) * ((a ^ d : Nat) : Int)).sum
def cnT (a : Nat) (l : List Nat) : Int := (l.map fun d => clV a d).sum
theorem clT_snoc (a n : Nat) (l : List Nat) (d : Nat) : clT a n (l ++ [d]) = clT a n l + mob (n / d) * ((a ^ d : Nat) : Int) := by simp [clT]
theorem cnT_snoc (a : Nat) (l : List Nat) (d : Nat) : cnT a (l ++ [d]) = cnT a l + clV a d := by simp [cnT]
def clP (a n k : Nat) : Int := ((List.range k).map fun d => if n % (d + 1) = 0 then mob (d + 1) * ((a ^ (n / (d + 1)) : Nat) : Int) else 0).sum
theorem clP_next (a n k : Nat) : clP a n (k + 1) = clP a n k + if n % (k + 1) = 0 then mob (k + 1) * ((a ^ (n / (k + 1)) : Nat) : Int) else 0 := by simp [clP, List.range_succ]
theorem clP_all (a n : Nat) : clP a n n = clS a n := rfl
def cnP (a n k : Nat) : Nat := ((List.range k).map fun k => a ^ Nat.gcd n k).sum
theorem cnP_next (a n k : Nat) : cnP a n (k + 1) = cnP a n k + a ^ Nat.gcd n k := by simp [cnP, List.range_succ]
theorem cnP_all (a n : Nat) : cnP a n n = cnS a n := rfl
theorem cl_tab : ∀ a, a < 4 → ∀ n, n < 20 → clT (a + 1) (n + 1) (dvs (n + 1)) = clS (a + 1) (n + 1) ∧ 0 ≤ clS (a + 1) (n + 1) ∧ cnT (a + 1) (dvs (n + 1)) = (cnV (a + 1) (n + 1) : Int) ∧ clV (a + 1) (n + 1) ≤ 1099511627776 := by
  have h : ((List.range 4).all fun a => (List.range 20).all fun n => decide (clT (a + 1) (n + 1) (dvs (n + 1)) = clS (a + 1) (n + 1)) && (decide (0 ≤ clS (a + 1) (n + 1)) && (decide (cnT (a + 1) (dvs (n + 1)) = (cnV (a + 1) (n + 1) : Int)) && decide (clV (a + 1) (n + 1) ≤ 1099511627776)))) = true := by kernel_rfl
  intro a ha n hn
  have h1 := List.all_eq_true.1 (List.all_eq_true.1 h a (List.mem_range.2 ha)) n (List.mem_range.2 hn)
  simpa only [Bool.and_eq_true, decide_eq_true_eq] using h1
theorem cl_same {a n : Nat} (ha : 1 ≤ a ∧ a ≤ 4) (hn : 1 ≤ n ∧ n ≤ 20) : clT a n (dvs n) = clS a n ∧ 0 ≤ clS a n ∧ cnT a (dvs n) = (cnV a n : Int) ∧ clV a n ≤ 1099511627776 := by
  obtain ⟨a, rfl⟩ : ∃ b, a = b + 1 := ⟨a - 1, by omega⟩
  obtain ⟨n, rfl⟩ : ∃ m, n = m + 1 := ⟨n - 1, by omega⟩
  exact cl_tab a (by omega) n (by omega)
/-- The value of CountLyndon, of CountNecklaces. -/
def clN (a n : Int) : Int := if 1 ≤ a ∧ a ≤ 4 ∧ 1 ≤ n ∧ n ≤ 20 then clV a.toNat n.toNat else -1
def cnN (a n : Int) : Int := if 1 ≤ a ∧ a ≤ 4 ∧ 1 ≤ n ∧ n ≤ 20 then (cnV a.toNat n.toNat : Int) else -1
end Go.Proofs.Ytcnejfihpaicdaa.Plain
