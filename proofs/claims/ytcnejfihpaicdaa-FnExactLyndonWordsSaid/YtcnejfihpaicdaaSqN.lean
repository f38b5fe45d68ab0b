/- A word of n letters has at most n different squares (by the circuits of its graphs of factors): plain facts. No conditions beyond those that each fact states. -/
import Derived.Test.YtcnejfihpaicdaaPowVal
namespace Go.Proofs.Ytcnejfihpaicdaa.Plain
set_option linter.unusedSimpArgs false
set_option linter.unusedVariables false
/-- Different elements that all stand in a list are no more than it has. -/
theorem len_le {α : Type} [DecidableEq α] : ∀ (l m : List α), l.Nodup → (∀ x ∈ l, x ∈ m) → l.length ≤ m.length
  | [], m, _, _ => Nat.zero_le _
  | x :: l, m, hn, hs => by
    have hx := hs x (by simp)
    have h1 := List.nodup_cons.1 hn
    have ih := len_le l (m.erase x) h1.2 fun y hy => by
      have hne : y ≠ x := fun e => h1.1 (e ▸ hy)
      exact (List.mem_erase_of_ne hne).2 (hs y (by simp [hy]))
    have h2 := List.length_erase_of_mem hx
    have h3 : 0 < m.length := List.length_pos_of_mem hx
    rw [List.length_cons]
    omega
theorem nodup_filter {α : Type} {l : List α} (p : α → Bool) (h : l.Nodup) : (l.filter p).Nodup := List.Pairwise.filter p h
theorem nodup_map {α β : Type} {l : List α} {f : α → β} (h : l.Nodup) (hf : ∀ x ∈ l, ∀ y ∈ l, f x = f y → x = y) : (l.map f).Nodup := by
  induction l with
  | nil => exact List.nodup_nil
  | cons a l ih =>
    have h1 := List.nodup_cons.1 h
    rw [List.map_cons, List.nodup_cons]
    refine ⟨fun hm => ?_, ih h1.2 fun x hx y hy => hf x (by simp [hx]) y (by simp [hy])⟩
    obtain ⟨y, hy, he⟩ := List.mem_map.1 hm
    have := hf y (by simp [hy]) a (by simp) he
    exact h1.1 (this ▸ hy)
theorem sd_nodup {l : List (List Int)} (h : SD l) : l.Nodup := List.Pairwise.imp (fun {u v} h e => by rw [e, cmpW_self] at h; omega) h
/-- A naming of vertices that joins the ends of each edge of a list gives at least as many names as there are vertices, less the edges. -/
theorem join {α : Type} [DecidableEq α] (F : List (α × α)) : ∃ c : α → α, (∀ p ∈ F, c p.1 = c p.2) ∧ ∀ V : List α, V.Nodup → ∃ M : List α, M.Nodup ∧ (∀ x ∈ M, ∃ v ∈ V, c v = x) ∧ V.length ≤ M.length + F.length := by
  induction F with
  | nil => exact ⟨id, (fun p h => by cases h), fun V hV => ⟨V, hV, fun x hx => ⟨x, hx, rfl⟩, by simp⟩⟩
  | cons q F ih =>
    obtain ⟨c, h1, h2⟩ := ih
    refine ⟨fun v => if c v = c q.1 then c q.2 else c v, fun p hp => ?_, fun V hV => ?_⟩
    · rcases List.mem_cons.1 hp with rfl | hp
      · by_cases e : c p.2 = c p.1
        · simp [e]
        · simp [e]
      · have := h1 p hp
        simp only [this]
    · obtain ⟨M, m1, m2, m3⟩ := h2 V hV
      refine ⟨M.filter fun x => decide (x ≠ c q.1), nodup_filter _ m1, fun x hx => ?_, ?_⟩
      · obtain ⟨hx1, hx2⟩ := List.mem_filter.1 hx
        obtain ⟨v, hv, rfl⟩ := m2 x hx1
        refine ⟨v, hv, if_neg ?_⟩
        simpa using hx2
      · have h5 := len_le M (c q.1 :: M.filter fun x => decide (x ≠ c q.1)) m1 fun x hx => by
          by_cases e : x = c q.1
          · simp [e]
          · exact List.mem_cons_of_mem _ (List.mem_filter.2 ⟨hx, by simpa using e⟩)
        rw [List.length_cons] at h5 ⊢
        omega
/-- The letters of a word repeated for ever; its parts. -/
def cy (l : List Int) (i : Nat) : Int := l.getD (i % l.length) 0
def pw (l : List Int) (o m : Nat) : List Int := (List.range m).map fun i => cy l (o + i)
theorem pw_len (l : List Int) (o m : Nat) : (pw l o m).length = m := by simp [pw]
theorem pw_get {l : List Int} {o m i : Nat} (h : i < m) : (pw l o m)[i]? = some (cy l (o + i)) := by simp [pw, h]
theorem pw_ext {l : List Int} {o m : Nat} {x : List Int} (hl : x.length = m) (h : ∀ i, i < m → x[i]? = some (cy l (o + i))) : x = pw l o m := by
  refine List.ext_getElem? fun i => ?_
  by_cases hi : i < m
  · rw [h i hi, pw_get hi]
  · rw [List.getElem?_eq_none (by omega), List.getElem?_eq_none (by rw [pw_len]; omega)]
theorem cy_add (l : List Int) (i : Nat) : cy l (i + l.length) = cy l i := by simp [cy]
theorem pw_shift (l : List Int) (o m : Nat) : pw l (o + l.length) m = pw l o m := by
  refine (pw_ext (pw_len _ _ _) fun i hi => ?_).symm
  rw [pw_get hi, show o + l.length + i = o + i + l.length from by omega, cy_add]
theorem pw_take {l : List Int} {o m n : Nat} (h : n ≤ m) : (pw l o m).take n = pw l o n := by
  refine pw_ext (by rw [List.length_take, pw_len]; omega) fun i hi => ?_
  rw [List.getElem?_take, if_pos hi, pw_get (by omega)]
theorem pw_drop {l : List Int} {o m d : Nat} : (pw l o m).drop d = pw l (o + d) (m - d) := by
  refine pw_ext (by rw [List.length_drop, pw_len]) fun i hi => ?_
  rw [List.getElem?_drop, pw_get (by omega), Nat.add_assoc]
theorem pw_self (l : List Int) : pw l 0 l.length = l := by
  refine (pw_ext rfl fun i hi => ?_).symm
  rw [Nat.zero_add, cy, Nat.mod_eq_of_lt hi, List.getD_eq_getElem?_getD, List.getElem?_eq_getElem hi]
  rfl
theorem cy_pw {l : List Int} {d k : Nat} (hk : l.length = k) (h : 0 < k) (i : Nat) : cy (pw l d k) i = cy l (d + i) := by
  have hm : i % k < k := Nat.mod_lt _ h
  unfold cy
  rw [pw_len, List.getD_eq_getElem?_getD, pw_get hm]
  show cy l (d + i % k) = l.getD ((d + i) % l.length) 0
  unfold cy
  rw [hk, Nat.add_mod_mod]
theorem pw_pw {l : List Int} {d k o m : Nat} (hk : l.length = k) (h : 0 < k) : pw (pw l d k) o m = pw l (d + o) m := by
  refine pw_ext (pw_len _ _ _) fun i hi => ?_
  rw [pw_get hi, cy_pw hk h, Nat.add_assoc]
/-- No turn of the word but a whole one gives it back; it is the first of its turns. -/
def Prim (l : List Int) : Prop := 0 < l.length ∧ ∀ d, 0 < d → d < l.length → pw l d l.length ≠ l
def Lst (l : List Int) : Prop := ∀ d, cmpW l (pw l d l.length) ≤ 0
theorem cmpW_pre (x y z : List Int) : cmpW (x ++ y) (x ++ z) = cmpW y z := by
  induction x with
  | nil => rfl
  | cons a x ih => simp [cmpW, ih]
theorem cmpW_suf : ∀ (z y x : List Int), z.length = y.length → cmpW (z ++ x) (y ++ x) = cmpW z y
  | [], [], x, _ => by simp [cmpW, cmpW_self]
  | a :: z, b :: y, x, h => by
    have ih := cmpW_suf z y x (by simpa using h)
    simp [cmpW, ih]
  | [], _ :: _, _, h => by simp at h
  | _ :: _, [], _, h => by simp at h
theorem pw_turn {l : List Int} {d : Nat} (h : d ≤ l.length) : pw l d l.length = l.drop d ++ l.take d := by
  refine (pw_ext (by simp; omega) fun i hi => ?_).symm
  by_cases e : d + i < l.length
  · rw [List.getElem?_append_left (by rw [List.length_drop]; omega), List.getElem?_drop, cy, Nat.mod_eq_of_lt e, List.getD_eq_getElem?_getD, List.getElem?_eq_getElem e]
    rfl
  · have e2 : (d + i) % l.length = d + i - l.length := by rw [Nat.mod_eq_sub_mod (by omega), Nat.mod_eq_of_lt (by omega)]
    rw [List.getElem?_append_right (by rw [List.length_drop]; omega), List.length_drop, List.getElem?_take, if_pos (by omega), cy, e2, List.getD_eq_getElem?_getD, show i - (l.length - d) = d + i - l.length from by omega, List.getElem?_eq_getElem (by omega)]
    rfl
/-- Such a word has no period less than its length. -/
theorem unb {l : List Int} (hp : Prim l) (hl : Lst l) {p : Nat} (h0 : 0 < p) (h1 : p < l.length) : ¬ ∀ i, i + p < l.length → l[i + p]? = l[i]? := by
  intro h
  have hx : l.drop p = l.take (l.length - p) := by
    refine List.ext_getElem? fun i => ?_
    rw [List.getElem?_drop, List.getElem?_take]
    by_cases hi : i < l.length - p
    · rw [if_pos hi, Nat.add_comm, h i (by omega)]
    · rw [if_neg hi, List.getElem?_eq_none (by omega)]
  have e1 := List.take_append_drop (l.length - p) l
  have e2 := List.take_append_drop p l
  have t1 := pw_turn (l := l) (d := p) (by omega)
  have t2 := pw_turn (l := l) (d := l.length - p) (by omega)
  have l1 := hl p
  have l2 := hl (l.length - p)
  rw [t1, hx] at l1
  rw [t2] at l2
  rw [hx] at e2
  have hne := hp.2 (l.length - p) (by omega) (by omega)
  rw [t2] at hne
  have hly : (l.drop (l.length - p)).length = p := by rw [List.length_drop]; omega
  have hlz : (l.take p).length = p := by rw [List.length_take]; omega
  generalize l.take (l.length - p) = x at *
  generalize l.drop (l.length - p) = y at *
  generalize l.take p = z at *
  have c1 : cmpW y z ≤ 0 := by
    have : cmpW l (x ++ z) = cmpW y z := by rw [← e1, cmpW_pre]
    omega
  have c2 : cmpW z y ≤ 0 := by
    have : cmpW l (y ++ x) = cmpW z y := by rw [← e2, cmpW_suf _ _ _ (by omega)]
    omega
  have c3 := cmpW_neg y z
  have hyz := cmpW_zero y z (by omega)
  subst hyz
  exact hne e2
theorem exists_least (q : List Int) (h : Prim q) : ∃ a, a < q.length ∧ Prim (pw q a q.length) ∧ Lst (pw q a q.length) := by
  have hne : sdl ((List.range q.length).map fun d => pw q d q.length) ≠ [] := fun e => by
    have := (sdl_mem ((List.range q.length).map fun d => pw q d q.length) (pw q 0 q.length)).2 (List.mem_map.2 ⟨0, List.mem_range.2 h.1, rfl⟩)
    rw [e] at this
    cases this
  have hsd := sdl_sd ((List.range q.length).map fun d => pw q d q.length)
  cases hs : sdl ((List.range q.length).map fun d => pw q d q.length) with
  | nil => exact absurd hs hne
  | cons r l =>
    have hr : r ∈ (List.range q.length).map fun d => pw q d q.length := (sdl_mem _ _).1 (by rw [hs]; simp)
    obtain ⟨a, ha, rfl⟩ := List.mem_map.1 hr
    have hal := List.mem_range.1 ha
    have hk := h.1
    refine ⟨a, hal, ⟨by rw [pw_len]; exact hk, fun d h1 h2 e => ?_⟩, fun d => ?_⟩
    · rw [pw_len] at h2 e
      rw [pw_pw rfl hk] at e
      refine h.2 d h1 h2 ?_
      have e3 : pw (pw q a q.length) (q.length - a + d) q.length = pw (pw q a q.length) (q.length - a) q.length := by
        rw [pw_pw rfl hk, pw_pw rfl hk]
        refine pw_ext (pw_len _ _ _) fun i hi => ?_
        rw [pw_get hi]
        have h5 := congrArg (fun x => cy x (q.length - a + i)) e
        rw [cy_pw rfl hk, cy_pw rfl hk] at h5
        rw [show a + (q.length - a + d) + i = a + d + (q.length - a + i) from by omega, h5, show a + (q.length - a) + i = a + (q.length - a + i) from by omega]
      rw [pw_pw rfl hk, pw_pw rfl hk, show a + (q.length - a + d) = d + q.length from by omega, show a + (q.length - a) = 0 + q.length from by omega, pw_shift, pw_shift, pw_self] at e3
      exact e3
    · rw [pw_len, pw_pw rfl hk]
      have hmod : pw q (a + d) q.length = pw q ((a + d) % q.length) q.length := by
        refine pw_ext (pw_len _ _ _) fun i hi => ?_
        rw [pw_get hi]
        unfold cy
        rw [Nat.mod_add_mod]
      have hin : pw q ((a + d) % q.length) q.length ∈ (List.range q.length).map fun d => pw q d q.length := List.mem_map.2 ⟨_, List.mem_range.2 (Nat.mod_lt _ hk), rfl⟩
      rw [hmod]
      have h6 := (sdl_mem _ _).2 hin
      rw [hs] at h6 hsd
      rcases List.mem_cons.1 h6 with h7 | h7
      · rw [h7, cmpW_self]; omega
      · have := (List.pairwise_cons.1 hsd).1 _ h7
        omega
/-- A square as a part of a word repeated for ever, that word the first of its turns. -/
def SqOf (s l : List Int) (o i : Nat) : Prop := Prim l ∧ Lst l ∧ o < l.length ∧ 0 < i ∧ s = pw l o (2 * (i * l.length))
theorem sq_of {t : List Int} (h : 0 < t.length) : ∃ l o i, SqOf (t ++ t) l o i := by
  -- the least turn that gives t back
  have hex : ∃ d, 0 < d ∧ d ≤ t.length ∧ (∀ i, cy t (i + d) = cy t i) ∧ ∀ e, 0 < e → (∀ i, cy t (i + e) = cy t i) → d ≤ e := by
    have key : ∀ n d, d ≤ n → 0 < d → (∀ i, cy t (i + d) = cy t i) → ∃ d', 0 < d' ∧ d' ≤ d ∧ (∀ i, cy t (i + d') = cy t i) ∧ ∀ e, 0 < e → (∀ i, cy t (i + e) = cy t i) → d' ≤ e := fun n => by
      induction n with
      | zero => intro d h1 h2; omega
      | succ n ih =>
        intro d h1 h2 h3
        by_cases hc : ∃ e, 0 < e ∧ e < d ∧ ∀ i, cy t (i + e) = cy t i
        · obtain ⟨e, e1, e2, e3⟩ := hc
          obtain ⟨d', a1, a2, a3, a4⟩ := ih e (by omega) e1 e3
          exact ⟨d', a1, by omega, a3, a4⟩
        · exact ⟨d, h2, Nat.le_refl _, h3, fun e e1 e2 => Nat.le_of_not_lt fun hlt => hc ⟨e, e1, hlt, e2⟩⟩
    exact key t.length t.length (Nat.le_refl _) h (cy_add t)
  obtain ⟨d, hd0, hdl, hper, hmin⟩ := hex
  have hmul : ∀ m i, cy t (i + m * d) = cy t i := fun m => by
    induction m with
    | zero => intro i; simp
    | succ m ih => intro i; rw [Nat.succ_mul, ← Nat.add_assoc, hper, ih]
  have hdvd : t.length % d = 0 := by
    refine Nat.eq_zero_of_not_pos fun hpos => ?_
    have := hmin (t.length % d) hpos fun i => by
      rw [← hmul (t.length / d) (i + t.length % d), show i + t.length % d + t.length / d * d = i + t.length from by have := Nat.mod_add_div t.length d; rw [Nat.mul_comm] at this; omega, cy_add]
    have := Nat.mod_lt t.length hd0
    omega
  have hql : (t.take d).length = d := by rw [List.length_take]; omega
  have hcy : ∀ i, cy (t.take d) i = cy t i := fun i => by
    have h1 : i % d < d := Nat.mod_lt _ hd0
    have h2 := hmul (i / d) (i % d)
    rw [show i % d + i / d * d = i from by have := Nat.mod_add_div i d; rw [Nat.mul_comm] at this; omega] at h2
    rw [h2]
    unfold cy
    rw [hql, Nat.mod_eq_of_lt (show i % d < t.length by omega), List.getD_eq_getElem?_getD, List.getD_eq_getElem?_getD, List.getElem?_take, if_pos h1]
  have hprim : Prim (t.take d) := ⟨by omega, fun e e1 e2 h5 => by
    rw [hql] at e2
    have := hmin e e1 fun i => by
      have h6 := congrArg (fun x => cy x i) h5
      rw [cy_pw rfl (by omega), hcy, hcy] at h6
      rw [Nat.add_comm]
      exact h6
    omega⟩
  obtain ⟨a, ha, hp2, hl2⟩ := exists_least _ hprim
  rw [hql] at ha hp2 hl2
  refine ⟨pw (t.take d) a d, (d - a) % d, t.length / d, hp2, hl2, by rw [pw_len]; exact Nat.mod_lt _ hd0, Nat.div_pos hdl hd0, ?_⟩
  have hPd : t.length / d * d = t.length := by have := Nat.mod_add_div t.length d; rw [Nat.mul_comm] at this; omega
  rw [pw_len, hPd]
  refine pw_ext (by rw [List.length_append]; omega) fun i hi => ?_
  have hc : cy (pw (t.take d) a d) ((d - a) % d + i) = cy t i := by
    rw [cy_pw hql hd0, hcy]
    by_cases h0 : a = 0
    · subst h0
      rw [Nat.sub_zero, Nat.mod_self]
      congr 1
      omega
    · rw [Nat.mod_eq_of_lt (by omega), show a + (d - a + i) = i + d from by omega, hper]
  rw [hc]
  by_cases hlt : i < t.length
  · rw [List.getElem?_append_left hlt, cy, Nat.mod_eq_of_lt hlt, List.getD_eq_getElem?_getD, List.getElem?_eq_getElem hlt]
    rfl
  · rw [List.getElem?_append_right (by omega), cy, Nat.mod_eq_sub_mod (by omega), Nat.mod_eq_of_lt (by omega), List.getD_eq_getElem?_getD, List.getElem?_eq_getElem (by omega)]
    rfl

/-- The parts of n letters. -/
def wn (u : List Int) (n : Nat) : List (List Int) := (List.range (u.length + 1 - n)).map fun i => (u.drop i).take n
theorem wn_mem {u : List Int} {n : Nat} {x : List Int} : x ∈ wn u n ↔ ∃ i, i + n ≤ u.length ∧ x = (u.drop i).take n ∨ (i < u.length + 1 - n ∧ x = (u.drop i).take n) := by
  unfold wn
  rw [List.mem_map]
  constructor
  · rintro ⟨i, hi, rfl⟩
    exact ⟨i, .inr ⟨List.mem_range.1 hi, rfl⟩⟩
  · rintro ⟨i, ⟨h, rfl⟩ | ⟨h, rfl⟩⟩
    · exact ⟨i, List.mem_range.2 (by omega), rfl⟩
    · exact ⟨i, List.mem_range.2 h, rfl⟩
theorem wn_in {u : List Int} {n i : Nat} (h : i + n ≤ u.length) : (u.drop i).take n ∈ wn u n := wn_mem.2 ⟨i, .inl ⟨h, rfl⟩⟩
theorem wn_at {u : List Int} {n : Nat} {x : List Int} (hn : n ≤ u.length) (h : x ∈ wn u n) : ∃ i, i + n ≤ u.length ∧ x = (u.drop i).take n := by
  obtain ⟨i, h1 | h1⟩ := wn_mem.1 h
  · exact ⟨i, h1⟩
  · exact ⟨i, by omega, h1.2⟩
/-- What is known of a list of squares of a word: its words are different parts of it, each a part of its first turn repeated. -/
structure Sqs (u : List Int) (S : List (List Int)) (lam : List Int → List Int) (off ex : List Int → Nat) : Prop where
  nd : S.Nodup
  part : ∀ s ∈ S, ∃ a, a + s.length ≤ u.length ∧ s = (u.drop a).take s.length
  form : ∀ s ∈ S, SqOf s (lam s) (off s) (ex s)
section
variable {u : List Int} {S : List (List Int)} {lam : List Int → List Int} {off ex : List Int → Nat}
/-- The same turns, a lesser length; the same length, earlier in the order of words. -/
def lesser (lam : List Int → List Int) (s t : List Int) : Bool := decide (lam t = lam s) && decide (t.length < s.length)
def equalB (lam : List Int → List Int) (s t : List Int) : Bool := decide (lam t = lam s) && decide (t.length = s.length ∧ cmpW t s < 0)
def bef (lam : List Int → List Int) (s t : List Int) : Bool := lesser lam s t || equalB lam s t
def rank (lam : List Int → List Int) (S : List (List Int)) (s : List Int) : Nat := (S.filter (bef lam s)).length
def lev (lam : List Int → List Int) (S : List (List Int)) (s : List Int) : Nat := (lam s).length + rank lam S s
theorem bef_iff {s t : List Int} : bef lam s t = true ↔ lam t = lam s ∧ (t.length < s.length ∨ t.length = s.length ∧ cmpW t s < 0) := by
  simp only [bef, lesser, equalB, Bool.or_eq_true, Bool.and_eq_true, decide_eq_true_eq]
  constructor
  · rintro (⟨h1, h2⟩ | ⟨h1, h2⟩)
    · exact ⟨h1, .inl h2⟩
    · exact ⟨h1, .inr h2⟩
  · rintro ⟨h1, h2 | h2⟩
    · exact .inl ⟨h1, h2⟩
    · exact .inr ⟨h1, h2⟩
theorem rank_lt {s t : List Int} (hn : S.Nodup) (ht : t ∈ S) (h : bef lam s t = true) : rank lam S t < rank lam S s := by
  have h0 := bef_iff.1 h
  have h1 := len_le (t :: S.filter (bef lam t)) (S.filter (bef lam s)) (List.nodup_cons.2 ⟨fun hm => ?_, nodup_filter _ hn⟩) fun x hx => ?_
  · rw [List.length_cons] at h1
    unfold rank
    omega
  · have := bef_iff.1 (List.mem_filter.1 hm).2
    rw [cmpW_self] at this
    omega
  · rcases List.mem_cons.1 hx with rfl | hx
    · exact List.mem_filter.2 ⟨ht, h⟩
    · obtain ⟨hx1, hx2⟩ := List.mem_filter.1 hx
      have h2 := bef_iff.1 hx2
      refine List.mem_filter.2 ⟨hx1, bef_iff.2 ⟨h2.1.trans h0.1, ?_⟩⟩
      rcases h2.2 with h3 | h3 <;> rcases h0.2 with h4 | h4
      · exact .inl (by omega)
      · exact .inl (by omega)
      · exact .inl (by omega)
      · exact .inr ⟨by omega, cmpW_trans _ _ _ h3.2 h4.2⟩
theorem rank_inj {s t : List Int} (hn : S.Nodup) (hs : s ∈ S) (ht : t ∈ S) (hl : lam s = lam t) (h : rank lam S s = rank lam S t) : s = t := by
  by_cases h1 : s.length < t.length
  · have := rank_lt (lam := lam) (s := t) hn hs (bef_iff.2 ⟨hl, .inl h1⟩); omega
  · by_cases h2 : t.length < s.length
    · have := rank_lt (lam := lam) (s := s) hn ht (bef_iff.2 ⟨hl.symm, .inl h2⟩); omega
    · rcases cmpW_three s t with h3 | h3 | h3
      · have := rank_lt (lam := lam) (s := t) hn hs (bef_iff.2 ⟨hl, .inr ⟨by omega, by omega⟩⟩); omega
      · exact cmpW_zero _ _ h3
      · have h4 := cmpW_neg s t
        have := rank_lt (lam := lam) (s := s) hn ht (bef_iff.2 ⟨hl.symm, .inr ⟨by omega, by omega⟩⟩); omega
/-- All squares of a turn with an exponent up to twice j. -/
def allSq (l : List Int) : Nat → List (List Int)
  | 0 => []
  | j + 1 => allSq l j ++ (List.range l.length).map fun o => pw l o (2 * ((j + 1) * l.length))
theorem allSq_len (l : List Int) : ∀ j, (allSq l j).length = j * l.length := fun j => by
  induction j with
  | zero => simp [allSq]
  | succ j ih => rw [allSq, List.length_append, ih, List.length_map, List.length_range, Nat.succ_mul]
theorem allSq_in {l : List Int} {o i : Nat} (h0 : 0 < i) (ho : o < l.length) : ∀ j, i ≤ j → pw l o (2 * (i * l.length)) ∈ allSq l j := fun j => by
  induction j with
  | zero => intro h; omega
  | succ j ih =>
    intro h
    rw [allSq, List.mem_append]
    by_cases e : i = j + 1
    · subst e
      exact .inr (List.mem_map.2 ⟨o, List.mem_range.2 ho, rfl⟩)
    · exact .inl (ih (by omega))
theorem sq_length (h : Sqs u S lam off ex) {s : List Int} (hs : s ∈ S) : s.length = 2 * (ex s * (lam s).length) := by
  have := (h.form s hs).2.2.2.2
  have h2 := congrArg List.length this
  rw [pw_len] at h2
  exact h2
theorem lesser_len (h : Sqs u S lam off ex) {s : List Int} (hs : s ∈ S) : (S.filter (lesser lam s)).length ≤ (ex s - 1) * (lam s).length := by
  rw [← allSq_len]
  refine len_le _ _ (nodup_filter _ h.nd) fun t ht => ?_
  obtain ⟨h1, h2⟩ := List.mem_filter.1 ht
  simp only [lesser, Bool.and_eq_true, decide_eq_true_eq] at h2
  obtain ⟨h3, h4⟩ := h2
  have h5 := h.form t h1
  have h6 := sq_length h h1
  have h7 := sq_length h hs
  rw [h3] at h5 h6
  have hlt : ex t < ex s := by
    refine Nat.lt_of_mul_lt_mul_right (a := (lam s).length) ?_
    omega
  rw [h5.2.2.2.2]
  exact allSq_in h5.2.2.2.1 h5.2.2.1 _ (by omega)
theorem rank_le (h : Sqs u S lam off ex) {s : List Int} (hs : s ∈ S) : rank lam S s ≤ (ex s - 1) * (lam s).length + (S.filter (equalB lam s)).length := by
  have h1 := len_le (S.filter (bef lam s)) (S.filter (lesser lam s) ++ S.filter (equalB lam s)) (nodup_filter _ h.nd) fun x hx => by
    obtain ⟨h2, h3⟩ := List.mem_filter.1 hx
    rw [bef, Bool.or_eq_true] at h3
    rw [List.mem_append]
    rcases h3 with h3 | h3
    · exact .inl (List.mem_filter.2 ⟨h2, h3⟩)
    · exact .inr (List.mem_filter.2 ⟨h2, h3⟩)
  rw [List.length_append] at h1
  have := lesser_len h hs
  unfold rank
  omega
/-- How far one place lies behind another one, round the turn. -/
def gap (k o a : Nat) : Nat := if a ≤ o then o - a else o + k - a
/-- One of the squares of this length begins close enough. -/
theorem near (h : Sqs u S lam off ex) {s : List Int} (hs : s ∈ S) {o : Nat} (ho : o < (lam s).length) : ∃ t ∈ S, lam t = lam s ∧ t.length = s.length ∧ gap (lam s).length o (off t) + (S.filter (equalB lam s)).length + 1 ≤ (lam s).length := by
  refine Classical.byContradiction fun hno => ?_
  have hfar : ∀ t ∈ S, lam t = lam s → t.length = s.length → (lam s).length < gap (lam s).length o (off t) + (S.filter (equalB lam s)).length + 1 := fun t h1 h2 h3 => Nat.lt_of_not_le fun h4 => hno ⟨t, h1, h2, h3, h4⟩
  have hall : ∀ t ∈ s :: S.filter (equalB lam s), t ∈ S ∧ lam t = lam s ∧ t.length = s.length := fun t ht => by
    rcases List.mem_cons.1 ht with rfl | ht
    · exact ⟨hs, rfl, rfl⟩
    · obtain ⟨h1, h2⟩ := List.mem_filter.1 ht
      simp only [equalB, Bool.and_eq_true, decide_eq_true_eq] at h2
      exact ⟨h1, h2.1, h2.2.1⟩
  have hnd : (s :: S.filter (equalB lam s)).Nodup := List.nodup_cons.2 ⟨fun hm => by
    have := (List.mem_filter.1 hm).2
    simp [equalB, cmpW_self] at this, nodup_filter _ h.nd⟩
  obtain ⟨T, hT⟩ : ∃ T, T = (S.filter (equalB lam s)).length := ⟨_, rfl⟩
  obtain ⟨k, hk⟩ : ∃ k, k = (lam s).length := ⟨_, rfl⟩
  rw [← hT, ← hk] at hfar
  rw [← hk] at ho
  have h5 := len_le (s :: S.filter (equalB lam s)) ((List.range T).map fun j => pw (lam s) (o + (T - j)) s.length) hnd fun t ht => by
    obtain ⟨h1, h2, h3⟩ := hall t ht
    have h6 := hfar t h1 h2 h3
    have h7 := h.form t h1
    have h8 := sq_length h h1
    rw [h2] at h7
    rw [h2, ← hk] at h8
    have hof : off t < k := by have := h7.2.2.1; omega
    have hg : gap k o (off t) < k := by unfold gap; split <;> omega
    have h9 : t = pw (lam s) (off t) s.length := by
      have h10 := h7.2.2.2.2
      rw [← hk, ← h8, h3] at h10
      exact h10
    refine List.mem_map.2 ⟨gap k o (off t) + T - k, List.mem_range.2 (by omega), ?_⟩
    refine Eq.trans ?_ h9.symm
    rw [show T - (gap k o (off t) + T - k) = k - gap k o (off t) from by omega]
    unfold gap
    by_cases e : off t ≤ o
    · rw [if_pos e, show o + (k - (o - off t)) = off t + (lam s).length from by omega, pw_shift]
    · rw [if_neg e, show o + (k - (o + k - off t)) = off t from by omega]
  rw [List.length_cons, List.length_map, List.length_range, ← hT] at h5
  omega
/-- All parts of n + 1 letters of the turn are parts of the word, n the square's level. -/
theorem full (h : Sqs u S lam off ex) {s : List Int} (hs : s ∈ S) {o : Nat} (ho : o < (lam s).length) : ∃ a, a + (lev lam S s + 1) ≤ u.length ∧ pw (lam s) o (lev lam S s + 1) = (u.drop a).take (lev lam S s + 1) := by
  obtain ⟨t, h1, h2, h3, h4⟩ := near h hs ho
  have h5 := rank_le h hs
  have h6 := h.form t h1
  have h7 := sq_length h hs
  have hex := (h.form s hs).2.2.2.1
  obtain ⟨a, ha, hta⟩ := h.part t h1
  have hexk : (lam s).length + (ex s - 1) * (lam s).length = ex s * (lam s).length := by
    obtain ⟨m, hm⟩ : ∃ m, ex s = m + 1 := ⟨ex s - 1, by omega⟩
    rw [hm, Nat.add_sub_cancel, Nat.succ_mul]; omega
  have hk1 : (lam s).length ≤ ex s * (lam s).length := by omega
  have hfit : gap (lam s).length o (off t) + (lev lam S s + 1) ≤ s.length := by unfold lev; omega
  have h8 : t = pw (lam s) (off t) s.length := by
    have := h6.2.2.2.2
    have h9 := sq_length h h1
    rw [← h9, h2, h3] at this
    exact this
  have hof : off t < (lam s).length := by have := h6.2.2.1; rwa [h2] at this
  refine ⟨a + gap (lam s).length o (off t), by omega, ?_⟩
  have h9 : (t.drop (gap (lam s).length o (off t))).take (lev lam S s + 1) = pw (lam s) (off t + gap (lam s).length o (off t)) (lev lam S s + 1) := by
    refine (congrArg (fun x => (x.drop (gap (lam s).length o (off t))).take (lev lam S s + 1)) h8).trans ?_
    show ((pw (lam s) (off t) s.length).drop (gap (lam s).length o (off t))).take (lev lam S s + 1) = _
    rw [pw_drop, pw_take (by omega)]
  have h10 : (t.drop (gap (lam s).length o (off t))).take (lev lam S s + 1) = (u.drop (a + gap (lam s).length o (off t))).take (lev lam S s + 1) := by
    refine (congrArg (fun x => (x.drop (gap (lam s).length o (off t))).take (lev lam S s + 1)) hta).trans ?_
    show (((u.drop a).take t.length).drop (gap (lam s).length o (off t))).take (lev lam S s + 1) = _
    rw [List.drop_take, List.drop_drop, List.take_take, Nat.min_eq_left (by omega)]
  rw [← h10, h9]
  unfold gap
  by_cases e : off t ≤ o
  · rw [if_pos e, show off t + (o - off t) = o from by omega]
  · rw [if_neg e, show off t + (o + (lam s).length - off t) = o + (lam s).length from by omega, pw_shift]
theorem lev_pos (h : Sqs u S lam off ex) {s : List Int} (hs : s ∈ S) : (lam s).length ≤ lev lam S s ∧ 0 < (lam s).length ∧ lev lam S s + 1 ≤ u.length := by
  have h1 := (h.form s hs).1.1
  obtain ⟨a, ha, _⟩ := full h hs h1
  exact ⟨by unfold lev; omega, h1, by omega⟩
/-- A part of a turn that begins with a lesser one's first turn: the other one is lesser. -/
theorem cross (h : Sqs u S lam off ex) {s t : List Int} (hs : s ∈ S) (ht : t ∈ S) {n o : Nat} (hsn : (lam s).length ≤ n) (htn : (lam t).length ≤ n) (he : pw (lam s) o (n + 1) = pw (lam t) 0 (n + 1)) : (lam t).length ≤ (lam s).length := by
  refine Nat.le_of_not_lt fun hlt => ?_
  have hT := h.form t ht
  have hS := (h.form s hs).1.1
  refine unb hT.1 hT.2.1 (p := (lam s).length) hS hlt fun i hi => ?_
  have e1 : ∀ j, j < (lam t).length → (lam t)[j]? = some (cy (lam s) (o + j)) := fun j hj => by
    have h1 := congrArg (fun x => x[j]?) he
    rw [pw_get (by omega), pw_get (by omega), Nat.zero_add] at h1
    rw [h1]
    conv => lhs; rw [← pw_self (lam t)]
    rw [pw_get hj, Nat.zero_add]
  rw [e1 _ hi, e1 i (by omega), show o + (i + (lam s).length) = o + i + (lam s).length from by omega, cy_add]
theorem same_turn (h : Sqs u S lam off ex) {s t : List Int} (hs : s ∈ S) (ht : t ∈ S) {n o : Nat} (ho : o < (lam s).length) (hsn : (lam s).length ≤ n) (htn : (lam t).length ≤ n) (he : pw (lam s) o (n + 1) = pw (lam t) 0 (n + 1)) (hk : (lam t).length = (lam s).length) : o = 0 ∧ lam s = lam t := by
  have hT := h.form t ht
  have hS := h.form s hs
  have h1 := congrArg (List.take (lam s).length) he
  rw [pw_take (by omega), pw_take (by omega)] at h1
  have h2 : pw (lam t) 0 (lam s).length = lam t := by rw [← hk, pw_self]
  rw [h2] at h1
  -- both are first among the same turns
  have c1 : cmpW (lam s) (lam t) ≤ 0 := by rw [← h1]; exact hS.2.1 o
  have c2 : cmpW (lam t) (lam s) ≤ 0 := by
    have h3 := hT.2.1 ((lam s).length - o)
    have h4 : pw (lam t) ((lam s).length - o) (lam t).length = lam s := by
      rw [hk, ← h1, pw_pw rfl hS.1.1, show o + ((lam s).length - o) = 0 + (lam s).length from by omega, pw_shift, pw_self]
    rwa [h4] at h3
  have c3 := cmpW_neg (lam s) (lam t)
  have he2 := cmpW_zero (lam s) (lam t) (by omega)
  refine ⟨Nat.eq_zero_of_not_pos fun h0 => ?_, he2⟩
  exact hS.1.2 o h0 ho (h1.trans he2.symm)
/-- The squares of one level are no more than the edges there, less the vertices, and one. -/
theorem level_le (h : Sqs u S lam off ex) {n : Nat} (hn : 1 ≤ n) (hu : n + 1 ≤ u.length) : (S.filter fun s => decide (lev lam S s = n)).length + (sdl (wn u n)).length ≤ (sdl (wn u (n + 1))).length + 1 := by
  obtain ⟨Q, hQ⟩ : ∃ Q, Q = S.filter fun s => decide (lev lam S s = n) := ⟨_, rfl⟩
  obtain ⟨E, hE⟩ : ∃ E, E = sdl (wn u (n + 1)) := ⟨_, rfl⟩
  obtain ⟨V, hV⟩ : ∃ V, V = sdl (wn u n) := ⟨_, rfl⟩
  rw [← hQ, ← hE, ← hV]
  have hQm : ∀ s, s ∈ Q ↔ s ∈ S ∧ lev lam S s = n := fun s => by rw [hQ, List.mem_filter, decide_eq_true_eq]
  have hEm : ∀ x, x ∈ E ↔ x ∈ wn u (n + 1) := fun x => by rw [hE]; exact sdl_mem _ _
  have hVm : ∀ x, x ∈ V ↔ x ∈ wn u n := fun x => by rw [hV]; exact sdl_mem _ _
  have hEn : E.Nodup := by rw [hE]; exact sd_nodup (sdl_sd _)
  have hVn : V.Nodup := by rw [hV]; exact sd_nodup (sdl_sd _)
  have hQn : Q.Nodup := by rw [hQ]; exact nodup_filter _ h.nd
  obtain ⟨R, hR⟩ : ∃ R, R = Q.map fun s => pw (lam s) 0 (n + 1) := ⟨_, rfl⟩
  have hkn : ∀ s ∈ Q, (lam s).length ≤ n ∧ 0 < (lam s).length := fun s hs => by
    obtain ⟨h1, h2⟩ := (hQm s).1 hs
    have := lev_pos h h1
    omega
  have hRn : R.Nodup := by
    rw [hR]
    refine nodup_map hQn fun s hs t ht he => ?_
    obtain ⟨s1, s2⟩ := (hQm s).1 hs
    obtain ⟨t1, t2⟩ := (hQm t).1 ht
    have ks := hkn s hs
    have kt := hkn t ht
    have l1 := cross h s1 t1 ks.1 kt.1 he
    have l2 := cross h t1 s1 kt.1 ks.1 he.symm
    have hl := (same_turn h s1 t1 ks.2 ks.1 kt.1 he (by omega)).2
    refine rank_inj h.nd s1 t1 hl ?_
    unfold lev at s2 t2
    rw [hl] at s2
    omega
  have hEdge : ∀ s ∈ Q, ∀ o, o < (lam s).length → pw (lam s) o (n + 1) ∈ E := fun s hs o ho => by
    obtain ⟨s1, s2⟩ := (hQm s).1 hs
    obtain ⟨a, h1, h2⟩ := full h s1 ho
    rw [s2] at h1 h2
    rw [hEm, h2]
    exact wn_in h1
  obtain ⟨F, hF⟩ : ∃ F, F = E.filter fun x => decide (x ∉ R) := ⟨_, rfl⟩
  have hFm : ∀ x, x ∈ F ↔ x ∈ E ∧ x ∉ R := fun x => by rw [hF, List.mem_filter, decide_eq_true_eq]
  have hcount : F.length + R.length ≤ E.length := by
    have h1 := len_le (F ++ R) E (List.nodup_append.2 ⟨by rw [hF]; exact nodup_filter _ hEn, hRn, fun x hx y hy e => ((hFm x).1 hx).2 (e ▸ hy)⟩) fun x hx => by
      rcases List.mem_append.1 hx with hx | hx
      · exact ((hFm x).1 hx).1
      · rw [hR] at hx
        obtain ⟨s, hs, rfl⟩ := List.mem_map.1 hx
        exact hEdge s hs 0 (hkn s hs).2
    rw [List.length_append] at h1
    exact h1
  obtain ⟨c, hc1, hc2⟩ := join (F.map fun x => (x.take n, x.drop 1))
  have hcF : ∀ x ∈ F, c (x.take n) = c (x.drop 1) := fun x hx => hc1 _ (List.mem_map.2 ⟨x, hx, rfl⟩)
  have ends : ∀ (l : List Int) (o : Nat), (pw l o (n + 1)).take n = pw l o n ∧ (pw l o (n + 1)).drop 1 = pw l (o + 1) n := fun l o => ⟨pw_take (by omega), by rw [pw_drop, Nat.add_sub_cancel]⟩
  have hcR : ∀ k, ∀ s ∈ Q, (lam s).length = k → c (pw (lam s) 0 n) = c (pw (lam s) 1 n) := fun k => by
    induction k using Nat.strongRecOn with
    | _ k ih =>
      intro s hs hk
      have ks := hkn s hs
      have s1 := ((hQm s).1 hs).1
      have step : ∀ o, 0 < o → o < (lam s).length → c (pw (lam s) o n) = c (pw (lam s) (o + 1) n) := fun o o0 o1 => by
        have hin := hEdge s hs o o1
        by_cases hr : pw (lam s) o (n + 1) ∈ R
        · rw [hR] at hr
          obtain ⟨t, ht, he⟩ := List.mem_map.1 hr
          have t1 := ((hQm t).1 ht).1
          have kt := hkn t ht
          have hle := cross h s1 t1 ks.1 kt.1 he.symm
          have hlt : (lam t).length < k := by
            refine Nat.lt_of_le_of_ne (by omega) fun e => ?_
            have := (same_turn h s1 t1 o1 ks.1 kt.1 he.symm (by omega)).1
            omega
          have := ih _ hlt t ht rfl
          have e1 := ends (lam t) 0
          have e2 := ends (lam s) o
          rw [he] at e1
          rw [← e2.1, ← e2.2, e1.1, e1.2]
          exact this
        · have := hcF _ ((hFm _).2 ⟨hin, hr⟩)
          rw [(ends _ _).1, (ends _ _).2] at this
          exact this
      have chain : ∀ o, 1 ≤ o → o ≤ (lam s).length → c (pw (lam s) 1 n) = c (pw (lam s) o n) := fun o => by
        induction o with
        | zero => intro h1; omega
        | succ o ih2 =>
          intro h1 h2
          by_cases e : o = 0
          · subst e; rfl
          · rw [ih2 (by omega) (by omega), step o (by omega) (by omega)]
      have := chain (lam s).length (by omega) (Nat.le_refl _)
      rw [this, show (lam s).length = 0 + (lam s).length from by omega, pw_shift]
  have hcE : ∀ x ∈ E, c (x.take n) = c (x.drop 1) := fun x hx => by
    by_cases hr : x ∈ R
    · rw [hR] at hr
      obtain ⟨s, hs, rfl⟩ := List.mem_map.1 hr
      rw [(ends _ _).1, (ends _ _).2]
      exact hcR _ s hs rfl
    · exact hcF x ((hFm x).2 ⟨hx, hr⟩)
  have hwalk : ∀ i, i + n ≤ u.length → c ((u.drop i).take n) = c ((u.drop 0).take n) := fun i => by
    induction i with
    | zero => intro _; rfl
    | succ i ih =>
      intro hi
      rw [← ih (by omega)]
      have h1 := hcE _ ((hEm _).2 (wn_in (u := u) (n := n + 1) (i := i) (by omega)))
      rw [List.take_take, Nat.min_eq_left (by omega), List.drop_take, List.drop_drop, Nat.add_sub_cancel] at h1
      exact h1.symm
  obtain ⟨M, m1, m2, m3⟩ := hc2 V hVn
  have hM : M.length ≤ 1 := by
    have := len_le M [c ((u.drop 0).take n)] m1 fun x hx => by
      obtain ⟨v, hv, rfl⟩ := m2 x hx
      obtain ⟨i, hi, rfl⟩ := wn_at (by omega) ((hVm v).1 hv)
      rw [hwalk i hi]
      simp
    simpa using this
  have hRl : R.length = Q.length := by rw [hR, List.length_map]
  rw [List.length_map] at m3
  omega
theorem sqs_le (h : Sqs u S lam off ex) : S.length ≤ u.length := by
  by_cases h0 : u.length = 0
  · cases S with
    | nil => exact Nat.zero_le _
    | cons s S =>
      have := lev_pos h (s := s) (by simp)
      omega
  have key : ∀ m, m + 1 ≤ u.length → (S.filter fun s => decide (lev lam S s ≤ m)).length + (sdl (wn u 1)).length ≤ (sdl (wn u (m + 1))).length + m := fun m => by
    induction m with
    | zero =>
      intro _
      have : (S.filter fun s => decide (lev lam S s ≤ 0)).length ≤ ([] : List (List Int)).length := len_le _ _ (nodup_filter _ h.nd) fun x hx => by
        obtain ⟨h1, h2⟩ := List.mem_filter.1 hx
        have := lev_pos h h1
        rw [decide_eq_true_eq] at h2
        omega
      rw [List.length_nil] at this
      show _ ≤ (sdl (wn u 1)).length + 0
      omega
    | succ m ih =>
      intro hm
      have h1 := ih (by omega)
      have h2 := level_le h (n := m + 1) (by omega) hm
      have h3 := len_le (S.filter fun s => decide (lev lam S s ≤ m + 1)) ((S.filter fun s => decide (lev lam S s ≤ m)) ++ S.filter fun s => decide (lev lam S s = m + 1)) (nodup_filter _ h.nd) fun x hx => by
        obtain ⟨h4, h5⟩ := List.mem_filter.1 hx
        rw [decide_eq_true_eq] at h5
        rw [List.mem_append, List.mem_filter, List.mem_filter, decide_eq_true_eq, decide_eq_true_eq]
        by_cases e : lev lam S x = m + 1
        · exact .inr ⟨h4, e⟩
        · exact .inl ⟨h4, by omega⟩
      rw [List.length_append] at h3
      omega
  have h1 := key (u.length - 1) (by omega)
  have h2 := len_le S (S.filter fun s => decide (lev lam S s ≤ u.length - 1)) h.nd fun x hx => List.mem_filter.2 ⟨hx, by
    have := lev_pos h hx
    rw [decide_eq_true_eq]
    omega⟩
  have h3 := sdl_len (wn u (u.length - 1 + 1))
  have h4 : (wn u (u.length - 1 + 1)).length = 1 := by
    unfold wn
    rw [List.length_map, List.length_range]
    omega
  have h5 : 0 < (sdl (wn u 1)).length := by
    have := (sdl_mem (wn u 1) ((u.drop 0).take 1)).2 (wn_in (by omega))
    exact List.length_pos_of_mem this
  omega
end
/-- A word has at most as many different squares as letters. -/
theorem dsq_bound {u : List Int} (hu : u.length ≤ 64) : dsq u ≤ u.length := by
  have hall : ∀ s ∈ sdl (sqW u (sqV u)), ∃ a t, a + s.length ≤ u.length ∧ s = (u.drop a).take s.length ∧ 0 < t.length ∧ s = t ++ t := fun s hs => by
    obtain ⟨q, hq, rfl⟩ := List.mem_map.1 ((sdl_mem _ _).1 hs)
    obtain ⟨h1, h2, h3⟩ := (sqV_mem hu).1 hq
    have hl : ((u.drop q.1).take (2 * q.2)).length = 2 * q.2 := by rw [List.length_take, List.length_drop]; omega
    refine ⟨q.1, (u.drop q.1).take q.2, by omega, by rw [hl], by rw [List.length_take, List.length_drop]; omega, ?_⟩
    have h4 := of_decide_eq_true h3
    have h5 : (u.drop q.1).take (2 * q.2) = (u.drop q.1).take q.2 ++ (u.drop (q.1 + q.2)).take q.2 := by
      rw [show 2 * q.2 = q.2 + q.2 from by omega, List.take_add, List.drop_drop]
    rw [h5, ← h4]
  have hch : ∀ s : List Int, ∃ p : List Int × Nat × Nat, s ∈ sdl (sqW u (sqV u)) → SqOf s p.1 p.2.1 p.2.2 := fun s => by
    by_cases hs : s ∈ sdl (sqW u (sqV u))
    · obtain ⟨a, t, _, _, h3, h4⟩ := hall s hs
      obtain ⟨l, o, i, h5⟩ := sq_of h3
      exact ⟨(l, o, i), fun _ => h4 ▸ h5⟩
    · exact ⟨([], 0, 0), fun h => absurd h hs⟩
  have hc := fun s => Classical.choose_spec (hch s)
  exact sqs_le (S := sdl (sqW u (sqV u))) (lam := fun s => (Classical.choose (hch s)).1) (off := fun s => (Classical.choose (hch s)).2.1) (ex := fun s => (Classical.choose (hch s)).2.2)
    ⟨sd_nodup (sdl_sd _), fun s hs => by obtain ⟨a, t, h1, h2, _⟩ := hall s hs; exact ⟨a, h1, h2⟩, fun s hs => hc s hs⟩
end Go.Proofs.Ytcnejfihpaicdaa.Plain
