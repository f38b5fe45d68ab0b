/- Several texts of this proof, one behind the other: each says ahead of it what it shows and under which conditions. -/
import Derived.Test.YtidfgfgokcflfaaGreatPW1
import Derived.Test.YtidfgfgokcflfaaGreatCells3
import Derived.Test.YtidfgfgokcflfaaGreatSeqs3
import Derived.Test.YtidfgfgokcflfaaGreatInts
import Derived.Deep.DeepCutAuto
import Derived.BigQuiet
import Derived.Test.YtidfgfgokcflfaaGreatSeqEq
import Derived.Deep.RegionHeld3
import Derived.Test.YtidfgfgokcflfaaGreatShelf
import Derived.Test.YtidfgfgokcflfaaGreatSeqs2
/- A word of n letters has at most n different squares (by the circuits of its graphs of factors): plain facts. No conditions beyond those that each fact states. -/
namespace Go.Proofs.YtidfgfgokcflfaaGreat.Plain
set_option linter.unusedSimpArgs false
set_option linter.unusedVariables false
/-- Different elements that all stand in a list are no more than it has. -/
theorem len_le {α : Type} [DecidableEq α] : ∀ (l m : List α), l.Nodup → (∀ x ∈ l, x ∈ m) → l.length ≤ m.length
  | [], m, _, _ => Nat.zero_le _
  | x :: l, m, hn, hs => by
    have hx := hs x (by simp)
    have h1 := List.nodup_cons.1 hn
    have ih := len_le l (m.erase x) h1.2 fun y hy => by
      have hne : y ≠ x := fun e => h1.1 (e ▸ hy)
      exact (List.mem_erase_of_ne hne).2 (hs y (by simp [hy]))
    have h2 := List.length_erase_of_mem hx
    have h3 : 0 < m.length := List.length_pos_of_mem hx
    rw [List.length_cons]
    omega
theorem nodup_filter {α : Type} {l : List α} (p : α → Bool) (h : l.Nodup) : (l.filter p).Nodup := List.Pairwise.filter p h
theorem nodup_map {α β : Type} {l : List α} {f : α → β} (h : l.Nodup) (hf : ∀ x ∈ l, ∀ y ∈ l, f x = f y → x = y) : (l.map f).Nodup := by
  induction l with
  | nil => exact List.nodup_nil
  | cons a l ih =>
    have h1 := List.nodup_cons.1 h
    rw [List.map_cons, List.nodup_cons]
    refine ⟨fun hm => ?_, ih h1.2 fun x hx y hy => hf x (by simp [hx]) y (by simp [hy])⟩
    obtain ⟨y, hy, he⟩ := List.mem_map.1 hm
    have := hf y (by simp [hy]) a (by simp) he
    exact h1.1 (this ▸ hy)
theorem sd_nodup {l : List (List Int)} (h : SD l) : l.Nodup := List.Pairwise.imp (fun {u v} h e => by rw [e, cmpW_self] at h; omega) h
/-- A naming of vertices that joins the ends of each edge of a list gives at least as many names as there are vertices, less the edges. -/
theorem join {α : Type} [DecidableEq α] (F : List (α × α)) : ∃ c : α → α, (∀ p ∈ F, c p.1 = c p.2) ∧ ∀ V : List α, V.Nodup → ∃ M : List α, M.Nodup ∧ (∀ x ∈ M, ∃ v ∈ V, c v = x) ∧ V.length ≤ M.length + F.length := by
  induction F with
  | nil => exact ⟨id, (fun p h => by cases h), fun V hV => ⟨V, hV, fun x hx => ⟨x, hx, rfl⟩, by simp⟩⟩
  | cons q F ih =>
    obtain ⟨c, h1, h2⟩ := ih
    refine ⟨fun v => if c v = c q.1 then c q.2 else c v, fun p hp => ?_, fun V hV => ?_⟩
    · rcases List.mem_cons.1 hp with rfl | hp
      · by_cases e : c p.2 = c p.1
        · simp [e]
        · simp [e]
      · have := h1 p hp
        simp only [this]
    · obtain ⟨M, m1, m2, m3⟩ := h2 V hV
      refine ⟨M.filter fun x => decide (x ≠ c q.1), nodup_filter _ m1, fun x hx => ?_, ?_⟩
      · obtain ⟨hx1, hx2⟩ := List.mem_filter.1 hx
        obtain ⟨v, hv, rfl⟩ := m2 x hx1
        refine ⟨v, hv, if_neg ?_⟩
        simpa using hx2
      · have h5 := len_le M (c q.1 :: M.filter fun x => decide (x ≠ c q.1)) m1 fun x hx => by
          by_cases e : x = c q.1
          · simp [e]
          · exact List.mem_cons_of_mem _ (List.mem_filter.2 ⟨hx, by simpa using e⟩)
        rw [List.length_cons] at h5 ⊢
        omega
/-- The letters of a word repeated for ever; its parts. -/
def cy (l : List Int) (i : Nat) : Int := l.getD (i % l.length) 0
def pw (l : List Int) (o m : Nat) : List Int := (List.range m).map fun i => cy l (o + i)
theorem pw_len (l : List Int) (o m : Nat) : (pw l o m).length = m := by simp [pw]
theorem pw_get {l : List Int} {o m i : Nat} (h : i < m) : (pw l o m)[i]? = some (cy l (o + i)) := by simp [pw, h]
theorem pw_ext {l : List Int} {o m : Nat} {x : List Int} (hl : x.length = m) (h : ∀ i, i < m → x[i]? = some (cy l (o + i))) : x = pw l o m := by
  refine List.ext_getElem? fun i => ?_
  by_cases hi : i < m
  · rw [h i hi, pw_get hi]
  · rw [List.getElem?_eq_none (by omega), List.getElem?_eq_none (by rw [pw_len]; omega)]
theorem cy_add (l : List Int) (i : Nat) : cy l (i + l.length) = cy l i := by simp [cy]
theorem pw_shift (l : List Int) (o m : Nat) : pw l (o + l.length) m = pw l o m := by
  refine (pw_ext (pw_len _ _ _) fun i hi => ?_).symm
  rw [pw_get hi, show o + l.length + i = o + i + l.length from by omega, cy_add]
theorem pw_take {l : List Int} {o m n : Nat} (h : n ≤ m) : (pw l o m).take n = pw l o n := by
  refine pw_ext (by rw [List.length_take, pw_len]; omega) fun i hi => ?_
  rw [List.getElem?_take, if_pos hi, pw_get (by omega)]
theorem pw_drop {l : List Int} {o m d : Nat} : (pw l o m).drop d = pw l (o + d) (m - d) := by
  refine pw_ext (by rw [List.length_drop, pw_len]) fun i hi => ?_
  rw [List.getElem?_drop, pw_get (by omega), Nat.add_assoc]
theorem pw_self (l : List Int) : pw l 0 l.length = l := by
  refine (pw_ext rfl fun i hi => ?_).symm
  rw [Nat.zero_add, cy, Nat.mod_eq_of_lt hi, List.getD_eq_getElem?_getD, List.getElem?_eq_getElem hi]
  rfl
theorem cy_pw {l : List Int} {d k : Nat} (hk : l.length = k) (h : 0 < k) (i : Nat) : cy (pw l d k) i = cy l (d + i) := by
  have hm : i % k < k := Nat.mod_lt _ h
  unfold cy
  rw [pw_len, List.getD_eq_getElem?_getD, pw_get hm]
  show cy l (d + i % k) = l.getD ((d + i) % l.length) 0
  unfold cy
  rw [hk, Nat.add_mod_mod]
theorem pw_pw {l : List Int} {d k o m : Nat} (hk : l.length = k) (h : 0 < k) : pw (pw l d k) o m = pw l (d + o) m := by
  refine pw_ext (pw_len _ _ _) fun i hi => ?_
  rw [pw_get hi, cy_pw hk h, Nat.add_assoc]
/-- No turn of the word but a whole one gives it back; it is the first of its turns. -/
def Prim (l : List Int) : Prop := 0 < l.length ∧ ∀ d, 0 < d → d < l.length → pw l d l.length ≠ l
def Lst (l : List Int) : Prop := ∀ d, cmpW l (pw l d l.length) ≤ 0
theorem cmpW_pre (x y z : List Int) : cmpW (x ++ y) (x ++ z) = cmpW y z := by
  induction x with
  | nil => rfl
  | cons a x ih => simp [cmpW, ih]
theorem cmpW_suf : ∀ (z y x : List Int), z.length = y.length → cmpW (z ++ x) (y ++ x) = cmpW z y
  | [], [], x, _ => by simp [cmpW, cmpW_self]
  | a :: z, b :: y, x, h => by
    have ih := cmpW_suf z y x (by simpa using h)
    simp [cmpW, ih]
  | [], _ :: _, _, h => by simp at h
  | _ :: _, [], _, h => by simp at h
theorem pw_turn {l : List Int} {d : Nat} (h : d ≤ l.length) : pw l d l.length = l.drop d ++ l.take d := by
  refine (pw_ext (by simp; omega) fun i hi => ?_).symm
  by_cases e : d + i < l.length
  · rw [List.getElem?_append_left (by rw [List.length_drop]; omega), List.getElem?_drop, cy, Nat.mod_eq_of_lt e, List.getD_eq_getElem?_getD, List.getElem?_eq_getElem e]
    rfl
  · have e2 : (d + i) % l.length = d + i - l.length := by rw [Nat.mod_eq_sub_mod (by omega), Nat.mod_eq_of_lt (by omega)]
    rw [List.getElem?_append_right (by rw [List.length_drop]; omega), List.length_drop, List.getElem?_take, if_pos (by omega), cy, e2, List.getD_eq_getElem?_getD, show i - (l.length - d) = d + i - l.length from by omega, List.getElem?_eq_getElem (by omega)]
    rfl
/-- Such a word has no period less than its length. -/
theorem unb {l : List Int} (hp : Prim l) (hl : Lst l) {p : Nat} (h0 : 0 < p) (h1 : p < l.length) : ¬ ∀ i, i + p < l.length → l[i + p]? = l[i]? := by
  intro h
  have hx : l.drop p = l.take (l.length - p) := by
    refine List.ext_getElem? fun i => ?_
    rw [List.getElem?_drop, List.getElem?_take]
    by_cases hi : i < l.length - p
    · rw [if_pos hi, Nat.add_comm, h i (by omega)]
    · rw [if_neg hi, List.getElem?_eq_none (by omega)]
  have e1 := List.take_append_drop (l.length - p) l
  have e2 := List.take_append_drop p l
  have t1 := pw_turn (l := l) (d := p) (by omega)
  have t2 := pw_turn (l := l) (d := l.length - p) (by omega)
  have l1 := hl p
  have l2 := hl (l.length - p)
  rw [t1, hx] at l1
  rw [t2] at l2
  rw [hx] at e2
  have hne := hp.2 (l.length - p) (by omega) (by omega)
  rw [t2] at hne
  have hly : (l.drop (l.length - p)).length = p := by rw [List.length_drop]; omega
  have hlz : (l.take p).length = p := by rw [List.length_take]; omega
  generalize l.take (l.length - p) = x at *
  generalize l.drop (l.length - p) = y at *
  generalize l.take p = z at *
  have c1 : cmpW y z ≤ 0 := by
    have : cmpW l (x ++ z) = cmpW y z := by rw [← e1, cmpW_pre]
    omega
  have c2 : cmpW z y ≤ 0 := by
    have : cmpW l (y ++ x) = cmpW z y := by rw [← e2, cmpW_suf _ _ _ (by omega)]
    omega
  have c3 := cmpW_neg y z
  have hyz := cmpW_zero y z (by omega)
  subst hyz
  exact hne e2
theorem exists_least (q : List Int) (h : Prim q) : ∃ a, a < q.length ∧ Prim (pw q a q.length) ∧ Lst (pw q a q.length) := by
  have hne : sdl ((List.range q.length).map fun d => pw q d q.length) ≠ [] := fun e => by
    have := (sdl_mem ((List.range q.length).map fun d => pw q d q.length) (pw q 0 q.length)).2 (List.mem_map.2 ⟨0, List.mem_range.2 h.1, rfl⟩)
    rw [e] at this
    cases this
  have hsd := sdl_sd ((List.range q.length).map fun d => pw q d q.length)
  cases hs : sdl ((List.range q.length).map fun d => pw q d q.length) with
  | nil => exact absurd hs hne
  | cons r l =>
    have hr : r ∈ (List.range q.length).map fun d => pw q d q.length := (sdl_mem _ _).1 (by rw [hs]; simp)
    obtain ⟨a, ha, rfl⟩ := List.mem_map.1 hr
    have hal := List.mem_range.1 ha
    have hk := h.1
    refine ⟨a, hal, ⟨by rw [pw_len]; exact hk, fun d h1 h2 e => ?_⟩, fun d => ?_⟩
    · rw [pw_len] at h2 e
      rw [pw_pw rfl hk] at e
      refine h.2 d h1 h2 ?_
      have e3 : pw (pw q a q.length) (q.length - a + d) q.length = pw (pw q a q.length) (q.length - a) q.length := by
        rw [pw_pw rfl hk, pw_pw rfl hk]
        refine pw_ext (pw_len _ _ _) fun i hi => ?_
        rw [pw_get hi]
        have h5 := congrArg (fun x => cy x (q.length - a + i)) e
        rw [cy_pw rfl hk, cy_pw rfl hk] at h5
        rw [show a + (q.length - a + d) + i = a + d + (q.length - a + i) from by omega, h5, show a + (q.length - a) + i = a + (q.length - a + i) from by omega]
      rw [pw_pw rfl hk, pw_pw rfl hk, show a + (q.length - a + d) = d + q.length from by omega, show a + (q.length - a) = 0 + q.length from by omega, pw_shift, pw_shift, pw_self] at e3
      exact e3
    · rw [pw_len, pw_pw rfl hk]
      have hmod : pw q (a + d) q.length = pw q ((a + d) % q.length) q.length := by
        refine pw_ext (pw_len _ _ _) fun i hi => ?_
        rw [pw_get hi]
        unfold cy
        rw [Nat.mod_add_mod]
      have hin : pw q ((a + d) % q.length) q.length ∈ (List.range q.length).map fun d => pw q d q.length := List.mem_map.2 ⟨_, List.mem_range.2 (Nat.mod_lt _ hk), rfl⟩
      rw [hmod]
      have h6 := (sdl_mem _ _).2 hin
      rw [hs] at h6 hsd
      rcases List.mem_cons.1 h6 with h7 | h7
      · rw [h7, cmpW_self]; omega
      · have := (List.pairwise_cons.1 hsd).1 _ h7
        omega
/-- A square as a part of a word repeated for ever, that word the first of its turns. -/
def SqOf (s l : List Int) (o i : Nat) : Prop := Prim l ∧ Lst l ∧ o < l.length ∧ 0 < i ∧ s = pw l o (2 * (i * l.length))
theorem sq_of {t : List Int} (h : 0 < t.length) : ∃ l o i, SqOf (t ++ t) l o i := by
  -- the least turn that gives t back
  have hex : ∃ d, 0 < d ∧ d ≤ t.length ∧ (∀ i, cy t (i + d) = cy t i) ∧ ∀ e, 0 < e → (∀ i, cy t (i + e) = cy t i) → d ≤ e := by
    have key : ∀ n d, d ≤ n → 0 < d → (∀ i, cy t (i + d) = cy t i) → ∃ d', 0 < d' ∧ d' ≤ d ∧ (∀ i, cy t (i + d') = cy t i) ∧ ∀ e, 0 < e → (∀ i, cy t (i + e) = cy t i) → d' ≤ e := fun n => by
      induction n with
      | zero => intro d h1 h2; omega
      | succ n ih =>
        intro d h1 h2 h3
        by_cases hc : ∃ e, 0 < e ∧ e < d ∧ ∀ i, cy t (i + e) = cy t i
        · obtain ⟨e, e1, e2, e3⟩ := hc
          obtain ⟨d', a1, a2, a3, a4⟩ := ih e (by omega) e1 e3
          exact ⟨d', a1, by omega, a3, a4⟩
        · exact ⟨d, h2, Nat.le_refl _, h3, fun e e1 e2 => Nat.le_of_not_lt fun hlt => hc ⟨e, e1, hlt, e2⟩⟩
    exact key t.length t.length (Nat.le_refl _) h (cy_add t)
  obtain ⟨d, hd0, hdl, hper, hmin⟩ := hex
  have hmul : ∀ m i, cy t (i + m * d) = cy t i := fun m => by
    induction m with
    | zero => intro i; simp
    | succ m ih => intro i; rw [Nat.succ_mul, ← Nat.add_assoc, hper, ih]
  have hdvd : t.length % d = 0 := by
    refine Nat.eq_zero_of_not_pos fun hpos => ?_
    have := hmin (t.length % d) hpos fun i => by
      rw [← hmul (t.length / d) (i + t.length % d), show i + t.length % d + t.length / d * d = i + t.length from by have := Nat.mod_add_div t.length d; rw [Nat.mul_comm] at this; omega, cy_add]
    have := Nat.mod_lt t.length hd0
    omega
  have hql : (t.take d).length = d := by rw [List.length_take]; omega
  have hcy : ∀ i, cy (t.take d) i = cy t i := fun i => by
    have h1 : i % d < d := Nat.mod_lt _ hd0
    have h2 := hmul (i / d) (i % d)
    rw [show i % d + i / d * d = i from by have := Nat.mod_add_div i d; rw [Nat.mul_comm] at this; omega] at h2
    rw [h2]
    unfold cy
    rw [hql, Nat.mod_eq_of_lt (show i % d < t.length by omega), List.getD_eq_getElem?_getD, List.getD_eq_getElem?_getD, List.getElem?_take, if_pos h1]
  have hprim : Prim (t.take d) := ⟨by omega, fun e e1 e2 h5 => by
    rw [hql] at e2
    have := hmin e e1 fun i => by
      have h6 := congrArg (fun x => cy x i) h5
      rw [cy_pw rfl (by omega), hcy, hcy] at h6
      rw [Nat.add_comm]
      exact h6
    omega⟩
  obtain ⟨a, ha, hp2, hl2⟩ := exists_least _ hprim
  rw [hql] at ha hp2 hl2
  refine ⟨pw (t.take d) a d, (d - a) % d, t.length / d, hp2, hl2, by rw [pw_len]; exact Nat.mod_lt _ hd0, Nat.div_pos hdl hd0, ?_⟩
  have hPd : t.length / d * d = t.length := by have := Nat.mod_add_div t.length d; rw [Nat.mul_comm] at this; omega
  rw [pw_len, hPd]
  refine pw_ext (by rw [List.length_append]; omega) fun i hi => ?_
  have hc : cy (pw (t.take d) a d) ((d - a) % d + i) = cy t i := by
    rw [cy_pw hql hd0, hcy]
    by_cases h0 : a = 0
    · subst h0
      rw [Nat.sub_zero, Nat.mod_self]
      congr 1
      omega
    · rw [Nat.mod_eq_of_lt (by omega), show a + (d - a + i) = i + d from by omega, hper]
  rw [hc]
  by_cases hlt : i < t.length
  · rw [List.getElem?_append_left hlt, cy, Nat.mod_eq_of_lt hlt, List.getD_eq_getElem?_getD, List.getElem?_eq_getElem hlt]
    rfl
  · rw [List.getElem?_append_right (by omega), cy, Nat.mod_eq_sub_mod (by omega), Nat.mod_eq_of_lt (by omega), List.getD_eq_getElem?_getD, List.getElem?_eq_getElem (by omega)]
    rfl

/-- The parts of n letters. -/
def wn (u : List Int) (n : Nat) : List (List Int) := (List.range (u.length + 1 - n)).map fun i => (u.drop i).take n
theorem wn_mem {u : List Int} {n : Nat} {x : List Int} : x ∈ wn u n ↔ ∃ i, i + n ≤ u.length ∧ x = (u.drop i).take n ∨ (i < u.length + 1 - n ∧ x = (u.drop i).take n) := by
  unfold wn
  rw [List.mem_map]
  constructor
  · rintro ⟨i, hi, rfl⟩
    exact ⟨i, .inr ⟨List.mem_range.1 hi, rfl⟩⟩
  · rintro ⟨i, ⟨h, rfl⟩ | ⟨h, rfl⟩⟩
    · exact ⟨i, List.mem_range.2 (by omega), rfl⟩
    · exact ⟨i, List.mem_range.2 h, rfl⟩
theorem wn_in {u : List Int} {n i : Nat} (h : i + n ≤ u.length) : (u.drop i).take n ∈ wn u n := wn_mem.2 ⟨i, .inl ⟨h, rfl⟩⟩
theorem wn_at {u : List Int} {n : Nat} {x : List Int} (hn : n ≤ u.length) (h : x ∈ wn u n) : ∃ i, i + n ≤ u.length ∧ x = (u.drop i).take n := by
  obtain ⟨i, h1 | h1⟩ := wn_mem.1 h
  · exact ⟨i, h1⟩
  · exact ⟨i, by omega, h1.2⟩
/-- What is known of a list of squares of a word: its words are different parts of it, each a part of its first turn repeated. -/
structure Sqs (u : List Int) (S : List (List Int)) (lam : List Int → List Int) (off ex : List Int → Nat) : Prop where
  nd : S.Nodup
  part : ∀ s ∈ S, ∃ a, a + s.length ≤ u.length ∧ s = (u.drop a).take s.length
  form : ∀ s ∈ S, SqOf s (lam s) (off s) (ex s)
section
variable {u : List Int} {S : List (List Int)} {lam : List Int → List Int} {off ex : List Int → Nat}
/-- The same turns, a lesser length; the same length, earlier in the order of words. -/
def lesser (lam : List Int → List Int) (s t : List Int) : Bool := decide (lam t = lam s) && decide (t.length < s.length)
def equalB (lam : List Int → List Int) (s t : List Int) : Bool := decide (lam t = lam s) && decide (t.length = s.length ∧ cmpW t s < 0)
def bef (lam : List Int → List Int) (s t : List Int) : Bool := lesser lam s t || equalB lam s t
def rank (lam : List Int → List Int) (S : List (List Int)) (s : List Int) : Nat := (S.filter (bef lam s)).length
def lev (lam : List Int → List Int) (S : List (List Int)) (s : List Int) : Nat := (lam s).length + rank lam S s
theorem bef_iff {s t : List Int} : bef lam s t = true ↔ lam t = lam s ∧ (t.length < s.length ∨ t.length = s.length ∧ cmpW t s < 0) := by
  simp only [bef, lesser, equalB, Bool.or_eq_true, Bool.and_eq_true, decide_eq_true_eq]
  constructor
  · rintro (⟨h1, h2⟩ | ⟨h1, h2⟩)
    · exact ⟨h1, .inl h2⟩
    · exact ⟨h1, .inr h2⟩
  · rintro ⟨h1, h2 | h2⟩
    · exact .inl ⟨h1, h2⟩
    · exact .inr ⟨h1, h2⟩
theorem rank_lt {s t : List Int} (hn : S.Nodup) (ht : t ∈ S) (h : bef lam s t = true) : rank lam S t < rank lam S s := by
  have h0 := bef_iff.1 h
  have h1 := len_le (t :: S.filter (bef lam t)) (S.filter (bef lam s)) (List.nodup_cons.2 ⟨fun hm => ?_, nodup_filter _ hn⟩) fun x hx => ?_
  · rw [List.length_cons] at h1
    unfold rank
    omega
  · have := bef_iff.1 (List.mem_filter.1 hm).2
    rw [cmpW_self] at this
    omega
  · rcases List.mem_cons.1 hx with rfl | hx
    · exact List.mem_filter.2 ⟨ht, h⟩
    · obtain ⟨hx1, hx2⟩ := List.mem_filter.1 hx
      have h2 := bef_iff.1 hx2
      refine List.mem_filter.2 ⟨hx1, bef_iff.2 ⟨h2.1.trans h0.1, ?_⟩⟩
      rcases h2.2 with h3 | h3 <;> rcases h0.2 with h4 | h4
      · exact .inl (by omega)
      · exact .inl (by omega)
      · exact .inl (by omega)
      · exact .inr ⟨by omega, cmpW_trans _ _ _ h3.2 h4.2⟩
theorem rank_inj {s t : List Int} (hn : S.Nodup) (hs : s ∈ S) (ht : t ∈ S) (hl : lam s = lam t) (h : rank lam S s = rank lam S t) : s = t := by
  by_cases h1 : s.length < t.length
  · have := rank_lt (lam := lam) (s := t) hn hs (bef_iff.2 ⟨hl, .inl h1⟩); omega
  · by_cases h2 : t.length < s.length
    · have := rank_lt (lam := lam) (s := s) hn ht (bef_iff.2 ⟨hl.symm, .inl h2⟩); omega
    · rcases cmpW_three s t with h3 | h3 | h3
      · have := rank_lt (lam := lam) (s := t) hn hs (bef_iff.2 ⟨hl, .inr ⟨by omega, by omega⟩⟩); omega
      · exact cmpW_zero _ _ h3
      · have h4 := cmpW_neg s t
        have := rank_lt (lam := lam) (s := s) hn ht (bef_iff.2 ⟨hl.symm, .inr ⟨by omega, by omega⟩⟩); omega
/-- All squares of a turn with an exponent up to twice j. -/
def allSq (l : List Int) : Nat → List (List Int)
  | 0 => []
  | j + 1 => allSq l j ++ (List.range l.length).map fun o => pw l o (2 * ((j + 1) * l.length))
theorem allSq_len (l : List Int) : ∀ j, (allSq l j).length = j * l.length := fun j => by
  induction j with
  | zero => simp [allSq]
  | succ j ih => rw [allSq, List.length_append, ih, List.length_map, List.length_range, Nat.succ_mul]
theorem allSq_in {l : List Int} {o i : Nat} (h0 : 0 < i) (ho : o < l.length) : ∀ j, i ≤ j → pw l o (2 * (i * l.length)) ∈ allSq l j := fun j => by
  induction j with
  | zero => intro h; omega
  | succ j ih =>
    intro h
    rw [allSq, List.mem_append]
    by_cases e : i = j + 1
    · subst e
      exact .inr (List.mem_map.2 ⟨o, List.mem_range.2 ho, rfl⟩)
    · exact .inl (ih (by omega))
theorem sq_length (h : Sqs u S lam off ex) {s : List Int} (hs : s ∈ S) : s.length = 2 * (ex s * (lam s).length) := by
  have := (h.form s hs).2.2.2.2
  have h2 := congrArg List.length this
  rw [pw_len] at h2
  exact h2
theorem lesser_len (h : Sqs u S lam off ex) {s : List Int} (hs : s ∈ S) : (S.filter (lesser lam s)).length ≤ (ex s - 1) * (lam s).length := by
  rw [← allSq_len]
  refine len_le _ _ (nodup_filter _ h.nd) fun t ht => ?_
  obtain ⟨h1, h2⟩ := List.mem_filter.1 ht
  simp only [lesser, Bool.and_eq_true, decide_eq_true_eq] at h2
  obtain ⟨h3, h4⟩ := h2
  have h5 := h.form t h1
  have h6 := sq_length h h1
  have h7 := sq_length h hs
  rw [h3] at h5 h6
  have hlt : ex t < ex s := by
    refine Nat.lt_of_mul_lt_mul_right (a := (lam s).length) ?_
    omega
  rw [h5.2.2.2.2]
  exact allSq_in h5.2.2.2.1 h5.2.2.1 _ (by omega)
theorem rank_le (h : Sqs u S lam off ex) {s : List Int} (hs : s ∈ S) : rank lam S s ≤ (ex s - 1) * (lam s).length + (S.filter (equalB lam s)).length := by
  have h1 := len_le (S.filter (bef lam s)) (S.filter (lesser lam s) ++ S.filter (equalB lam s)) (nodup_filter _ h.nd) fun x hx => by
    obtain ⟨h2, h3⟩ := List.mem_filter.1 hx
    rw [bef, Bool.or_eq_true] at h3
    rw [List.mem_append]
    rcases h3 with h3 | h3
    · exact .inl (List.mem_filter.2 ⟨h2, h3⟩)
    · exact .inr (List.mem_filter.2 ⟨h2, h3⟩)
  rw [List.length_append] at h1
  have := lesser_len h hs
  unfold rank
  omega
/-- How far one place lies behind another one, round the turn. -/
def gap (k o a : Nat) : Nat := if a ≤ o then o - a else o + k - a
/-- One of the squares of this length begins close enough. -/
theorem near (h : Sqs u S lam off ex) {s : List Int} (hs : s ∈ S) {o : Nat} (ho : o < (lam s).length) : ∃ t ∈ S, lam t = lam s ∧ t.length = s.length ∧ gap (lam s).length o (off t) + (S.filter (equalB lam s)).length + 1 ≤ (lam s).length := by
  refine Classical.byContradiction fun hno => ?_
  have hfar : ∀ t ∈ S, lam t = lam s → t.length = s.length → (lam s).length < gap (lam s).length o (off t) + (S.filter (equalB lam s)).length + 1 := fun t h1 h2 h3 => Nat.lt_of_not_le fun h4 => hno ⟨t, h1, h2, h3, h4⟩
  have hall : ∀ t ∈ s :: S.filter (equalB lam s), t ∈ S ∧ lam t = lam s ∧ t.length = s.length := fun t ht => by
    rcases List.mem_cons.1 ht with rfl | ht
    · exact ⟨hs, rfl, rfl⟩
    · obtain ⟨h1, h2⟩ := List.mem_filter.1 ht
      simp only [equalB, Bool.and_eq_true, decide_eq_true_eq] at h2
      exact ⟨h1, h2.1, h2.2.1⟩
  have hnd : (s :: S.filter (equalB lam s)).Nodup := List.nodup_cons.2 ⟨fun hm => by
    have := (List.mem_filter.1 hm).2
    simp [equalB, cmpW_self] at this, nodup_filter _ h.nd⟩
  obtain ⟨T, hT⟩ : ∃ T, T = (S.filter (equalB lam s)).length := ⟨_, rfl⟩
  obtain ⟨k, hk⟩ : ∃ k, k = (lam s).length := ⟨_, rfl⟩
  rw [← hT, ← hk] at hfar
  rw [← hk] at ho
  have h5 := len_le (s :: S.filter (equalB lam s)) ((List.range T).map fun j => pw (lam s) (o + (T - j)) s.length) hnd fun t ht => by
    obtain ⟨h1, h2, h3⟩ := hall t ht
    have h6 := hfar t h1 h2 h3
    have h7 := h.form t h1
    have h8 := sq_length h h1
    rw [h2] at h7
    rw [h2, ← hk] at h8
    have hof : off t < k := by have := h7.2.2.1; omega
    have hg : gap k o (off t) < k := by unfold gap; split <;> omega
    have h9 : t = pw (lam s) (off t) s.length := by
      have h10 := h7.2.2.2.2
      rw [← hk, ← h8, h3] at h10
      exact h10
    refine List.mem_map.2 ⟨gap k o (off t) + T - k, List.mem_range.2 (by omega), ?_⟩
    refine Eq.trans ?_ h9.symm
    rw [show T - (gap k o (off t) + T - k) = k - gap k o (off t) from by omega]
    unfold gap
    by_cases e : off t ≤ o
    · rw [if_pos e, show o + (k - (o - off t)) = off t + (lam s).length from by omega, pw_shift]
    · rw [if_neg e, show o + (k - (o + k - off t)) = off t from by omega]
  rw [List.length_cons, List.length_map, List.length_range, ← hT] at h5
  omega
/-- All parts of n + 1 letters of the turn are parts of the word, n the square's level. -/
theorem full (h : Sqs u S lam off ex) {s : List Int} (hs : s ∈ S) {o : Nat} (ho : o < (lam s).length) : ∃ a, a + (lev lam S s + 1) ≤ u.length ∧ pw (lam s) o (lev lam S s + 1) = (u.drop a).take (lev lam S s + 1) := by
  obtain ⟨t, h1, h2, h3, h4⟩ := near h hs ho
  have h5 := rank_le h hs
  have h6 := h.form t h1
  have h7 := sq_length h hs
  have hex := (h.form s hs).2.2.2.1
  obtain ⟨a, ha, hta⟩ := h.part t h1
  have hexk : (lam s).length + (ex s - 1) * (lam s).length = ex s * (lam s).length := by
    obtain ⟨m, hm⟩ : ∃ m, ex s = m + 1 := ⟨ex s - 1, by omega⟩
    rw [hm, Nat.add_sub_cancel, Nat.succ_mul]; omega
  have hk1 : (lam s).length ≤ ex s * (lam s).length := by omega
  have hfit : gap (lam s).length o (off t) + (lev lam S s + 1) ≤ s.length := by unfold lev; omega
  have h8 : t = pw (lam s) (off t) s.length := by
    have := h6.2.2.2.2
    have h9 := sq_length h h1
    rw [← h9, h2, h3] at this
    exact this
  have hof : off t < (lam s).length := by have := h6.2.2.1; rwa [h2] at this
  refine ⟨a + gap (lam s).length o (off t), by omega, ?_⟩
  have h9 : (t.drop (gap (lam s).length o (off t))).take (lev lam S s + 1) = pw (lam s) (off t + gap (lam s).length o (off t)) (lev lam S s + 1) := by
    refine (congrArg (fun x => (x.drop (gap (lam s).length o (off t))).take (lev lam S s + 1)) h8).trans ?_
    show ((pw (lam s) (off t) s.length).drop (gap (lam s).length o (off t))).take (lev lam S s + 1) = _
    rw [pw_drop, pw_take (by omega)]
  have h10 : (t.drop (gap (lam s).length o (off t))).take (lev lam S s + 1) = (u.drop (a + gap (lam s).length o (off t))).take (lev lam S s + 1) := by
    refine (congrArg (fun x => (x.drop (gap (lam s).length o (off t))).take (lev lam S s + 1)) hta).trans ?_
    show (((u.drop a).take t.length).drop (gap (lam s).length o (off t))).take (lev lam S s + 1) = _
    rw [List.drop_take, List.drop_drop, List.take_take, Nat.min_eq_left (by omega)]
  rw [← h10, h9]
  unfold gap
  by_cases e : off t ≤ o
  · rw [if_pos e, show off t + (o - off t) = o from by omega]
  · rw [if_neg e, show off t + (o + (lam s).length - off t) = o + (lam s).length from by omega, pw_shift]
theorem lev_pos (h : Sqs u S lam off ex) {s : List Int} (hs : s ∈ S) : (lam s).length ≤ lev lam S s ∧ 0 < (lam s).length ∧ lev lam S s + 1 ≤ u.length := by
  have h1 := (h.form s hs).1.1
  obtain ⟨a, ha, _⟩ := full h hs h1
  exact ⟨by unfold lev; omega, h1, by omega⟩
/-- A part of a turn that begins with a lesser one's first turn: the other one is lesser. -/
theorem cross (h : Sqs u S lam off ex) {s t : List Int} (hs : s ∈ S) (ht : t ∈ S) {n o : Nat} (hsn : (lam s).length ≤ n) (htn : (lam t).length ≤ n) (he : pw (lam s) o (n + 1) = pw (lam t) 0 (n + 1)) : (lam t).length ≤ (lam s).length := by
  refine Nat.le_of_not_lt fun hlt => ?_
  have hT := h.form t ht
  have hS := (h.form s hs).1.1
  refine unb hT.1 hT.2.1 (p := (lam s).length) hS hlt fun i hi => ?_
  have e1 : ∀ j, j < (lam t).length → (lam t)[j]? = some (cy (lam s) (o + j)) := fun j hj => by
    have h1 := congrArg (fun x => x[j]?) he
    rw [pw_get (by omega), pw_get (by omega), Nat.zero_add] at h1
    rw [h1]
    conv => lhs; rw [← pw_self (lam t)]
    rw [pw_get hj, Nat.zero_add]
  rw [e1 _ hi, e1 i (by omega), show o + (i + (lam s).length) = o + i + (lam s).length from by omega, cy_add]
theorem same_turn (h : Sqs u S lam off ex) {s t : List Int} (hs : s ∈ S) (ht : t ∈ S) {n o : Nat} (ho : o < (lam s).length) (hsn : (lam s).length ≤ n) (htn : (lam t).length ≤ n) (he : pw (lam s) o (n + 1) = pw (lam t) 0 (n + 1)) (hk : (lam t).length = (lam s).length) : o = 0 ∧ lam s = lam t := by
  have hT := h.form t ht
  have hS := h.form s hs
  have h1 := congrArg (List.take (lam s).length) he
  rw [pw_take (by omega), pw_take (by omega)] at h1
  have h2 : pw (lam t) 0 (lam s).length = lam t := by rw [← hk, pw_self]
  rw [h2] at h1
  -- both are first among the same turns
  have c1 : cmpW (lam s) (lam t) ≤ 0 := by rw [← h1]; exact hS.2.1 o
  have c2 : cmpW (lam t) (lam s) ≤ 0 := by
    have h3 := hT.2.1 ((lam s).length - o)
    have h4 : pw (lam t) ((lam s).length - o) (lam t).length = lam s := by
      rw [hk, ← h1, pw_pw rfl hS.1.1, show o + ((lam s).length - o) = 0 + (lam s).length from by omega, pw_shift, pw_self]
    rwa [h4] at h3
  have c3 := cmpW_neg (lam s) (lam t)
  have he2 := cmpW_zero (lam s) (lam t) (by omega)
  refine ⟨Nat.eq_zero_of_not_pos fun h0 => ?_, he2⟩
  exact hS.1.2 o h0 ho (h1.trans he2.symm)
/-- The squares of one level are no more than the edges there, less the vertices, and one. -/
theorem level_le (h : Sqs u S lam off ex) {n : Nat} (hn : 1 ≤ n) (hu : n + 1 ≤ u.length) : (S.filter fun s => decide (lev lam S s = n)).length + (sdl (wn u n)).length ≤ (sdl (wn u (n + 1))).length + 1 := by
  obtain ⟨Q, hQ⟩ : ∃ Q, Q = S.filter fun s => decide (lev lam S s = n) := ⟨_, rfl⟩
  obtain ⟨E, hE⟩ : ∃ E, E = sdl (wn u (n + 1)) := ⟨_, rfl⟩
  obtain ⟨V, hV⟩ : ∃ V, V = sdl (wn u n) := ⟨_, rfl⟩
  rw [← hQ, ← hE, ← hV]
  have hQm : ∀ s, s ∈ Q ↔ s ∈ S ∧ lev lam S s = n := fun s => by rw [hQ, List.mem_filter, decide_eq_true_eq]
  have hEm : ∀ x, x ∈ E ↔ x ∈ wn u (n + 1) := fun x => by rw [hE]; exact sdl_mem _ _
  have hVm : ∀ x, x ∈ V ↔ x ∈ wn u n := fun x => by rw [hV]; exact sdl_mem _ _
  have hEn : E.Nodup := by rw [hE]; exact sd_nodup (sdl_sd _)
  have hVn : V.Nodup := by rw [hV]; exact sd_nodup (sdl_sd _)
  have hQn : Q.Nodup := by rw [hQ]; exact nodup_filter _ h.nd
  obtain ⟨R, hR⟩ : ∃ R, R = Q.map fun s => pw (lam s) 0 (n + 1) := ⟨_, rfl⟩
  have hkn : ∀ s ∈ Q, (lam s).length ≤ n ∧ 0 < (lam s).length := fun s hs => by
    obtain ⟨h1, h2⟩ := (hQm s).1 hs
    have := lev_pos h h1
    omega
  have hRn : R.Nodup := by
    rw [hR]
    refine nodup_map hQn fun s hs t ht he => ?_
    obtain ⟨s1, s2⟩ := (hQm s).1 hs
    obtain ⟨t1, t2⟩ := (hQm t).1 ht
    have ks := hkn s hs
    have kt := hkn t ht
    have l1 := cross h s1 t1 ks.1 kt.1 he
    have l2 := cross h t1 s1 kt.1 ks.1 he.symm
    have hl := (same_turn h s1 t1 ks.2 ks.1 kt.1 he (by omega)).2
    refine rank_inj h.nd s1 t1 hl ?_
    unfold lev at s2 t2
    rw [hl] at s2
    omega
  have hEdge : ∀ s ∈ Q, ∀ o, o < (lam s).length → pw (lam s) o (n + 1) ∈ E := fun s hs o ho => by
    obtain ⟨s1, s2⟩ := (hQm s).1 hs
    obtain ⟨a, h1, h2⟩ := full h s1 ho
    rw [s2] at h1 h2
    rw [hEm, h2]
    exact wn_in h1
  obtain ⟨F, hF⟩ : ∃ F, F = E.filter fun x => decide (x ∉ R) := ⟨_, rfl⟩
  have hFm : ∀ x, x ∈ F ↔ x ∈ E ∧ x ∉ R := fun x => by rw [hF, List.mem_filter, decide_eq_true_eq]
  have hcount : F.length + R.length ≤ E.length := by
    have h1 := len_le (F ++ R) E (List.nodup_append.2 ⟨by rw [hF]; exact nodup_filter _ hEn, hRn, fun x hx y hy e => ((hFm x).1 hx).2 (e ▸ hy)⟩) fun x hx => by
      rcases List.mem_append.1 hx with hx | hx
      · exact ((hFm x).1 hx).1
      · rw [hR] at hx
        obtain ⟨s, hs, rfl⟩ := List.mem_map.1 hx
        exact hEdge s hs 0 (hkn s hs).2
    rw [List.length_append] at h1
    exact h1
  obtain ⟨c, hc1, hc2⟩ := join (F.map fun x => (x.take n, x.drop 1))
  have hcF : ∀ x ∈ F, c (x.take n) = c (x.drop 1) := fun x hx => hc1 _ (List.mem_map.2 ⟨x, hx, rfl⟩)
  have ends : ∀ (l : List Int) (o : Nat), (pw l o (n + 1)).take n = pw l o n ∧ (pw l o (n + 1)).drop 1 = pw l (o + 1) n := fun l o => ⟨pw_take (by omega), by rw [pw_drop, Nat.add_sub_cancel]⟩
  have hcR : ∀ k, ∀ s ∈ Q, (lam s).length = k → c (pw (lam s) 0 n) = c (pw (lam s) 1 n) := fun k => by
    induction k using Nat.strongRecOn with
    | _ k ih =>
      intro s hs hk
      have ks := hkn s hs
      have s1 := ((hQm s).1 hs).1
      have step : ∀ o, 0 < o → o < (lam s).length → c (pw (lam s) o n) = c (pw (lam s) (o + 1) n) := fun o o0 o1 => by
        have hin := hEdge s hs o o1
        by_cases hr : pw (lam s) o (n + 1) ∈ R
        · rw [hR] at hr
          obtain ⟨t, ht, he⟩ := List.mem_map.1 hr
          have t1 := ((hQm t).1 ht).1
          have kt := hkn t ht
          have hle := cross h s1 t1 ks.1 kt.1 he.symm
          have hlt : (lam t).length < k := by
            refine Nat.lt_of_le_of_ne (by omega) fun e => ?_
            have := (same_turn h s1 t1 o1 ks.1 kt.1 he.symm (by omega)).1
            omega
          have := ih _ hlt t ht rfl
          have e1 := ends (lam t) 0
          have e2 := ends (lam s) o
          rw [he] at e1
          rw [← e2.1, ← e2.2, e1.1, e1.2]
          exact this
        · have := hcF _ ((hFm _).2 ⟨hin, hr⟩)
          rw [(ends _ _).1, (ends _ _).2] at this
          exact this
      have chain : ∀ o, 1 ≤ o → o ≤ (lam s).length → c (pw (lam s) 1 n) = c (pw (lam s) o n) := fun o => by
        induction o with
        | zero => intro h1; omega
        | succ o ih2 =>
          intro h1 h2
          by_cases e : o = 0
          · subst e; rfl
          · rw [ih2 (by omega) (by omega), step o (by omega) (by omega)]
      have := chain (lam s).length (by omega) (Nat.le_refl _)
      rw [this, show (lam s).length = 0 + (lam s).length from by omega, pw_shift]
  have hcE : ∀ x ∈ E, c (x.take n) = c (x.drop 1) := fun x hx => by
    by_cases hr : x ∈ R
    · rw [hR] at hr
      obtain ⟨s, hs, rfl⟩ := List.mem_map.1 hr
      rw [(ends _ _).1, (ends _ _).2]
      exact hcR _ s hs rfl
    · exact hcF x ((hFm x).2 ⟨hx, hr⟩)
  have hwalk : ∀ i, i + n ≤ u.length → c ((u.drop i).take n) = c ((u.drop 0).take n) := fun i => by
    induction i with
    | zero => intro _; rfl
    | succ i ih =>
      intro hi
      rw [← ih (by omega)]
      have h1 := hcE _ ((hEm _).2 (wn_in (u := u) (n := n + 1) (i := i) (by omega)))
      rw [List.take_take, Nat.min_eq_left (by omega), List.drop_take, List.drop_drop, Nat.add_sub_cancel] at h1
      exact h1.symm
  obtain ⟨M, m1, m2, m3⟩ := hc2 V hVn
  have hM : M.length ≤ 1 := by
    have := len_le M [c ((u.drop 0).take n)] m1 fun x hx => by
      obtain ⟨v, hv, rfl⟩ := m2 x hx
      obtain ⟨i, hi, rfl⟩ := wn_at (by omega) ((hVm v).1 hv)
      rw [hwalk i hi]
      simp
    simpa using this
  have hRl : R.length = Q.length := by rw [hR, List.length_map]
  rw [List.length_map] at m3
  omega
theorem sqs_le (h : Sqs u S lam off ex) : S.length ≤ u.length := by
  by_cases h0 : u.length = 0
  · cases S with
    | nil => exact Nat.zero_le _
    | cons s S =>
      have := lev_pos h (s := s) (by simp)
      omega
  have key : ∀ m, m + 1 ≤ u.length → (S.filter fun s => decide (lev lam S s ≤ m)).length + (sdl (wn u 1)).length ≤ (sdl (wn u (m + 1))).length + m := fun m => by
    induction m with
    | zero =>
      intro _
      have : (S.filter fun s => decide (lev lam S s ≤ 0)).length ≤ ([] : List (List Int)).length := len_le _ _ (nodup_filter _ h.nd) fun x hx => by
        obtain ⟨h1, h2⟩ := List.mem_filter.1 hx
        have := lev_pos h h1
        rw [decide_eq_true_eq] at h2
        omega
      rw [List.length_nil] at this
      show _ ≤ (sdl (wn u 1)).length + 0
      omega
    | succ m ih =>
      intro hm
      have h1 := ih (by omega)
      have h2 := level_le h (n := m + 1) (by omega) hm
      have h3 := len_le (S.filter fun s => decide (lev lam S s ≤ m + 1)) ((S.filter fun s => decide (lev lam S s ≤ m)) ++ S.filter fun s => decide (lev lam S s = m + 1)) (nodup_filter _ h.nd) fun x hx => by
        obtain ⟨h4, h5⟩ := List.mem_filter.1 hx
        rw [decide_eq_true_eq] at h5
        rw [List.mem_append, List.mem_filter, List.mem_filter, decide_eq_true_eq, decide_eq_true_eq]
        by_cases e : lev lam S x = m + 1
        · exact .inr ⟨h4, e⟩
        · exact .inl ⟨h4, by omega⟩
      rw [List.length_append] at h3
      omega
  have h1 := key (u.length - 1) (by omega)
  have h2 := len_le S (S.filter fun s => decide (lev lam S s ≤ u.length - 1)) h.nd fun x hx => List.mem_filter.2 ⟨hx, by
    have := lev_pos h hx
    rw [decide_eq_true_eq]
    omega⟩
  have h3 := sdl_len (wn u (u.length - 1 + 1))
  have h4 : (wn u (u.length - 1 + 1)).length = 1 := by
    unfold wn
    rw [List.length_map, List.length_range]
    omega
  have h5 : 0 < (sdl (wn u 1)).length := by
    have := (sdl_mem (wn u 1) ((u.drop 0).take 1)).2 (wn_in (by omega))
    exact List.length_pos_of_mem this
  omega
end
/-- A word has at most as many different squares as letters. -/
theorem dsq_bound {u : List Int} (hu : u.length ≤ 64) : dsq u ≤ u.length := by
  have hall : ∀ s ∈ sdl (sqW u (sqV u)), ∃ a t, a + s.length ≤ u.length ∧ s = (u.drop a).take s.length ∧ 0 < t.length ∧ s = t ++ t := fun s hs => by
    obtain ⟨q, hq, rfl⟩ := List.mem_map.1 ((sdl_mem _ _).1 hs)
    obtain ⟨h1, h2, h3⟩ := (sqV_mem hu).1 hq
    have hl : ((u.drop q.1).take (2 * q.2)).length = 2 * q.2 := by rw [List.length_take, List.length_drop]; omega
    refine ⟨q.1, (u.drop q.1).take q.2, by omega, by rw [hl], by rw [List.length_take, List.length_drop]; omega, ?_⟩
    have h4 := of_decide_eq_true h3
    have h5 : (u.drop q.1).take (2 * q.2) = (u.drop q.1).take q.2 ++ (u.drop (q.1 + q.2)).take q.2 := by
      rw [show 2 * q.2 = q.2 + q.2 from by omega, List.take_add, List.drop_drop]
    rw [h5, ← h4]
  have hch : ∀ s : List Int, ∃ p : List Int × Nat × Nat, s ∈ sdl (sqW u (sqV u)) → SqOf s p.1 p.2.1 p.2.2 := fun s => by
    by_cases hs : s ∈ sdl (sqW u (sqV u))
    · obtain ⟨a, t, _, _, h3, h4⟩ := hall s hs
      obtain ⟨l, o, i, h5⟩ := sq_of h3
      exact ⟨(l, o, i), fun _ => h4 ▸ h5⟩
    · exact ⟨([], 0, 0), fun h => absurd h hs⟩
  have hc := fun s => Classical.choose_spec (hch s)
  exact sqs_le (S := sdl (sqW u (sqV u))) (lam := fun s => (Classical.choose (hch s)).1) (off := fun s => (Classical.choose (hch s)).2.1) (ex := fun s => (Classical.choose (hch s)).2.2)
    ⟨sd_nodup (sdl_sd _), fun s hs => by obtain ⟨a, t, h1, h2, _⟩ := hall s hs; exact ⟨a, h1, h2⟩, fun s hs => hc s hs⟩
end Go.Proofs.YtidfgfgokcflfaaGreat.Plain
/- What the law on powers asks: squares, overlaps and exponents of a word agree. No conditions beyond those that each fact states. -/
namespace Go.Proofs.YtidfgfgokcflfaaGreat.Plain
set_option linter.unusedSimpArgs false
theorem pow2_iff {u : List Int} : powB u 2 1 = true ↔ u.length ≤ 128 ∧ ∃ p, 0 < p ∧ p ≤ u.length ∧ 2 * p ≤ lg u p := by
  constructor
  · intro h
    simp only [powB, Bool.and_eq_true, decide_eq_true_eq, List.any_eq_true] at h
    obtain ⟨h1, e, he, h2⟩ := h
    obtain ⟨h3, h4, h5⟩ := exps_mem he
    exact ⟨h1.1, e.2, h3, h4, by rw [← h5]; omega⟩
  · rintro ⟨h1, p, h2, h3, h4⟩
    simp only [powB, Bool.and_eq_true, decide_eq_true_eq, List.any_eq_true]
    exact ⟨⟨h1, by omega, by omega, by omega, by omega⟩, _, exps_in h2 h3, by show (lg u p : Int) * 1 ≥ 2 * (p : Int); omega⟩
theorem ov_iff {u : List Int} : ovB u = true ↔ u.length ≤ 128 ∧ ∃ p, 0 < p ∧ p ≤ u.length ∧ 2 * p < lg u p := by
  constructor
  · intro h
    simp only [ovB, Bool.and_eq_true, decide_eq_true_eq, List.any_eq_true] at h
    obtain ⟨h1, e, he, h2⟩ := h
    obtain ⟨h3, h4, h5⟩ := exps_mem he
    exact ⟨h1, e.2, h3, h4, by rw [← h5]; omega⟩
  · rintro ⟨h1, p, h2, h3, h4⟩
    simp only [ovB, Bool.and_eq_true, decide_eq_true_eq, List.any_eq_true]
    exact ⟨h1, _, exps_in h2 h3, by show lg u p > 2 * p; omega⟩
theorem pow_squares {u : List Int} (h : u.length ≤ 64) : powB u 2 1 = decide (0 < (sqV u).length) := by
  rw [Bool.eq_iff_iff, pow2_iff, decide_eq_true_eq]
  constructor
  · rintro ⟨_, p, h1, h2, h3⟩
    obtain ⟨a, h4, h5⟩ := lg_at h2
    have h6 := mlen_le h4
    have : (a, p) ∈ sqV u := (sqV_mem h).2 ⟨h1, by show a + 2 * p ≤ _; omega, show sqAt u a p = true from (sq_iff (by omega)).2 (by omega)⟩
    exact List.length_pos_of_mem this
  · intro hl
    obtain ⟨s, hs⟩ := List.exists_mem_of_length_pos hl
    obtain ⟨h1, h2, h3⟩ := (sqV_mem h).1 hs
    have h4 := (sq_iff h2).1 h3
    have h5 := mlen_lg (u := u) (a := s.1) (p := s.2) (by omega)
    exact ⟨by omega, s.2, h1, by omega, by omega⟩
theorem ov_pow {u : List Int} (h : ovB u = true) : powB u 2 1 = true := by
  obtain ⟨h1, p, h2, h3, h4⟩ := ov_iff.1 h
  exact pow2_iff.2 ⟨h1, p, h2, h3, by omega⟩
theorem great_lg {u : List Int} {n p : Nat} (h : Great u n p) : p ≤ u.length ∧ n = lg u p := by
  obtain ⟨h1, ⟨a, h2, h3⟩, h4⟩ := h
  have h5 : p ≤ u.length := by omega
  obtain ⟨b, h6, h7⟩ := lg_at h5
  have h8 := h4 b p h1 h6
  have h9 := mlen_lg h2
  have h10 := Nat.le_of_mul_le_mul_right h8 h1
  exact ⟨h5, by omega⟩
theorem great_two {u : List Int} {n p : Nat} (hl : u.length ≤ 128) (h : Great u n p) : powB u 2 1 = decide (2 * p ≤ n) ∧ ovB u = decide (2 * p < n) := by
  have hg := great_lg h
  obtain ⟨h1, h2, h4⟩ := h
  refine ⟨?_, ?_⟩
  · rw [Bool.eq_iff_iff, pow2_iff, decide_eq_true_eq]
    constructor
    · rintro ⟨_, q, q1, q2, q3⟩
      obtain ⟨b, h6, h7⟩ := lg_at q2
      have h8 := h4 b q q1 h6
      rw [h7] at h8
      have h9 : 2 * q * p ≤ lg u q * p := Nat.mul_le_mul_right _ q3
      have h10 : 2 * p * q ≤ n * q := by rw [show 2 * p * q = 2 * q * p from by simp [Nat.mul_comm, Nat.mul_left_comm, Nat.mul_assoc]]; omega
      exact Nat.le_of_mul_le_mul_right h10 q1
    · intro h5
      exact ⟨hl, p, h1, hg.1, by omega⟩
  · rw [Bool.eq_iff_iff, ov_iff, decide_eq_true_eq]
    constructor
    · rintro ⟨_, q, q1, q2, q3⟩
      obtain ⟨b, h6, h7⟩ := lg_at q2
      have h8 := h4 b q q1 h6
      rw [h7] at h8
      have h9 : 2 * q * p < lg u q * p := Nat.mul_lt_mul_of_pos_right q3 h1
      have h10 : 2 * p * q < n * q := by rw [show 2 * p * q = 2 * q * p from by simp [Nat.mul_comm, Nat.mul_left_comm, Nat.mul_assoc]]; omega
      exact Nat.lt_of_mul_lt_mul_right h10
    · intro h5
      exact ⟨hl, p, h1, hg.1, by omega⟩
theorem g_two {u : List Int} (h0 : 0 < u.length) (hl : u.length ≤ 128) : 0 < gD u ∧ gN u ≤ 128 ∧ gD u ≤ 128 ∧ powB u 2 1 = decide (2 * gD u ≤ gN u) ∧ ovB u = decide (2 * gD u < gN u) := by
  have hG := mxE_great h0
  obtain ⟨e1, e2⟩ := great_two hl hG
  have hg := g_great hl hG
  have hlg := great_lg hG
  have hll := lg_le hlg.1
  have hp := hG.1
  generalize mxE (exps u u.length) = M at *
  have hgp : 0 < Nat.gcd M.1 M.2 := Nat.gcd_pos_of_pos_right _ hp
  have c1 := Nat.div_mul_cancel (Nat.gcd_dvd_left M.1 M.2)
  have c2 := Nat.div_mul_cancel (Nat.gcd_dvd_right M.1 M.2)
  have d1 := Nat.div_le_self M.1 (Nat.gcd M.1 M.2)
  have d2 := Nat.div_le_self M.2 (Nat.gcd M.1 M.2)
  rw [hg.1] at c1 d1
  rw [hg.2] at c2 d2
  generalize gN u = N at *
  generalize gD u = D at *
  generalize Nat.gcd M.1 M.2 = g at *
  have hD : 0 < D := Nat.pos_of_ne_zero fun e => by rw [e] at c2; simp at c2; omega
  refine ⟨hD, by omega, by omega, ?_, ?_⟩
  · rw [e1]
    refine decide_eq_decide.2 ⟨fun h => ?_, fun h => ?_⟩
    · rw [← c1, ← c2, ← Nat.mul_assoc] at h
      exact Nat.le_of_mul_le_mul_right h hgp
    · rw [← c1, ← c2, ← Nat.mul_assoc]
      exact Nat.mul_le_mul_right _ h
  · rw [e2]
    refine decide_eq_decide.2 ⟨fun h => ?_, fun h => ?_⟩
    · rw [← c1, ← c2, ← Nat.mul_assoc] at h
      exact Nat.lt_of_mul_lt_mul_right h
    · rw [← c1, ← c2, ← Nat.mul_assoc]
      exact Nat.mul_lt_mul_of_pos_right h hgp
/-- The word's own exponent is no greater than the greatest. -/
theorem g_own {u : List Int} (h0 : 0 < u.length) (hl : u.length ≤ 128) {l : Nat} (hg0 : 0 < l) (hgl : l ≤ u.length) (hper : PerA u 0 l u.length) : u.length / Nat.gcd u.length l * gD u ≤ gN u * (l / Nat.gcd u.length l) := by
  have hG := mxE_great h0
  have hg := g_great hl hG
  have hp := hG.1
  have h4 := hG.2.2 0 l hg0 (by omega)
  have h5 := mlen_end hper hgl (by omega)
  rw [h5] at h4
  generalize mxE (exps u u.length) = M at *
  have hgp : 0 < Nat.gcd M.1 M.2 := Nat.gcd_pos_of_pos_right _ hp
  have hgq : 0 < Nat.gcd u.length l := Nat.gcd_pos_of_pos_right _ hg0
  have c1 := Nat.div_mul_cancel (Nat.gcd_dvd_left M.1 M.2)
  have c2 := Nat.div_mul_cancel (Nat.gcd_dvd_right M.1 M.2)
  have c3 := Nat.div_mul_cancel (Nat.gcd_dvd_left u.length l)
  have c4 := Nat.div_mul_cancel (Nat.gcd_dvd_right u.length l)
  rw [hg.1] at c1
  rw [hg.2] at c2
  generalize gN u = N at *
  generalize gD u = D at *
  generalize Nat.gcd M.1 M.2 = g at *
  generalize u.length / Nat.gcd u.length l = A at *
  generalize l / Nat.gcd u.length l = B at *
  generalize Nat.gcd u.length l = k at *
  refine Nat.le_of_mul_le_mul_right (c := g * k) ?_ (Nat.mul_pos hgp hgq)
  calc A * D * (g * k) = (A * k) * (D * g) := by simp [Nat.mul_comm, Nat.mul_left_comm, Nat.mul_assoc]
    _ ≤ (N * g) * (B * k) := by rw [c1, c2, c3, c4]; exact h4
    _ = N * B * (g * k) := by simp [Nat.mul_comm, Nat.mul_left_comm, Nat.mul_assoc]
theorem per_lp {u : List Int} (h0 : 0 < u.length) : 0 < lpN u ∧ lpN u ≤ u.length ∧ PerA u 0 (lpN u) u.length := by
  obtain ⟨h1, h2, h3, _⟩ := lpN_per h0
  refine ⟨h1, h2, by omega, fun j hj hjl => ?_⟩
  have := h3 (j - lpN u) (by omega)
  rw [show j - lpN u + lpN u = j from by omega] at this
  rw [Nat.zero_add]
  exact this
end Go.Proofs.YtidfgfgokcflfaaGreat.Plain
/- A struct or an array of one-cell values that lies in a block of its own, told as a list: what it holds, and what stays of it. No conditions beyond those that each fact states. -/
namespace Go.Proofs.YtidfgfgokcflfaaGreat.Plain
open Go.RowKit
set_option linter.unusedVariables false
/-- Block b holds these cells. -/
structure CellsN (w : World) (b : Nat) (t : TypeId) (l : List Value) : Prop where
  row : w.heap[b]? = some (.cells l.toArray t (0, 0))
section
variable {w w' : World} {b : Nat} {t : TypeId} {l : List Value}
theorem CellsN.at_ (h : CellsN w b t l) {i : Nat} {x : Value} (hi : l[i]? = some x) : w.cell? ⟨b, i, none⟩ = some x := by simp [World.cell?, h.row, hi]
theorem CellsN.f (h : CellsN w b t l) (o : Nat) : w.frozen? ⟨b, o, none⟩ = false := frozen_of_row w b o _ t h.row
theorem CellsN.lt (h : CellsN w b t l) : b < w.heap.size := by
  have h1 := h.row
  rw [Array.getElem?_eq_some_iff] at h1
  exact h1.1
theorem CellsN.new (w : World) (t : TypeId) (l : List Value) : CellsN (w.alloc (.cells l.toArray t)) w.heap.size t l := ⟨heap_alloc_new w _⟩
theorem CellsN.below (h : CellsN w b t l) (hb : Below w.heap.size w w') : CellsN w' b t l := ⟨(hb.block b h.lt).trans h.row⟩
theorem CellsN.of_below {B : Nat} (h : CellsN w b t l) (hb : Below B w w') (hB : b < B) : CellsN w' b t l := ⟨(hb.block b hB).trans h.row⟩
theorem CellsN.alloc (h : CellsN w b t l) (o : Obj) : CellsN (w.alloc o) b t l := h.below ((Below.refl _ _).alloc (Nat.le_refl _) _)
theorem CellsN.drew (h : CellsN w b t l) : CellsN w.drew b t l := ⟨h.row⟩
theorem CellsN.set (h : CellsN w b t l) (i : Nat) (v : Value) : CellsN (w.setCell ⟨b, i, none⟩ v) b t (l.set i v) := by
  have hlt := h.lt
  have h' : w.heap[b] = .cells l.toArray t (0, 0) := by simpa [Array.getElem?_eq_getElem hlt] using h.row
  refine ⟨?_⟩
  show (w.heap.modify b _)[b]? = _
  rw [Array.getElem?_eq_getElem (by simpa using hlt), Array.getElem_modify_self, h']
  simp
theorem CellsN.other (h : CellsN w b t l) {a : Addr} (ha : a.block ≠ b) (v : Value) : CellsN (w.setCell a v) b t l := by
  refine ⟨?_⟩
  rw [← h.row]
  simp [World.setCell, Array.getElem?_modify, ha]
theorem CellsN.grown {row : Option Nat} (h : CellsN w b t l) (hg : w.grownBy w' row) (hn : row ≠ some b) : CellsN w' b t l := ⟨(hg.block b h.lt (Ne.symm hn)).trans h.row⟩
end
end Go.Proofs.YtidfgfgokcflfaaGreat.Plain
/- Blocks that are known whole, apart by their types; such a block as a slice of the call's own. No conditions beyond those that each fact states. -/
namespace Go.Proofs.YtidfgfgokcflfaaGreat.Plain
open Go.RowKit
set_option linter.unusedVariables false
/-- Two blocks of different types are two. -/
theorem CellsN.ne {w : World} {b b' : Nat} {t t' : TypeId} {l l' : List Value} (h : CellsN w b t l) (h' : CellsN w b' t' l') (hne : t ≠ t') : b ≠ b' := fun e => by
  subst e
  have h1 := h.row
  rw [h'.row] at h1
  simp at h1
  exact hne h1.2.symm
theorem CellsN.ne3 {w : World} {b b' : Nat} {t t' : TypeId} {l : List Value} {x y z : Value} (h : CellsN w b t l) (h' : Cells3 w b' t' x y z) (hne : t ≠ t') : b ≠ b' := fun e => by
  subst e
  have h1 := h.row
  rw [h'.row] at h1
  simp at h1
  exact hne h1.2.symm
theorem CellsN.ne_has {w : World} {b base : Nat} {t t' : TypeId} {l : List Value} {α : Type} {enc : α → Value} {v : Value} {xs : List α} (h : CellsN w b t l) (h' : Has enc t' w base v xs) (hne : t ≠ t') : v.ownBlock ≠ some b := by
  rcases h'.2 with ⟨rfl, _⟩ | ⟨g, cap, cur, rfl, _, hg, _⟩
  · intro h; cases h
  · intro e
    have e1 : g = b := by simpa [Value.ownBlock] using e
    subst e1
    have h1 := h.row
    rw [hg] at h1
    simp at h1
    exact hne h1.2.symm
/-- A block that is known whole, as a slice of the call's own. -/
theorem CellsN.has {w : World} {g n base : Nat} {e : TypeId} {α : Type} {enc : α → Value} {xs : List α} (h : CellsN w g e (xs.map enc)) (hn : xs.length = n) (hb : base ≤ g) (hm : n ≤ 1000000) : Has enc e w base (.slice (some ⟨g, 0, none⟩) n n) xs := by
  subst hn
  refine ⟨by simp, .inr ⟨g, xs.length, (xs.map enc).toArray, rfl, hb, h.row, Nat.le_refl _, by unfold maxLen; omega, by simp, by rw [Nat.mul_one]; show (xs.map enc).take xs.length = _; rw [List.take_of_length_le (by simp)]⟩⟩
end Go.Proofs.YtidfgfgokcflfaaGreat.Plain
/- Slices of structs whose fields are ints: what it is that the call owns one; what stays of it where other blocks turn, where an element is appended or a field written. No conditions beyond those that each fact states. -/
namespace Go.Proofs.YtidfgfgokcflfaaGreat.Plain
open Go.RowKit
set_option linter.unusedVariables false
/-- The cells of such a slice, row by row. -/
def flatT (L : List (List Int)) : List Value := L.flatMap fun x => x.map (Value.int .i64)
theorem flatT_cons (x : List Int) (L : List (List Int)) : flatT (x :: L) = x.map (Value.int .i64) ++ flatT L := rfl
theorem flatT_append (L M : List (List Int)) : flatT (L ++ M) = flatT L ++ flatT M := by simp [flatT]
theorem flatT_one (x : List Int) : flatT [x] = x.map (Value.int .i64) := by simp [flatT]
theorem flatT_len {k : Nat} : ∀ L : List (List Int), (∀ x ∈ L, x.length = k) → (flatT L).length = L.length * k
  | [], _ => by simp [flatT]
  | x :: L, h => by
    rw [flatT_cons, List.length_append, List.length_map, h x (by simp), flatT_len L fun y hy => h y (by simp [hy]), List.length_cons, Nat.succ_mul]
    omega
theorem flatT_get {k : Nat} : ∀ (L : List (List Int)) (i j : Nat) (x : List Int) (y : Int), (∀ x ∈ L, x.length = k) → L[i]? = some x → x[j]? = some y → (flatT L)[i * k + j]? = some (.int .i64 y)
  | [], i, j, x, y, _, h, _ => by simp at h
  | z :: L, 0, j, x, y, hk, h, hy => by
    obtain rfl : z = x := by simpa using h
    have hj := (List.getElem?_eq_some_iff.1 hy).1
    rw [flatT_cons, Nat.zero_mul, Nat.zero_add, List.getElem?_append_left (by rw [List.length_map]; exact hj), List.getElem?_map, hy]
    rfl
  | z :: L, i + 1, j, x, y, hk, h, hy => by
    have hz := hk z (by simp)
    rw [flatT_cons, List.getElem?_append_right (by rw [List.length_map, Nat.succ_mul]; omega), List.length_map, hz, show (i + 1) * k + j - k = i * k + j from by rw [Nat.succ_mul]; omega]
    exact flatT_get L i j x y (fun q hq => hk q (by simp [hq])) (by simpa using h) hy
theorem flatT_set {k : Nat} : ∀ (L : List (List Int)) (i j : Nat) (x : List Int) (y : Int), (∀ x ∈ L, x.length = k) → L[i]? = some x → j < k → (flatT L).set (i * k + j) (.int .i64 y) = flatT (L.set i (x.set j y))
  | [], i, j, x, y, _, h, _ => by simp at h
  | z :: L, 0, j, x, y, hk, h, hj => by
    obtain rfl : z = x := by simpa using h
    have hz := hk z (by simp)
    rw [flatT_cons, Nat.zero_mul, Nat.zero_add, List.set_append_left _ _ (by rw [List.length_map]; omega), List.set_cons_zero, flatT_cons, List.map_set]
  | z :: L, i + 1, j, x, y, hk, h, hj => by
    have hz := hk z (by simp)
    rw [flatT_cons, List.set_append_right _ _ (by rw [List.length_map, Nat.succ_mul]; omega), List.length_map, hz, show (i + 1) * k + j - k = i * k + j from by rw [Nat.succ_mul]; omega, List.set_cons_succ, flatT_cons,
      flatT_set L i j x y (fun q hq => hk q (by simp [hq])) (by simpa using h) hj]
/-- The slice v of structs is the call's own, from block base on. -/
def OwnT (e : TypeId) (k : Nat) (w : World) (base : Nat) (v : Value) (L : List (List Int)) : Prop := w.ownsRow base e k v L.length (flatT L) ∧ ∀ x ∈ L, x.length = k
section
variable {e : TypeId} {k : Nat} {w w' : World} {base : Nat} {v : Value} {L : List (List Int)}
theorem OwnT.form (h : OwnT e k w base v L) : ∃ a c, v = .slice a L.length c ∧ (0 < L.length → ∃ g, a = some ⟨g, 0, none⟩) := by
  rcases h.1.2 with ⟨rfl, h1⟩ | ⟨g, c, cur, rfl, hb, hc, _⟩
  · exact ⟨none, 0, by rw [h1], fun h => by omega⟩
  · exact ⟨_, c, rfl, fun _ => ⟨g, rfl⟩⟩
theorem OwnT.small (h : OwnT e k w base v L) : L.length ≤ 9223372036854775807 := by
  rcases h.1.2 with ⟨rfl, hn⟩ | ⟨g, cap, cur, rfl, _, _, hc, hm, _⟩
  · omega
  · unfold maxLen at hm; omega
theorem OwnT.cell {g c : Nat} (h : OwnT e k w base (.slice (some ⟨g, 0, none⟩) L.length c) L) {i j : Nat} {x : List Int} {y : Int} (hi : L[i]? = some x) (hj : x[j]? = some y) : w.cell? ⟨g, i * k + j, none⟩ = some (.int .i64 y) := by
  have hl := (List.getElem?_eq_some_iff.1 hi).1
  have hjl := (List.getElem?_eq_some_iff.1 hj).1
  have hx := h.2 x (List.mem_of_getElem? hi)
  have h2 : i * k + k ≤ L.length * k := by rw [← Nat.succ_mul]; exact Nat.mul_le_mul_right _ hl
  exact (h.1.cellAt (i * k + j) (by omega)).trans (flatT_get L i j x y h.2 hi hj)
theorem OwnT.kept {r : Option Nat} (h : OwnT e k w base v L) (hg : w.grownBy w' r) (hn : v.ownBlock = none ∨ v.ownBlock ≠ r) : OwnT e k w' base v L := ⟨World.ownsRow.kept h.1 hg hn, h.2⟩
theorem OwnT.below (h : OwnT e k w base v L) (hb : Below w.heap.size w w') : OwnT e k w' base v L :=
  h.kept (grown_of_below hb) (by
    cases hv : v.ownBlock with
    | none => exact .inl rfl
    | some q => exact .inr (by simp))
theorem OwnT.mono {base' : Nat} (h : OwnT e k w base v L) (hb : base' ≤ base) : OwnT e k w base' v L := ⟨⟨h.1.1, h.1.2.imp id fun ⟨g, cap, cur, h1, h2, r⟩ => ⟨g, cap, cur, h1, Nat.le_trans hb h2, r⟩⟩, h.2⟩
theorem OwnT.lt (h : OwnT e k w base v L) : ∀ q, v.ownBlock = some q → base ≤ q ∧ q < w.heap.size := World.ownsRow.lt h.1
theorem OwnT.nil (w : World) (base : Nat) : OwnT e k w base (.slice none 0 0) [] := ⟨World.ownsRow_nil _ _ _ _, fun x hx => by cases hx⟩
theorem OwnT.lit0 (w : World) (hb : base ≤ w.heap.size) : OwnT e k (w.alloc (.cells #[] e)) base (.slice (some ⟨w.heap.size, 0, none⟩) 0 0) [] :=
  ⟨⟨by simp [flatT], .inr ⟨w.heap.size, 0, #[], rfl, hb, heap_alloc_new w _, Nat.le_refl _, by unfold maxLen; omega, by simp, by simp [flatT]⟩⟩, fun x hx => by cases hx⟩
/-- What is written into it touches nothing below. -/
theorem OwnT.frame {w0 : World} (h : OwnT e k w base v L) (hb : Below w0.heap.size w0 w) (hB : w0.heap.size ≤ base) (hg : w.grownBy w' v.ownBlock) : Below w0.heap.size w0 w' :=
  hb.grown hg hb.size (fun q hq => Nat.le_trans hB (h.lt q hq).1)
/-- A field is written. -/
theorem OwnT.write {g c i j : Nat} {x : List Int} (h : OwnT e k w base (.slice (some ⟨g, 0, none⟩) L.length c) L) (hq : L[i]? = some x) (hj : j < k) (y : Int) :
    OwnT e k (w.setCell ⟨g, i * k + j, none⟩ (.int .i64 y)) base (.slice (some ⟨g, 0, none⟩) L.length c) (L.set i (x.set j y)) ∧ w.grownBy (w.setCell ⟨g, i * k + j, none⟩ (.int .i64 y)) (some g) ∧ w.frozen? ⟨g, i * k + j, none⟩ = false := by
  have h2 := h.1.stored (i * k + j) (.int .i64 y)
  refine ⟨⟨?_, fun z hz => ?_⟩, h2.2, h.1.frozenAt (i * k + j)⟩
  · rw [List.length_set, ← flatT_set L i j x y h.2 hq hj]
    exact h2.1
  · rcases List.mem_or_eq_of_mem_set hz with hz | rfl
    · exact h.2 z hz
    · rw [List.length_set]; exact h.2 x (List.mem_of_getElem? hq)
end
/-- 'v = append(v, x)', the new value lying in a block that the statement has just laid. -/
theorem append_t {P : Program} {e : TypeId} {k : Nat} {wr : World} {base : Nat} {L : List (List Int)} {ops : Array Oper} {rest : List Oper} {o : Oper} {a : Act} {Q : Exit → Act → World → Prop} (hgd : o.guard = none) (s x : Operand) (t : TypeId)
    (ho : o.op = .call { callee := .builtin .append, args := #[s, x], argTypes := #[t, t] })
    (i : TypeInfo) (z : Value) (bytes : Nat) (ht : P.underlying t = some (.slice e)) (hi : P.info? e = some i) (hz : i.zero = some z)
    (hsize : i.size = k) (hby : i.bytes = bytes) (hzs : z.cells.size = k) (hk : 0 < k) (v : Value) (hs : a.eval s = v) (hown : OwnT e k wr base v L) (q : List Int) (hq : q.length = k) (g : Nat) (hx : a.eval x = .slice (some ⟨g, 0, none⟩) 1 1) (hgs : g = wr.heap.size)
    (C : Array Value) (hC : C = (q.map (Value.int .i64)).toArray) (hlen : L.length ≤ 100000) (hbs : bytes ≤ 1000) (hb : base ≤ wr.heap.size)
    (h : ∀ v' w', OwnT e k w' base v' (L ++ [q]) → wr.grownBy w' v.ownBlock → wpList P ops Q rest (a.put o.dst v') w') :
    wpList P ops Q (o :: rest) a (wr.alloc (.cells C e)) := by
  subst hgs; subst hC
  have hal : Below wr.heap.size wr (wr.alloc (.cells (q.map (Value.int .i64)).toArray e)) := (Below.refl _ _).alloc (Nat.le_refl _) _
  have hbb : (L.length + 1) * bytes ≤ 100001 * 1000 := Nat.mul_le_mul (by omega) hbs
  refine wpList_append_own _ hgd s x t ho base e i z k bytes ht hi hz hsize hby hzs hk v L.length (flatT L) hs (hown.below hal).1 ⟨wr.heap.size, 0, none⟩ 1 1 (flatT [q]) hx (by rw [flatT_one, List.length_map, hq, Nat.one_mul]) (fun j u hj => ?_) (fun u hu => ?_) (by unfold maxLen; omega) (by omega) (by simp; omega) ?_
  · rw [addr_add]
    rw [flatT_one] at hj
    exact (CellsN.new wr e (q.map (Value.int .i64))).at_ hj
  · rw [flatT_one] at hu
    obtain ⟨y, _, rfl⟩ := List.mem_map.1 hu
    rfl
  · intro v' w' ho' hg' _
    refine h v' w' ⟨?_, fun y hy => ?_⟩ (grown_alloc hg')
    · rw [List.length_append, flatT_append]
      exact ho'
    · rcases List.mem_append.1 hy with hy | hy
      · exact hown.2 y hy
      · rw [List.mem_singleton.1 hy]; exact hq
/-- Such a slice in one interval of blocks. -/
def PS (e : TypeId) (k : Nat) (w : World) (lo hi : Nat) (v : Value) (L : List (List Int)) : Prop := OwnT e k w lo v L ∧ (∀ q, v.ownBlock = some q → q < hi) ∧ hi ≤ w.heap.size
section
variable {e : TypeId} {k : Nat} {w w' : World} {lo hi : Nat} {v : Value} {L : List (List Int)}
theorem PS.lies (h : PS e k w lo hi v L) : ∃ lo hi, PS e k w lo hi v L := ⟨lo, hi, h⟩
theorem PS.below (h : PS e k w lo hi v L) (hb : Below w.heap.size w w') : PS e k w' lo hi v L := ⟨h.1.below hb, h.2.1, Nat.le_trans h.2.2 hb.size⟩
theorem PS.touch {lo' hi' : Nat} (h : PS e k w lo hi v L) (ht : Plain.Touch lo' hi' w w') (hd : hi ≤ lo' ∨ hi' ≤ lo) : PS e k w' lo hi v L := by
  refine ⟨⟨⟨h.1.1.1, ?_⟩, h.1.2⟩, h.2.1, Nat.le_trans h.2.2 ht.size⟩
  rcases h.1.1.2 with h7 | ⟨g, cap, cur, hv, hg, hc, r⟩
  · exact .inl h7
  · refine .inr ⟨g, cap, cur, hv, hg, ?_, r⟩
    have hgh := h.2.1 g (by rw [hv]; rfl)
    have hgw : g < w.heap.size := (Array.getElem?_eq_some_iff.1 hc).1
    rw [← hc]
    exact ht.block g (by omega) (by omega)
theorem PS.form (h : PS e k w lo hi v L) : ∃ a c, v = .slice a L.length c := by
  obtain ⟨a, c, hv, _⟩ := h.1.form
  exact ⟨a, c, hv⟩
end
def GivesT (e : TypeId) (k : Nat) (L : List (List Int)) (w : World) (en : Ending) (w' : World) : Prop := ∃ v, en = .returned v ∧ PS e k w' w.heap.size w'.heap.size v L ∧ Below w.heap.size w w'
theorem GivesT.of {e : TypeId} {k : Nat} {L : List (List Int)} {w w' : World} {v : Value} (h : OwnT e k w' w.heap.size v L) (hb : Below w.heap.size w w') : GivesT e k L w (.returned v) w' := ⟨v, rfl, ⟨h, fun q hq => (h.lt q hq).2, Nat.le_refl _⟩, hb⟩
/-- The numbers that stand in it after it has been marked from m on. -/
def markT (k : Nat) (m : Int) (n : Nat) : List (List Int) := (List.range n).map fun i => (List.range k).map fun j => m + ((i * k + j : Nat) : Int)
theorem markT_len (k : Nat) (m : Int) (n : Nat) : (markT k m n).length = n := by simp [markT]
theorem markT_at {k i n : Nat} (m : Int) (h : i < n) : (markT k m n)[i]? = some ((List.range k).map fun j => m + ((i * k + j : Nat) : Int)) := by simp [markT, h]
theorem markT_step {k i n : Nat} {m : Int} {L : List (List Int)} {y : List Int} (hl : L.length = n) (h : i < n) (hy : y = (List.range k).map fun j => m + ((i * k + j : Nat) : Int)) : ((markT k m n).take i ++ L.drop i).set i y = (markT k m n).take (i + 1) ++ L.drop (i + 1) := by
  have h1 : i < (markT k m n).length := by rw [markT_len]; exact h
  have h2 : (markT k m n)[i] = y := by
    have := markT_at (k := k) m h
    rw [List.getElem?_eq_getElem h1] at this
    rw [hy]
    exact Option.some.inj this
  rw [List.drop_eq_getElem_cons (l := L) (by omega), List.take_succ_eq_append_getElem h1, h2, List.append_assoc]
  exact set_mid _ _ _ _ i (by rw [List.length_take]; omega)
end Go.Proofs.YtidfgfgokcflfaaGreat.Plain
/- Contracts of the laws' eqPower, eqPowerS, markPowerS and heldPowerS. No conditions beyond those that each states. -/
namespace Go.Proofs.YtidfgfgokcflfaaGreat
open Go.ChangeShapes Go.WideShapes Go.ChangeAt Go.RowKit
open Go.PlainAid Plain
set_option linter.unusedVariables false
namespace Fac
def pwV (a b c : Int) : Value := .agg #[.int .i64 a, .int .i64 b, .int .i64 c]
end Fac
end Go.Proofs.YtidfgfgokcflfaaGreat
/- Contracts of EqualSequences, of the program and of the model, and of the comparisons of lists that they call. No conditions beyond those that each states. -/
namespace Go.Proofs.YtidfgfgokcflfaaGreat
open Go.ChangeShapes Go.WideShapes Go.ChangeAt Go.RowKit
open Go.PlainAid Plain
set_option linter.unusedVariables false
namespace Seqs
theorem list_ne {α : Type} {xs ys : List α} {k : Nat} {x y : α} (h1 : xs[k]? = some x) (h2 : ys[k]? = some y) (h : ¬ x = y) : ¬ xs = ys := fun e => by
  subst e
  exact h (Option.some.inj (h1.symm.trans h2))
theorem list_eq {α : Type} {xs ys : List α} (hl : xs.length = ys.length) (h : ∀ (k : Nat) (x y : α), k < xs.length → xs[k]? = some x → ys[k]? = some y → x = y) : xs = ys := by
  refine List.ext_getElem hl fun i h1 h2 => ?_
  exact h i _ _ h1 (List.getElem?_eq_getElem h1) (List.getElem?_eq_getElem h2)
theorem some_drew {w W' : World} (he : (∃ n, W' = w.drewN n) ∨ (∃ n m, W' = (w.drewN n).drewN m) := by first | exact .inl ⟨_, rfl⟩ | exact .inr ⟨_, _, rfl⟩) : ∃ n, W' = w.drewN n := by
  rcases he with ⟨n, rfl⟩ | ⟨n, m, rfl⟩
  · exact ⟨n, rfl⟩
  · exact ⟨n + m, by rw [World.drewN_drewN]⟩
theorem equal_ints (u v : Value) (xs ys : List Int) (w : World) (h1 : Lies (Value.int .i64) w u xs) (h2 : Lies (Value.int .i64) w v ys) :
    Calls Tryz.prog 26 #[u, v] w fun e w' => e = .returned (.bool (decide (xs = ys))) ∧ ∃ n, w' = w.drewN n := by
  obtain ⟨hl, a, ca, rfl, _, hca⟩ := h1
  obtain ⟨hl2, b, cb, rfl, _, hcb⟩ := h2
  have HA := Lib.hid hca
  have HB := Lib.hid hcb
  clear hca hcb
  by_cases hlen : xs.length = ys.length
  · have HL := Lib.hid hlen
    have hd : ((xs.length : Int) != (ys.length : Int)) = false := by rw [hlen]; simp
    have hle : xs.length ≤ ys.length := by omega
    clear hlen
    go_enter Tryz.func26, Tryz.ntmps26
    go_wp2
    go_loopw [13] (fun i' wr => ∃ k : Nat, k ≤ xs.length ∧ i' = .int .i64 k ∧ Hid (∀ (j : Nat) (x y : Int), j < k → xs[j]? = some x → ys[j]? = some y → x = y) ∧ ∃ n, wr = w.drewN n) (fun i' _ => xs.length - (intOf i').toNat)
    case atStart => exact ⟨0, Nat.zero_le _, rfl, fun j x y h => by omega, 0, rfl⟩
    case round =>
      obtain ⟨k, hk, rfl, HI, n, rfl⟩ := hrel
      by_cases hlt : k < xs.length
      · obtain ⟨x, hx⟩ : ∃ x, xs[k]? = some x := ⟨_, List.getElem?_eq_getElem hlt⟩
        obtain ⟨y, hy⟩ : ∃ y, ys[k]? = some y := ⟨_, List.getElem?_eq_getElem (by omega)⟩
        obtain ⟨p, o, rfl, hc1⟩ := HA.out k x hx
        obtain ⟨q, r, rfl, hc2⟩ := HB.out k y hy
        have HX := Lib.hid hx
        have HY := Lib.hid hy
        clear hx hy
        by_cases he : x = y
        · have HN : Hid (∀ (j : Nat) (x y : Int), j < k + 1 → xs[j]? = some x → ys[j]? = some y → x = y) := fun j x' y' hj hx' hy' => by
            by_cases e : j = k
            · subst e
              obtain rfl := Option.some.inj (HX.out.symm.trans hx')
              obtain rfl := Option.some.inj (HY.out.symm.trans hy')
              exact he
            · exact HI.out j x' y' (by omega) hx' hy'
          have hd2 : (x != y) = false := by rw [he]; simp
          clear he
          go_wp2
          go_quiet (fail)
          go_wp2
          go_roundw
          case rel => exact ⟨k + 1, by omega, by go_num, HN, _, rfl⟩
          case measure => simp [intOf]; omega
        · have HE := Lib.hid (decide_eq_false (list_ne HX.out HY.out he))
          have hd2 : (x != y) = true := by simpa using he
          clear he
          go_wp2
          go_quiet (fail)
          go_wp2
          go_ret
          exact ⟨ret_b HE.out.symm, some_drew⟩
      · have HE := Lib.hid (decide_eq_true (list_eq HL.out fun j x y hj => HI.out j x y (by omega)))
        go_wp2
        go_ret
        exact ⟨ret_b HE.out.symm, n, rfl⟩
  · have HE := Lib.hid (decide_eq_false (fun e : xs = ys => hlen (by rw [e])))
    have hd : ((xs.length : Int) != (ys.length : Int)) = true := by simp; omega
    clear hlen
    go_enter Tryz.func26, Tryz.ntmps26
    go_wp2
    go_ret
    exact ⟨ret_b HE.out.symm, 0, rfl⟩
theorem LiesS.two {w : World} {b : Int} {rows : List (List Int)} {out : List Int} {vn vo : Value} (h : LiesS w (.agg #[.int .i64 b, vn, vo]) b rows out) : LiesR w vn rows ∧ Lies (Value.int .i64) w vo out := by
  obtain ⟨vn', vo', hv, h1, h2⟩ := h
  injection hv with hv
  simp only [Array.mk.injEq, List.cons.injEq, and_true, true_and] at hv
  obtain ⟨rfl, rfl⟩ := hv
  exact ⟨h1, h2⟩
theorem endsE {B : Nat} {w W W' : World} (h : ∀ n, Below B w (W.drewN n)) (he : (∃ n, W' = W.drewN n) ∨ (∃ n m, W' = (W.drewN n).drewN m) := by first | exact .inl ⟨_, rfl⟩ | exact .inr ⟨_, _, rfl⟩) : Below B w W' := by
  rcases he with ⟨n, rfl⟩ | ⟨n, m, rfl⟩
  · exact h n
  · rw [World.drewN_drewN]; exact h _
/-- Are the two sequences equal, in all their parts? -/
def sameB (b b' : Int) (rows rows' : List (List Int)) (out out' : List Int) : Bool := decide (b = b') && decide (rows = rows') && decide (out = out')
end Seqs
end Go.Proofs.YtidfgfgokcflfaaGreat
/- Contracts of CompareWords, of the model and of the program; a slice with room for what it holds, and parts of it. No conditions beyond those that each states. -/
namespace Go.Proofs.YtidfgfgokcflfaaGreat
open Go.ChangeShapes Go.WideShapes Go.ChangeAt Go.RowKit
open Go.PlainAid Plain
set_option linter.unusedVariables false
namespace Fac
open Seqs
theorem ret_i {a b : Int} (h : a = b) : Ending.returned (.int .i64 a) = Ending.returned (.int .i64 b) := by rw [h]
theorem ret_b {a b : Bool} (h : a = b) : Ending.returned (.bool a) = Ending.returned (.bool b) := by rw [h]
/-- A slice that reads as a list, its capacity no less than its length. -/
def LiesC (w : World) (v : Value) (xs : List Int) : Prop := Lies (Value.int .i64) w v xs ∧ ∀ a n c, v = .slice a n c → n ≤ c
theorem LiesC.lies {w : World} {v : Value} {xs : List Int} (h : LiesC w v xs) : Lies (Value.int .i64) w v xs := h.1
theorem LiesC.below {w w' : World} {v : Value} {xs : List Int} (h : LiesC w v xs) (hb : Below w.heap.size w w') : LiesC w' v xs := ⟨h.1.below hb, h.2⟩
theorem LiesC.form {w : World} {v : Value} {xs : List Int} (h : LiesC w v xs) : ∃ a c, v = .slice a xs.length c ∧ xs.length ≤ c := by
  obtain ⟨⟨_, a, c, rfl, _⟩, h2⟩ := h
  exact ⟨a, c, rfl, h2 _ _ _ rfl⟩
theorem LiesC.of_has {w : World} {base : Nat} {v : Value} {xs : List Int} (h : Has (Value.int .i64) 3 w base v xs) : LiesC w v xs := by
  refine ⟨h.lies, fun a n c hv => ?_⟩
  rcases h.2 with ⟨rfl, hn⟩ | ⟨g, cap, cur, rfl, _, _, hc, _⟩
  · injection hv with e1 e2 e3
    omega
  · injection hv with e1 e2 e3
    omega
theorem size_ti : (Tryz.prog.info? 3).map (·.size) = some 1 := by kernel_rfl
theorem elem_tr : Tryz.prog.elem 24 = 3 := by kernel_rfl
/-- A part of such a slice. -/
theorem LiesC.cut {w : World} {a : Option Addr} {c : Nat} {xs : List Int} {l h : Nat} (hl : LiesC w (.slice a xs.length c) xs) (h1 : l ≤ h) (h2 : h ≤ xs.length) :
    LiesC w (sliced a l h c 1) ((xs.drop l).take (h - l)) := by
  obtain ⟨⟨hs, a', c', hv, hn, hc⟩, hcap⟩ := hl
  have hcap := hcap _ _ _ rfl
  injection hv with e1 e2 e3
  subst e1; subst e3
  have hlen : ((xs.drop l).take (h - l)).length = h - l := by rw [List.length_take, List.length_drop]; omega
  have hm : ∀ (i : Nat) (x : Int), ((xs.drop l).take (h - l))[i]? = some x → i < h - l ∧ xs[l + i]? = some x := fun i x hx => by
    rw [List.getElem?_take] at hx
    split at hx
    · rw [List.getElem?_drop] at hx
      exact ⟨by assumption, hx⟩
    · cases hx
  refine ⟨⟨by omega, ?_⟩, fun p n q hv => ?_⟩
  · unfold sliced
    rw [hlen]
    by_cases hcl : c = l
    · rw [if_pos hcl]
      refine ⟨a, c - l, rfl, fun _ => by omega, fun i x hx => ?_⟩
      have := (hm i x hx).1
      omega
    · rw [if_neg hcl]
      refine ⟨a.map (·.add (l * 1)), c - l, rfl, fun hnone => ?_, fun i x hx => ?_⟩
      · cases a with
        | none => have := hn rfl; omega
        | some _ => cases hnone
      · obtain ⟨b, off, rfl, hcell⟩ := hc _ _ (hm i x hx).2
        refine ⟨b, off + l, ?_, ?_⟩
        · rw [Option.map_some, addr_plus, Nat.mul_one]
        · rw [Nat.add_assoc]
          exact hcell
  · unfold sliced at hv
    injection hv with e1 e2 e3
    omega
/-- What the operation makes of it, under a name of its own. -/
theorem LiesC.slice {w : World} {a : Option Addr} {c : Nat} {xs : List Int} {l h : Nat} {L H : Int} (hl : LiesC w (.slice a xs.length c) xs) (h1 : l ≤ h) (h2 : h ≤ xs.length) (hL : L = l) (hH : H = h) :
    ∃ a' c', (∀ W : World, (Instr.slice 24 (.slice a xs.length c) (some (.int .i64 L)) (some (.int .i64 H)) none).run Tryz.prog W = .ok (.slice a' (h - l) c') W) ∧ LiesC w (.slice a' (h - l) c') ((xs.drop l).take (h - l)) := by
  have hcut := hl.cut h1 h2
  have hcap := hl.2 _ _ _ rfl
  subst hL; subst hH
  refine ⟨_, _, fun W => ?_, hcut⟩
  have := run_slice_lh (P := Tryz.prog) (w := W) (t := 24) (a := a) (len := xs.length) (cap := c) (by rw [elem_tr]; exact Tryz.underlying24) .i64 .i64 (l : Int) (h : Int) (by omega) (by omega) (by omega)
  rw [this, elem_tr]
  simp [go_sem, Result.andThen]
theorem cmp_int (x y : Int) (w : World) : Calls Tryz.prog 54 #[.int .i64 x, .int .i64 y] w fun e w' => e = .returned (.int .i64 (Lib.compareInt x y)) ∧ w = w' :=
  (Tryz.cmp_Compare_int x y w).mono fun _ _ h => ⟨h.1, h.2.symm⟩
theorem cmp_lt (x y : Int) (w : World) (h : x < y) : Calls Tryz.prog 54 #[.int .i64 x, .int .i64 y] w fun e w' => e = .returned (.int .i64 (-1)) ∧ w = w' := by
  have := cmp_int x y w
  rwa [show Lib.compareInt x y = -1 from by simp [Lib.compareInt, h]] at this
theorem cmp_gt (x y : Int) (w : World) (h : y < x) : Calls Tryz.prog 54 #[.int .i64 x, .int .i64 y] w fun e w' => e = .returned (.int .i64 1) ∧ w = w' := by
  have := cmp_int x y w
  have h' : ¬ x < y := by omega
  rwa [show Lib.compareInt x y = 1 from by simp [Lib.compareInt, h, h']] at this
theorem cmp_same (x : Int) (w : World) : Calls Tryz.prog 54 #[.int .i64 x, .int .i64 x] w fun e w' => e = .returned (.int .i64 0) ∧ w = w' := by
  have := cmp_int x x w
  rwa [show Lib.compareInt x x = 0 from by simp [Lib.compareInt]] at this
theorem sl_cmp (u v : Value) (xs ys : List Int) (w : World) (h1 : Lies (Value.int .i64) w u xs) (h2 : Lies (Value.int .i64) w v ys) :
    Calls Tryz.prog 65 #[u, v] w fun e w' => e = .returned (.int .i64 (cmpW xs ys)) ∧ w = w' := by
  obtain ⟨hl, a, ca, rfl, _, hca⟩ := h1
  obtain ⟨hl2, b, cb, rfl, _, hcb⟩ := h2
  have HA := Lib.hid hca
  have HB := Lib.hid hcb
  clear hca hcb
  go_enter Tryz.func65, Tryz.ntmps65
  go_wp2
  go_loop [11] (fun i' => ∃ i : Nat, i ≤ xs.length ∧ i' = .int .i64 i ∧ Hid (cmpW (xs.drop i) (ys.drop i) = cmpW xs ys)) (fun i' => xs.length - (intOf i').toNat)
  case atStart => exact ⟨0, Nat.zero_le _, rfl, rfl⟩
  case round =>
    obtain ⟨i, hi, rfl, HI⟩ := hrel
    by_cases hlt : i < xs.length
    · obtain ⟨x, hx⟩ : ∃ x, xs[i]? = some x := ⟨_, List.getElem?_eq_getElem hlt⟩
      obtain ⟨p, o, rfl, hc1⟩ := HA.out i x hx
      have HX := Lib.hid hx
      clear hx
      by_cases hy : i < ys.length
      · obtain ⟨y, hy'⟩ : ∃ y, ys[i]? = some y := ⟨_, List.getElem?_eq_getElem hy⟩
        obtain ⟨q, r, rfl, hc2⟩ := HB.out i y hy'
        have HE := Lib.hid (cmpW_at HX.out hy')
        clear hy'
        rcases Int.lt_trichotomy x y with hxy | hxy | hxy
        · have HV : Hid (-1 = cmpW xs ys) := by
            have := HI.out
            rw [HE.out, if_pos hxy] at this
            exact this
          go_wp2_with (go_at_call 54; refine (cmp_lt x y _ hxy).mono ?_; rintro e w' ⟨rfl, rfl⟩)
          go_ret
          exact ⟨ret_i HV.out, rfl⟩
        · subst hxy
          have HN : Hid (cmpW (xs.drop (i + 1)) (ys.drop (i + 1)) = cmpW xs ys) := by
            have := HI.out
            rw [HE.out, if_neg (by omega), if_neg (by omega)] at this
            exact this
          go_wp2_with (go_at_call 54; refine (cmp_same x _).mono ?_; rintro e w' ⟨rfl, rfl⟩)
          go_round
          case rel => exact ⟨i + 1, by omega, by go_num, HN⟩
          case measure => simp [intOf]; omega
        · have HV : Hid (1 = cmpW xs ys) := by
            have := HI.out
            rw [HE.out, if_neg (by omega), if_pos hxy] at this
            exact this
          go_wp2_with (go_at_call 54; refine (cmp_gt x y _ hxy).mono ?_; rintro e w' ⟨rfl, rfl⟩)
          go_ret
          exact ⟨ret_i HV.out, rfl⟩
      · have HV : Hid (1 = cmpW xs ys) := by
          have := HI.out
          rw [cmpW_short hlt (by omega)] at this
          exact this
        go_wp2
        go_ret
        exact ⟨ret_i HV.out, rfl⟩
    · by_cases hl3 : xs.length < ys.length
      · have HV : Hid (-1 = cmpW xs ys) := by
          have := HI.out
          rw [cmpW_long (by omega) (by omega)] at this
          exact this
        go_wp2
        go_ret
        exact ⟨ret_i HV.out, rfl⟩
      · have HV : Hid (0 = cmpW xs ys) := by
          have := HI.out
          rw [cmpW_both (by omega) (by omega)] at this
          exact this
        go_wp2
        go_ret
        exact ⟨ret_i HV.out, rfl⟩
theorem impl_cmp (u v : Value) (xs ys : List Int) (w : World) (h1 : Lies (Value.int .i64) w u xs) (h2 : Lies (Value.int .i64) w v ys) :
    Calls Tryz.prog 50 #[u, v] w fun e w' => e = .returned (.int .i64 (cmpW xs ys)) ∧ w = w' := by
  go_enter Tryz.func50, Tryz.ntmps50
  go_wp2_with (go_at_call 65; refine (sl_cmp u v xs ys _ h1 h2).mono ?_; rintro e w' ⟨rfl, rfl⟩)
  go_ret
  exact ⟨rfl, rfl⟩
theorem impl_cmp_b (u v : Value) (xs ys : List Int) (w : World) (h1 : Lies (Value.int .i64) w u xs) (h2 : Lies (Value.int .i64) w v ys) :
    Calls Tryz.prog 50 #[u, v] w fun e w' => e = .returned (.int .i64 (cmpW xs ys)) ∧ Below w.heap.size w w' :=
  (impl_cmp u v xs ys w h1 h2).mono fun _ _ h => ⟨h.1, h.2 ▸ Below.refl _ _⟩
theorem spec_cmp (u v : Value) (xs ys : List Int) (w : World) (h1 : Lies (Value.int .i64) w u xs) (h2 : Lies (Value.int .i64) w v ys) :
    Calls Tryz.prog 53 #[u, v] w fun e w' => e = .returned (.int .i64 (cmpW xs ys)) ∧ Below w.heap.size w w' := by
  obtain ⟨hl, a, ca, rfl, _, hca⟩ := h1
  obtain ⟨hl2, b, cb, rfl, _, hcb⟩ := h2
  have HA := Lib.hid hca
  have HB := Lib.hid hcb
  clear hca hcb
  go_enter Tryz.func53, Tryz.ntmps53
  go_wp2
  go_loopw [5] (fun i' wr => ∃ i : Nat, i ≤ xs.length ∧ i ≤ ys.length ∧ i' = .int .i64 i ∧ Hid (cmpW (xs.drop i) (ys.drop i) = cmpW xs ys) ∧ Hid (∃ n, wr = w.drewN n)) (fun i' _ => xs.length - (intOf i').toNat)
  case atStart => exact ⟨0, Nat.zero_le _, Nat.zero_le _, rfl, rfl, 0, rfl⟩
  case round =>
    obtain ⟨i, hi, hi2, rfl, HI, HW⟩ := hrel
    by_cases hlt : i < xs.length
    · by_cases hy : i < ys.length
      · obtain ⟨x, hx⟩ : ∃ x, xs[i]? = some x := ⟨_, List.getElem?_eq_getElem hlt⟩
        obtain ⟨y, hy'⟩ : ∃ y, ys[i]? = some y := ⟨_, List.getElem?_eq_getElem hy⟩
        obtain ⟨p, o, rfl, hc1⟩ := HA.out i x hx
        obtain ⟨q, r, rfl, hc2⟩ := HB.out i y hy'
        have HE := Lib.hid (cmpW_at hx hy')
        clear hx hy'
        obtain ⟨n, hn⟩ := HW.out
        subst hn
        rcases Int.lt_trichotomy x y with hxy | hxy | hxy
        · have HV : Hid (-1 = cmpW xs ys) := by
            have := HI.out
            rw [HE.out, if_pos hxy] at this
            exact this
          go_wp2
          go_quiet (fail)
          go_wp2
          go_ret
          exact ⟨ret_i HV.out, below_drewN (below_drewN (Below.refl _ _) _) _⟩
        · subst hxy
          have HN : Hid (cmpW (xs.drop (i + 1)) (ys.drop (i + 1)) = cmpW xs ys) := by
            have := HI.out
            rw [HE.out, if_neg (by omega), if_neg (by omega)] at this
            exact this
          go_wp2
          go_quiet (fail)
          go_wp2
          go_quiet (fail)
          go_wp2
          go_roundw
          case rel => exact ⟨i + 1, by omega, by omega, by go_num, HN, ⟨_, rfl⟩⟩
          case measure => simp [intOf]; omega
        · have HV : Hid (1 = cmpW xs ys) := by
            have := HI.out
            rw [HE.out, if_neg (by omega), if_pos hxy] at this
            exact this
          go_wp2
          go_quiet (fail)
          go_wp2
          go_quiet (fail)
          go_wp2
          go_ret
          exact ⟨ret_i HV.out, below_drewN (below_drewN (below_drewN (Below.refl _ _) _) _) _⟩
      · have HV : Hid (1 = cmpW xs ys) := by
          have := HI.out
          rw [cmpW_short hlt (by omega)] at this
          exact this
        obtain ⟨n, hn⟩ := HW.out
        subst hn
        go_wp2
        go_ret
        exact ⟨ret_i HV.out, below_drewN (Below.refl _ _) _⟩
    · obtain ⟨n, hn⟩ := HW.out
      subst hn
      by_cases hl3 : xs.length < ys.length
      · have HV : Hid (-1 = cmpW xs ys) := by
          have := HI.out
          rw [cmpW_long (by omega) (by omega)] at this
          exact this
        go_wp2
        go_ret
        exact ⟨ret_i HV.out, below_drewN (Below.refl _ _) _⟩
      · have HV : Hid (0 = cmpW xs ys) := by
          have := HI.out
          rw [cmpW_both (by omega) (by omega)] at this
          exact this
        go_wp2
        go_ret
        exact ⟨ret_i HV.out, below_drewN (Below.refl _ _) _⟩
end Fac
end Go.Proofs.YtidfgfgokcflfaaGreat
/- Contracts of the model's borders, periods and root of a word. No conditions beyond those that each states. -/
namespace Go.Proofs.YtidfgfgokcflfaaGreat
open Go.ChangeShapes Go.WideShapes Go.ChangeAt Go.RowKit
open Go.PlainAid Plain
set_option linter.unusedVariables false
namespace Fac
/-- The longest borders of the first 1, 2, .. letters. -/
def blT (u : List Int) (i : Nat) : List Int := (List.range i).map fun k => bd u (k + 1)
theorem blT_at (u : List Int) {i j : Nat} (h : j < i) : (blT u i)[j]? = some (bd u (j + 1)) := by simp [blT, h]
theorem blT_len (u : List Int) (i : Nat) : (blT u i).length = i := by simp [blT]
theorem blT_succ (u : List Int) (i : Nat) : blT u (i + 1) = blT u i ++ [bd u (i + 1)] := by simp [blT, List.range_succ]
theorem lies_cell {w : World} {a : Option Addr} {n c : Nat} {xs : List Int} {i : Nat} {x : Int} (h : Lies (Value.int .i64) w (.slice a n c) xs) (hx : xs[i]? = some x) : ∃ b off, a = some ⟨b, off, none⟩ ∧ w.cell? ⟨b, off + i, none⟩ = some (.int .i64 x) := by
  obtain ⟨_, a', c', hv, _, hc⟩ := h
  injection hv with e1 e2 e3
  subst e1
  exact hc i x hx
theorem lies_shape {w : World} {v : Value} {xs : List Int} (h : Lies (Value.int .i64) w v xs) : ∃ a c, v = .slice a xs.length c := by
  obtain ⟨_, a, c, rfl, _⟩ := h
  exact ⟨a, c, rfl⟩
set_option maxRecDepth 100000 in
set_option maxHeartbeats 2000000 in
theorem spec_l9 (v : Value) (u : List Int) (w : World) (h : Lies (Value.int .i64) w v u) (hs : u.length ≤ 4194304) :
    Calls Tryz.prog 89 #[v] w (Gives (Value.int .i64) 3 (blT u u.length) w) := by
  obtain ⟨i0, hi, hz0, hz1, hz2⟩ := info_parts Ints.infoI
  obtain ⟨pa, pc, rfl⟩ := lies_shape h
  have HU := Lib.hid h
  have HB : Hid (Below w.heap.size w (w.alloc (Obj.cells #[] 3))) := (Below.refl _ _).alloc (Nat.le_refl _) _
  have HO : Hid (Has (Value.int .i64) 3 (w.alloc (Obj.cells #[] 3)) w.heap.size (.slice (some ⟨w.heap.size, 0, none⟩) 0 0) []) := has_lit0 rfl (Nat.le_refl _)
  clear h
  go_enter Tryz.func89, Tryz.ntmps89
  go_wp2
  go_loopw [3, 4, 5] (fun o' k' i' wr => ∃ (i k : Nat) (vo : Value), i ≤ u.length ∧ k ≤ i ∧ k' = .int .i64 k ∧ i' = .int .i64 i ∧ vo = o' ∧ Hid (0 < i → (k : Int) = bd u i) ∧ Hid (Has (Value.int .i64) 3 wr w.heap.size vo (blT u i)) ∧ Hid (Below w.heap.size w wr)) (fun _ _ i' _ => u.length - (intOf i').toNat)
  case atStart => exact ⟨0, 0, _, Nat.zero_le _, Nat.le_refl _, rfl, rfl, rfl, fun h => by omega, HO, HB⟩
  case round =>
    obtain ⟨i, k, vo, hi', hki, rfl, rfl, rfl, HK, HOr, HBr⟩ := hrel
    obtain ⟨oa, oc, rfl, _⟩ := HOr.out.form
    by_cases hlt : i < u.length
    · obtain ⟨x, hx⟩ : ∃ x, u[i]? = some x := ⟨_, List.getElem?_eq_getElem hlt⟩
      have HS := Lib.hid (blT_succ u i)
      by_cases h0 : i = 0
      · subst h0
        obtain rfl : k = 0 := by omega
        have HG : Hid ((0 : Int) = bd u (0 + 1)) := by show _ = _; rw [bd_succ hx, bd_zero, fa_none]
        have HL := Lib.hid (blT_len u 0)
        clear hx
        go_wp2_with (refine append_one (enc := (Value.int .i64)) (e := 3) wr rfl _ _ 24 rfl w.heap.size i0 (.int .i64 0) 8 Tryz.underlying24 hi hz0 hz1 hz2 rfl (.slice oa (blT u 0).length oc) (blT u 0) rfl HOr.out (0 : Int) rfl (fun _ => rfl) (by have := HL.out; omega) (by have := HL.out; omega) (HBr.out).size ?_; intro v' w4 ho hg; have HO4 := Lib.hid ho; have HB4 := Lib.hid ((HOr.out).frame (HBr.out) (Nat.le_refl _) hg); clear hg ho)
        go_roundw
        case rel => exact ⟨1, 0, _, by omega, by omega, rfl, rfl, rfl, fun _ => HG.out, by show Has _ _ _ _ _ _; rw [HS.out, ← HG.out]; exact HO4, HB4⟩
        case measure => simp [intOf]; omega
      · have hd0 : ((i : Int) == 0) = false := by simpa using h0
        have hbg := bd_succ hx
        rw [← HK.out (by omega)] at hbg
        have HX := Lib.hid hx
        have HF := Lib.hid hbg
        have hkl := bd_ge u i
        rw [← HK.out (by omega)] at hkl
        have hkl2 : k < i := by omega
        obtain ⟨p, o, hpa, hc1⟩ := lies_cell HU.out hx
        have HC1 := Lib.hid hc1
        subst hpa
        have HL := Lib.hid (blT_len u i)
        have HBL : Hid (∀ j, j < i → (blT u i)[j]? = some (bd u (j + 1))) := fun j hj => blT_at u hj
        obtain ⟨L, hL⟩ : ∃ L, L = blT u i := ⟨_, rfl⟩
        rw [← hL] at HOr HL HS HBL ⊢
        clear hL
        clear hx hbg hc1 hkl HK
        have hne : 0 < i := by omega
        go_wp2
        obtain ⟨W6, hW6⟩ : ∃ W : World, W = wr := ⟨_, rfl⟩
        rw [← hW6] at HOr HBr ⊢
        clear hW6
        go_loopw [4] (fun k' wr => ∃ k : Nat, k < i ∧ k' = .int .i64 k ∧ Hid (bd u (i + 1) = fa u k x) ∧ Hid (Has (Value.int .i64) 3 wr w.heap.size (.slice oa L.length oc) L) ∧ Hid (Below w.heap.size w wr)) (fun k' _ => (intOf k').toNat)
        case atStart => exact ⟨k, by omega, rfl, HF, HOr, HBr⟩
        case round =>
          obtain ⟨k, hk, rfl, HF, HOs, HBs⟩ := hrel
          obtain ⟨y, hy⟩ : ∃ y, u[k]? = some y := ⟨_, List.getElem?_eq_getElem (by omega)⟩
          obtain ⟨_, _, hpa, hc2⟩ := lies_cell (HU.out.below HBs.out) hy
          cases hpa
          have hc1 := (HBs.out.cell (p := ⟨p, o + i, none⟩) (World.block_lt_of_cell? _ _ HC1.out)).trans HC1.out
          have HY := Lib.hid hy
          clear hy
          by_cases hxy : y = x
          · subst hxy
            have HG : Hid ((k : Int) + 1 = bd u (i + 1)) := by rw [HF.out, fa_hit HY.out]; rfl
            have hd1 : (y != y) = false := by simp
            have hd2 : (y == y) = true := by simp
            by_cases hk0 : k = 0
            · subst hk0
              rw [Nat.add_zero] at hc2
              have hn0 : 0 < u.length := by omega
              go_wp2_with fail
              go_quiet (fail)
              go_wp2_with fail
              go_quiet (fail)
              go_wp2_with (refine append_one (enc := (Value.int .i64)) (e := 3) _ rfl _ _ 24 rfl w.heap.size i0 (.int .i64 0) 8 Tryz.underlying24 hi hz0 hz1 hz2 rfl (.slice oa L.length oc) L rfl (HOs.out.below (below_drewN (Below.refl _ _) _)) ((1 : Int)) rfl (fun _ => rfl) (by have := HL.out; omega) (by have := HL.out; omega) ((below_drewN HBs.out _)).size ?_; intro v' w4 ho hg; have HO4 := Lib.hid ho; have HB4 := Lib.hid (((HOs.out.below (below_drewN (Below.refl _ _) _))).frame ((below_drewN HBs.out _)) (Nat.le_refl _) hg); clear hg ho)
              go_roundw
              case rel => exact ⟨i + 1, 1, _, by omega, by omega, by go_num, by go_num, rfl, fun _ => HG.out, by show Has _ _ _ _ _ _; rw [HS.out, ← HG.out]; exact HO4, HB4⟩
              case measure => simp [intOf]; omega
            · have hkd := decide_eq_true (show 0 < k by omega)
              go_wp2_with fail
              go_quiet (fail)
              go_wp2_with fail
              go_quiet (fail)
              go_wp2_with (refine append_one (enc := (Value.int .i64)) (e := 3) _ rfl _ _ 24 rfl w.heap.size i0 (.int .i64 0) 8 Tryz.underlying24 hi hz0 hz1 hz2 rfl (.slice oa L.length oc) L rfl (HOs.out.below (below_drewN (Below.refl _ _) _)) ((k : Int) + 1) rfl (fun _ => rfl) (by have := HL.out; omega) (by have := HL.out; omega) ((below_drewN HBs.out _)).size ?_; intro v' w4 ho hg; have HO4 := Lib.hid ho; have HB4 := Lib.hid (((HOs.out.below (below_drewN (Below.refl _ _) _))).frame ((below_drewN HBs.out _)) (Nat.le_refl _) hg); clear hg ho)
              go_roundw
              case rel => exact ⟨i + 1, k + 1, _, by omega, by omega, by go_num, by go_num, rfl, fun _ => HG.out, by show Has _ _ _ _ _ _; rw [HS.out, ← HG.out]; exact HO4, HB4⟩
              case measure => simp [intOf]; omega
          · have hd1 : (x != y) = true := by simp; exact fun e => hxy e.symm
            have hd2 : (x == y) = false := by simp; exact fun e => hxy e.symm
            have hmiss := fa_miss (u := u) (k := k) (c := x) (fun h => hxy (Option.some.inj (HY.out.symm.trans h)))
            clear hxy
            by_cases hk0 : k = 0
            · subst hk0
              rw [Nat.add_zero] at hc2
              have hn0 : 0 < u.length := by omega
              have HG : Hid ((0 : Int) = bd u (i + 1)) := by rw [HF.out, hmiss]; rfl
              go_wp2_with fail
              go_quiet (fail)
              go_wp2_with fail
              go_quiet (fail)
              go_wp2_with (refine append_one (enc := (Value.int .i64)) (e := 3) _ rfl _ _ 24 rfl w.heap.size i0 (.int .i64 0) 8 Tryz.underlying24 hi hz0 hz1 hz2 rfl (.slice oa L.length oc) L rfl (HOs.out.below (below_drewN (Below.refl _ _) _)) ((0 : Int)) rfl (fun _ => rfl) (by have := HL.out; omega) (by have := HL.out; omega) ((below_drewN HBs.out _)).size ?_; intro v' w4 ho hg; have HO4 := Lib.hid ho; have HB4 := Lib.hid (((HOs.out.below (below_drewN (Below.refl _ _) _))).frame ((below_drewN HBs.out _)) (Nat.le_refl _) hg); clear hg ho)
              go_roundw
              case rel => exact ⟨i + 1, 0, _, by omega, by omega, by go_num, by go_num, rfl, fun _ => HG.out, by show Has _ _ _ _ _ _; rw [HS.out, ← HG.out]; exact HO4, HB4⟩
              case measure => simp [intOf]; omega
            · have hkd := decide_eq_true (show 0 < k by omega)
              obtain ⟨m, hm⟩ : ∃ m : Nat, bd u k = m := ⟨(bd u k).toNat, by have := bd_pos u (n := k) (by omega); omega⟩
              have hmk : m < k := by have := bd_ge u k; omega
              rw [hm] at hmiss
              have HF2 : Hid (bd u (i + 1) = fa u m x) := by rw [HF.out]; exact hmiss
              have hat := HBL.out (k - 1) (by omega)
              rw [show k - 1 + 1 = k from by omega, hm] at hat
              have HAT := Lib.hid hat
              clear hmiss hm hat
              obtain ⟨q, r, hoa, hc3⟩ := lies_cell HOs.out.lies HAT.out
              have HOA := Lib.hid hoa
              subst hoa
              have hkl3 : k ≤ L.length := by have := HL.out; omega
              go_wp2_with fail
              go_quiet (fail)
              obtain ⟨j, rfl⟩ : ∃ j, k = j + 1 := ⟨k - 1, by omega⟩
              rw [Nat.add_sub_cancel] at hc3
              have e1 : ((j + 1 : Nat) : Int) - 1 = (j : Int) := by omega
              have hjl : j < L.length := by omega
              go_wp2
              go_roundw
              case rel => exact ⟨m, by omega, rfl, HF2, Lib.hid (HOs.out.below (below_drewN (Below.refl _ _) _)), Lib.hid (below_drewN HBs.out _)⟩
              case measure => simp [intOf]; omega
    · have HE : Hid (Has (Value.int .i64) 3 wr w.heap.size (.slice oa (blT u i).length oc) (blT u u.length)) := by
        have h := HOr.out
        rw [show i = u.length from by omega] at h ⊢
        exact h
      have HL := Lib.hid (blT_len u i)
      obtain rfl : i = u.length := by omega
      go_wp2
      go_ret
      exact ⟨_, rfl, HE.out, HBr.out⟩
end Fac
end Go.Proofs.YtidfgfgokcflfaaGreat
