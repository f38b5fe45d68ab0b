/- Plain facts on words and morphisms as lists: which ones are valid, images, what several steps make of a letter, letters that vanish, fixed words. No conditions beyond those that each fact states. -/
import Derived.WalkKit
import Derived.Lib.Hide
import Derived.Test.YtcnejfihpaicdaaDist
import Derived.Test.YtcnejfihpaicdaaSeqVal
namespace Go.Proofs.Ytcnejfihpaicdaa.Plain

/-- A word of the first n letters. -/
def IsWd (xs : List Int) (n : Int) : Prop := 1 ≤ n ∧ n ≤ 16 ∧ xs.length ≤ 400 ∧ ∀ x ∈ xs, 0 ≤ x ∧ x < n
instance (xs : List Int) (n : Int) : Decidable (IsWd xs n) := by unfold IsWd; infer_instance
def wordB (xs : List Int) (n : Int) : Bool := decide (IsWd xs n)
theorem wordB_yes {xs : List Int} {n : Int} (h : IsWd xs n) : wordB xs n = true := decide_eq_true h
theorem wordB_no {xs : List Int} {n : Int} (h : ¬ IsWd xs n) : wordB xs n = false := decide_eq_false h
theorem wordB_out {xs : List Int} {n : Int} (h : wordB xs n = true) : IsWd xs n := of_decide_eq_true h
theorem not_word_at {xs : List Int} {n : Int} {i : Nat} {x : Int} (hx : xs[i]? = some x) (h : x < 0 ∨ n ≤ x) : wordB xs n = false :=
  wordB_no fun hw => by have := hw.2.2.2 x (List.mem_of_getElem? hx); omega
theorem all_at {xs : List Int} {P : Int → Prop} (h : ∀ (i : Nat) (x : Int), xs[i]? = some x → P x) : ∀ x ∈ xs, P x := fun x hx => by
  obtain ⟨i, hi⟩ := List.getElem?_of_mem hx
  exact h i x hi
/-- A valid morphism. -/
def IsMor (m : List (List Int)) : Prop := 1 ≤ m.length ∧ m.length ≤ 16 ∧ ∀ r ∈ m, r.length ≤ 8 ∧ ∀ x ∈ r, 0 ≤ x ∧ x < (m.length : Int)
instance (m : List (List Int)) : Decidable (IsMor m) := by unfold IsMor; infer_instance
def morB (m : List (List Int)) : Bool := decide (IsMor m)
theorem morB_yes {m : List (List Int)} (h : IsMor m) : morB m = true := decide_eq_true h
theorem morB_no {m : List (List Int)} (h : ¬ IsMor m) : morB m = false := decide_eq_false h
theorem morB_out {m : List (List Int)} (h : morB m = true) : IsMor m := of_decide_eq_true h
def imgB (r : List Int) (n : Nat) : Bool := wordB r n && decide (r.length ≤ 8)
theorem not_mor_at {m : List (List Int)} {i : Nat} {r : List Int} (hr : m[i]? = some r) (h : wordB r m.length = false ∨ 8 < r.length) : morB m = false :=
  morB_no fun hm => by
    have h1 := hm.2.2 r (List.mem_of_getElem? hr)
    rcases h with h | h
    · have : wordB r m.length = true := wordB_yes ⟨by have := hm.1; omega, by have := hm.2.1; omega, by omega, h1.2⟩
      rw [this] at h; cases h
    · omega
theorem mor_of {m : List (List Int)} (h0 : 1 ≤ m.length) (h : ∀ (i : Nat) (r : List Int), m[i]? = some r → wordB r m.length = true ∧ r.length ≤ 8) : morB m = true := by
  have h16 : m.length ≤ 16 := by
    have := (wordB_out (h 0 _ (List.getElem?_eq_getElem h0)).1).2.1
    omega
  refine morB_yes ⟨h0, h16, fun r hr => ?_⟩
  obtain ⟨i, hi⟩ := List.getElem?_of_mem hr
  have := h i r hi
  exact ⟨this.2, (wordB_out this.1).2.2.2⟩
def IsUni (m : List (List Int)) (k : Int) : Prop := IsMor m ∧ ∀ r ∈ m, (r.length : Int) = k
instance (m : List (List Int)) (k : Int) : Decidable (IsUni m k) := by unfold IsUni; infer_instance
def uniB (m : List (List Int)) (k : Int) : Bool := decide (IsUni m k)
theorem uniB_at {m : List (List Int)} {k : Int} {i : Nat} {r : List Int} (hr : m[i]? = some r) (h : ¬ (r.length : Int) = k) : uniB m k = false :=
  decide_eq_false fun hu => h (hu.2 r (List.mem_of_getElem? hr))
theorem uniB_all {m : List (List Int)} {k : Int} (h : ∀ (i : Nat) (r : List Int), m[i]? = some r → (r.length : Int) = k) : uniB m k = morB m := by
  unfold uniB morB
  refine decide_eq_decide.2 ⟨fun h => h.1, fun hm => ⟨hm, fun r hr => ?_⟩⟩
  obtain ⟨i, hi⟩ := List.getElem?_of_mem hr
  exact h i r hi
theorem uniB_mor {m : List (List Int)} {k : Int} (h : morB m = false) : uniB m k = false := decide_eq_false fun hu => by
  have := morB_yes hu.1
  rw [this] at h; cases h

/-- The image of a letter, the images of all letters of a word, joined. -/
def img (m : List (List Int)) (x : Int) : List Int := m.getD x.toNat []
def appL (m : List (List Int)) (w : List Int) : List Int := w.flatMap (img m)
theorem img_at {m : List (List Int)} {n : Nat} {r : List Int} (h : m[n]? = some r) : img m n = r := by simp [img, List.getD, h]
theorem appL_nil (m : List (List Int)) : appL m [] = [] := rfl
theorem appL_append (m : List (List Int)) (u v : List Int) : appL m (u ++ v) = appL m u ++ appL m v := by simp [appL]
theorem appL_one (m : List (List Int)) (x : Int) : appL m [x] = img m x := by simp [appL]
theorem appL_cons (m : List (List Int)) (x : Int) (u : List Int) : appL m (x :: u) = img m x ++ appL m u := by simp [appL]
theorem appL_take_succ {m : List (List Int)} {w : List Int} {i : Nat} {x : Int} (h : w[i]? = some x) : appL m (w.take (i + 1)) = appL m (w.take i) ++ img m x := by
  obtain ⟨h1, h2⟩ := List.getElem?_eq_some_iff.1 h
  rw [List.take_succ_eq_append_getElem h1, appL_append, h2, appL_one]
theorem appL_take_le (m : List (List Int)) (w : List Int) (i : Nat) : (appL m (w.take i)).length ≤ (appL m w).length := by
  have : appL m w = appL m (w.take i) ++ appL m (w.drop i) := by rw [← appL_append, List.take_append_drop]
  rw [this, List.length_append]; omega
theorem IsMor.img {m : List (List Int)} (h : IsMor m) {x : Int} (h0 : 0 ≤ x) (h1 : x < m.length) : m[x.toNat]? = some (img m x) ∧ (img m x).length ≤ 8 ∧ ∀ y ∈ img m x, 0 ≤ y ∧ y < (m.length : Int) := by
  have hs : x.toNat < m.length := by omega
  have e : Plain.img m x = m[x.toNat] := by simp [Plain.img, List.getD, hs]
  have := h.2.2 m[x.toNat] (List.getElem_mem _)
  exact ⟨by rw [e]; exact List.getElem?_eq_getElem hs, by rw [e]; exact this.1, by rw [e]; exact this.2⟩
theorem IsMor.app_in {m : List (List Int)} (h : IsMor m) {w : List Int} (hw : ∀ x ∈ w, 0 ≤ x ∧ x < (m.length : Int)) : ∀ y ∈ appL m w, 0 ≤ y ∧ y < (m.length : Int) := fun y hy => by
  obtain ⟨x, hx, hyx⟩ := List.mem_flatMap.1 hy
  have := hw x hx
  exact (h.img this.1 this.2).2.2 y hyx
theorem app_len8 {m : List (List Int)} (h : IsMor m) : ∀ (w : List Int), (∀ x ∈ w, 0 ≤ x ∧ x < (m.length : Int)) → (appL m w).length ≤ 8 * w.length
  | [], _ => by simp [appL]
  | x :: w, hw => by
    have h1 := hw x (by simp)
    have h2 := (h.img h1.1 h1.2).2.1
    have h3 := app_len8 h w fun y hy => hw y (by simp [hy])
    rw [appL_cons, List.length_append, List.length_cons]
    omega
def appK (m : List (List Int)) (w : List Int) : Bool := morB m && wordB w m.length && decide ((appL m w).length ≤ 400)
def appV (m : List (List Int)) (w : List Int) : List Int := if appK m w = true then appL m w else []
theorem appK_out {m : List (List Int)} {w : List Int} (h : appK m w = true) : IsMor m ∧ IsWd w m.length ∧ (appL m w).length ≤ 400 := by
  simp only [appK, Bool.and_eq_true, decide_eq_true_eq] at h
  exact ⟨morB_out h.1.1, wordB_out h.1.2, h.2⟩
theorem appK_yes {m : List (List Int)} {w : List Int} (h : IsMor m) (hw : IsWd w m.length) (hl : (appL m w).length ≤ 400) : appK m w = true := by simp [appK, morB_yes h, wordB_yes hw, hl]
theorem appV_len (m : List (List Int)) (w : List Int) : (appV m w).length ≤ 400 := by
  unfold appV
  split
  · rename_i h
    exact (appK_out h).2.2
  · simp
theorem app_word {m : List (List Int)} {w : List Int} (h : appK m w = true) : wordB (appL m w) m.length = true := by
  obtain ⟨h1, h2, h3⟩ := appK_out h
  exact wordB_yes ⟨h2.1, h2.2.1, h3, h1.app_in h2.2.2.2⟩

/-- What k steps make of a letter, none where one of the words on the way is too long. -/
def itF (m : List (List Int)) (a : Int) : Nat → Option (List Int)
  | 0 => some [a]
  | k + 1 => match itF m a k with
    | none => none
    | some w => if appK m w = true then some (appL m w) else none
theorem itF_succ {m : List (List Int)} {a : Int} {k : Nat} {w : List Int} (h : itF m a k = some w) : itF m a (k + 1) = if appK m w = true then some (appL m w) else none := by
  show (match itF m a k with | none => none | some w => if appK m w = true then some (appL m w) else none) = _
  rw [h]
theorem itF_none {m : List (List Int)} {a : Int} {k : Nat} (h : itF m a k = none) : ∀ j : Nat, itF m a (k + j) = none
  | 0 => h
  | j + 1 => by
    show (match itF m a (k + j) with | none => none | some w => if appK m w = true then some (appL m w) else none) = _
    rw [itF_none h j]
theorem itF_word {m : List (List Int)} {a : Int} (hm : IsMor m) (ha : 0 ≤ a ∧ a < (m.length : Int)) : ∀ (k : Nat) (w : List Int), itF m a k = some w → IsWd w m.length
  | 0, w, h => by
    obtain rfl := Option.some.inj h
    refine ⟨by have := hm.1; omega, by have := hm.2.1; omega, by simp, fun x hx => ?_⟩
    obtain rfl : x = a := by simpa using hx
    exact ha
  | k + 1, w, h => by
    cases hk : itF m a k with
    | none => have := itF_none hk 1; rw [this] at h; cases h
    | some u =>
      rw [itF_succ hk] at h
      split at h
      · obtain rfl := Option.some.inj h
        rename_i h1
        exact wordB_out (app_word h1)
      · cases h
def letB (m : List (List Int)) (a : Int) : Bool := decide (0 ≤ a ∧ a < (m.length : Int))
def iterK (m : List (List Int)) (a n : Int) : Bool := morB m && letB m a && decide (0 ≤ n ∧ n ≤ 20) && (itF m a n.toNat).isSome
def iterV (m : List (List Int)) (a n : Int) : List Int := if iterK m a n = true then (itF m a n.toNat).getD [] else []
theorem iterV_len (m : List (List Int)) (a n : Int) : (iterV m a n).length ≤ 400 := by
  unfold iterV
  split
  · rename_i h
    simp only [iterK, Bool.and_eq_true, decide_eq_true_eq, letB] at h
    obtain ⟨⟨⟨h1, h2⟩, h3⟩, h4⟩ := h
    obtain ⟨w, hw⟩ := Option.isSome_iff_exists.1 h4
    rw [hw]
    exact (itF_word (morB_out h1) h2 _ w hw).2.2.1
  · simp

/-- Letters of which k steps leave nothing. -/
def van (m : List (List Int)) : Nat → Int → Bool
  | 0, _ => false
  | k + 1, x => (img m x).all (van m k)
theorem van_succ (m : List (List Int)) (k : Nat) (x : Int) : van m (k + 1) x = (img m x).all (van m k) := rfl
theorem van_mono {m : List (List Int)} : ∀ (k : Nat) (x : Int), van m k x = true → van m (k + 1) x = true
  | 0, x, h => by cases h
  | k + 1, x, h => by
    rw [van_succ, List.all_eq_true] at h ⊢
    exact fun y hy => van_mono k y (h y hy)
theorem van_le {m : List (List Int)} {k : Nat} {x : Int} (h : van m k x = true) : ∀ j : Nat, van m (k + j) x = true
  | 0 => h
  | j + 1 => van_mono _ _ (van_le h j)
theorem van_le' {m : List (List Int)} {k j : Nat} {x : Int} (h : van m k x = true) (hj : k ≤ j) : van m j x = true := by
  have := van_le h (j - k)
  rwa [show k + (j - k) = j from by omega] at this
/-- How many letters vanish in k steps. -/
def vcount (m : List (List Int)) (k : Nat) : Nat := ((List.range m.length).filter fun i : Nat => van m k i).length
theorem vcount_le (m : List (List Int)) (k : Nat) : vcount m k ≤ m.length := by
  have := List.length_filter_le (fun i : Nat => van m k i) (List.range m.length)
  simpa [vcount] using this
theorem van_still {m : List (List Int)} (hm : IsMor m) {k : Nat} (h : ∀ i : Nat, i < m.length → van m (k + 1) i = van m k i) : ∀ (j : Nat) (i : Nat), i < m.length → van m (k + j) i = van m k i
  | 0, i, hi => rfl
  | j + 1, i, hi => by
    rw [← h i hi]
    show (img m i).all (van m (k + j)) = (img m i).all (van m k)
    have him := hm.img (x := i) (by omega) (by omega)
    have : ∀ y ∈ img m i, van m (k + j) y = van m k y := fun y hy => by
      have h1 := him.2.2 y hy
      have h2 := van_still hm h j y.toNat (by omega)
      rwa [show ((y.toNat : Nat) : Int) = y from by omega] at h2
    rw [Bool.eq_iff_iff, List.all_eq_true, List.all_eq_true]
    exact ⟨fun h y hy => by rw [← this y hy]; exact h y hy, fun h y hy => by rw [this y hy]; exact h y hy⟩
theorem filter_lt {α : Type} (l : List α) (p q : α → Bool) (h : ∀ x ∈ l, p x = true → q x = true) {y : α} (hy : y ∈ l) (h1 : q y = true) (h2 : p y = false) : (l.filter p).length < (l.filter q).length := by
  induction l with
  | nil => cases hy
  | cons x l ih =>
    have hle : ∀ (l : List α), (∀ x ∈ l, p x = true → q x = true) → (l.filter p).length ≤ (l.filter q).length := fun l hl => by
      induction l with
      | nil => simp
      | cons x l ih =>
        have h3 := hl x (by simp)
        have h4 := ih fun z hz => hl z (by simp [hz])
        by_cases hp : p x = true
        · simp [hp, h3 hp, h4]
        · by_cases hq : q x = true
          · simp [hp, hq]; omega
          · simp [hp, hq, h4]
    have hl := hle l fun z hz => h z (by simp [hz])
    rcases List.mem_cons.1 hy with rfl | hy'
    · simp [h1, h2]; omega
    · have h3 := ih (fun z hz => h z (by simp [hz])) hy'
      have h4 := h x (by simp)
      by_cases hp : p x = true
      · simp [hp, h4 hp, h3]
      · by_cases hq : q x = true
        · simp [hp, hq]; omega
        · simp [hp, hq, h3]
theorem van_steps {m : List (List Int)} (hm : IsMor m) : ∀ k : Nat, k ≤ vcount m k ∨ ∃ j, j < k ∧ ∀ i : Nat, i < m.length → van m (j + 1) i = van m j i
  | 0 => .inl (Nat.zero_le _)
  | k + 1 => by
    rcases van_steps hm k with h | ⟨j, hj, h⟩
    · by_cases hs : ∀ i : Nat, i < m.length → van m (k + 1) i = van m k i
      · exact .inr ⟨k, Nat.lt_succ_self _, hs⟩
      · refine .inl ?_
        obtain ⟨i, hi⟩ : ∃ i : Nat, ¬ (i < m.length → van m (k + 1) i = van m k i) := Classical.not_forall.1 hs
        have hil : i < m.length := Classical.byContradiction fun h => hi fun h' => absurd h' h
        have hne : van m (k + 1) i ≠ van m k i := fun e => hi fun _ => e
        have h1 : van m k i = false := by
          cases hv : van m k i with
          | false => rfl
          | true => exact absurd ((van_mono k i hv).trans hv.symm) hne
        have h2 : van m (k + 1) i = true := by
          cases hv : van m (k + 1) i with
          | true => rfl
          | false => exact absurd (hv.trans h1.symm) hne
        have := filter_lt (List.range m.length) (fun i : Nat => van m k i) (fun i : Nat => van m (k + 1) i) (fun x _ hx => van_mono k x hx) (y := i) (List.mem_range.2 hil) h2 h1
        unfold vcount at h ⊢
        omega
    · exact .inr ⟨j, by omega, h⟩
/-- What vanishes at all vanishes in as many steps as there are letters. -/
theorem van_end {m : List (List Int)} (hm : IsMor m) {x : Int} (hx : 0 ≤ x ∧ x < (m.length : Int)) {j : Nat} (h : van m j x = true) : van m m.length x = true := by
  by_cases hj : j ≤ m.length
  · exact van_le' h hj
  · have e : ((x.toNat : Nat) : Int) = x := by omega
    obtain ⟨k, hk, hs⟩ : ∃ k, k < m.length + 1 ∧ ∀ i : Nat, i < m.length → van m (k + 1) i = van m k i := by
      rcases van_steps hm (m.length + 1) with h1 | h1
      · have := vcount_le m (m.length + 1); omega
      · exact h1
    have h2 := van_still hm hs (j - k) x.toNat (by omega)
    rw [show k + (j - k) = j from by omega, e] at h2
    rw [h2] at h
    exact van_le' h (by omega)
def allVan (m : List (List Int)) (k : Nat) (w : List Int) : Bool := w.all (van m k)
theorem allVan_zero (m : List (List Int)) (w : List Int) : allVan m 0 w = true ↔ w = [] := by
  unfold allVan
  cases w with
  | nil => simp
  | cons x w => simp [van]
theorem allVan_app (m : List (List Int)) (k : Nat) (w : List Int) : allVan m k (appL m w) = allVan m (k + 1) w := by
  unfold allVan appL
  rw [List.all_flatMap]
  rfl
theorem allVan_congr {m : List (List Int)} {k : Nat} {u w : List Int} (h : ∀ x, x ∈ u ↔ x ∈ w) : allVan m k u = allVan m k w := by
  unfold allVan
  rw [Bool.eq_iff_iff, List.all_eq_true, List.all_eq_true]
  exact ⟨fun h' x hx => h' x ((h x).2 hx), fun h' x hx => h' x ((h x).1 hx)⟩
theorem allVan_end {m : List (List Int)} (hm : IsMor m) {w : List Int} (hw : ∀ x ∈ w, 0 ≤ x ∧ x < (m.length : Int)) {j : Nat} (hj : m.length ≤ j) : allVan m j w = allVan m m.length w := by
  unfold allVan
  rw [Bool.eq_iff_iff, List.all_eq_true, List.all_eq_true]
  exact ⟨fun h x hx => van_end hm (hw x hx) (h x hx), fun h x hx => van_le' (h x hx) hj⟩
/-- The different letters after j steps, in the order in which they are found. -/
def rst (m : List (List Int)) (w : List Int) : Nat → List Int
  | 0 => w
  | j + 1 => dist (appL m (rst m w j))
theorem rst_in {m : List (List Int)} (hm : IsMor m) {w : List Int} (hw : ∀ x ∈ w, 0 ≤ x ∧ x < (m.length : Int)) : ∀ j : Nat, ∀ x ∈ rst m w j, 0 ≤ x ∧ x < (m.length : Int)
  | 0 => hw
  | j + 1 => fun x hx => hm.app_in (rst_in hm hw j) x (mem_dist.1 hx)
theorem rst_van (m : List (List Int)) (w : List Int) : ∀ (j k : Nat), allVan m k (rst m w j) = allVan m (k + j) w
  | 0, k => rfl
  | j + 1, k => by
    show allVan m k (dist (appL m (rst m w j))) = _
    rw [allVan_congr (u := dist (appL m (rst m w j))) (w := appL m (rst m w j)) (fun x => mem_dist), allVan_app, rst_van m w j (k + 1), show k + 1 + j = k + (j + 1) from by omega]
theorem rst_end {m : List (List Int)} (hm : IsMor m) {w : List Int} (hw : ∀ x ∈ w, 0 ≤ x ∧ x < (m.length : Int)) : decide (0 < (rst m w (m.length + 1)).length) = !allVan m m.length w := by
  rw [← allVan_end hm hw (j := m.length + 1) (by omega), show m.length + 1 = 0 + (m.length + 1) from by omega, ← rst_van m w (m.length + 1) 0, show 0 + (m.length + 1) = m.length + 1 from by omega]
  cases hr : rst m w (m.length + 1) with
  | nil => simp [allVan]
  | cons x l => simp [allVan, van]
/-- The letter a grows. -/
def growB (m : List (List Int)) (a : Int) : Bool := morB m && letB m a && decide (2 ≤ (img m a).length ∧ (img m a).getD 0 0 = a) && !allVan m m.length ((img m a).drop 1)

/-- How a fixed word is made: letter by letter the images are put behind it. -/
def fxL (m : List (List Int)) (a : Int) : Nat → List Int
  | 0 => img m a
  | i + 1 => fxL m a i ++ img m ((fxL m a i).getD (i + 1) 0)
/-- The word with a in front and y behind that, of which h takes every beginning to a longer one. -/
structure Grows (m : List (List Int)) (a : Int) : Prop where
  mor : IsMor m
  let_ : 0 ≤ a ∧ a < (m.length : Int)
  head : ∃ y, img m a = a :: y ∧ y ≠ [] ∧ ∀ j, allVan m j y = false
theorem grows_of {m : List (List Int)} {a : Int} (h : growB m a = true) : Grows m a := by
  simp only [growB, Bool.and_eq_true, decide_eq_true_eq, letB, Bool.not_eq_true'] at h
  obtain ⟨⟨⟨h1, h2⟩, h3, h4⟩, h5⟩ := h
  have hm := morB_out h1
  refine ⟨hm, h2, (img m a).drop 1, ?_, ?_, fun j => ?_⟩
  · cases hi : img m a with
    | nil => rw [hi] at h3; simp at h3
    | cons x y => rw [hi] at h4; simp at h4; simp [h4]
  · intro e
    have := congrArg List.length e
    simp at this; omega
  · cases hv : allVan m j ((img m a).drop 1) with
    | false => rfl
    | true =>
      have hw : ∀ x ∈ (img m a).drop 1, 0 ≤ x ∧ x < (m.length : Int) := fun x hx => (hm.img h2.1 h2.2).2.2 x (List.mem_of_mem_drop hx)
      have : allVan m m.length ((img m a).drop 1) = true := by
        unfold allVan at hv ⊢
        rw [List.all_eq_true] at hv ⊢
        exact fun x hx => van_end hm (hw x hx) (hv x hx)
      rw [this] at h5; cases h5
def appN (m : List (List Int)) : Nat → List Int → List Int
  | 0, w => w
  | k + 1, w => appN m k (appL m w)
theorem appN_nil_iff (m : List (List Int)) : ∀ (k : Nat) (w : List Int), appN m k w = [] ↔ allVan m k w = true
  | 0, w => (allVan_zero m w).symm
  | k + 1, w => by
    rw [← allVan_app]
    exact appN_nil_iff m k (appL m w)
theorem appN_append (m : List (List Int)) : ∀ (k : Nat) (u w : List Int), appN m k (u ++ w) = appN m k u ++ appN m k w
  | 0, u, w => rfl
  | k + 1, u, w => by show appN m k (appL m (u ++ w)) = _; rw [appL_append, appN_append m k]; rfl
theorem no_fixed {m : List (List Int)} {y : List Int} (h : ∀ j, allVan m j y = false) : ∀ (k : Nat) (x : List Int), (∃ j, x = appN m j y ++ appL m x) → k ≤ x.length := by
  intro k
  -- x = h^j(y) h(x): then h(x) = h^(j+1)(y) h(h(x)), shorter by one letter at least
  have step : ∀ (k j : Nat) (x : List Int), x = appN m j y ++ appL m x → k ≤ x.length := by
    intro k
    induction k with
    | zero => intro j x _; exact Nat.zero_le _
    | succ k ih =>
      intro j x hx
      have hne : appN m j y ≠ [] := fun e => by
        have := (appN_nil_iff m j y).1 e
        rw [h j] at this; cases this
      have hl := List.length_pos_iff.2 hne
      have hs : appN m (j + 1) y = appL m (appN m j y) := by
        have : ∀ (j : Nat) (u : List Int), appN m j (appL m u) = appL m (appN m j u) := fun j => by
          induction j with
          | zero => intro u; rfl
          | succ j ih2 => intro u; exact ih2 (appL m u)
        exact this j y
      have h2 : appL m x = appN m (j + 1) y ++ appL m (appL m x) := by
        have := congrArg (appL m) hx
        rw [appL_append, ← hs] at this
        exact this
      have h3 := ih (j + 1) (appL m x) h2
      have h4 := congrArg List.length hx
      rw [List.length_append] at h4
      omega
  rintro x ⟨j, hx⟩
  exact step k j x hx
theorem fx_len_mono (m : List (List Int)) (a : Int) (i : Nat) : (fxL m a i).length ≤ (fxL m a (i + 1)).length := by
  show _ ≤ (fxL m a i ++ _).length
  rw [List.length_append]; omega
theorem fx_prefix (m : List (List Int)) (a : Int) (i : Nat) : fxL m a i <+: fxL m a (i + 1) := ⟨_, rfl⟩
theorem Grows.fx {m : List (List Int)} {a : Int} (h : Grows m a) : ∀ i : Nat, i + 1 < (fxL m a i).length ∧ (∀ x ∈ fxL m a i, 0 ≤ x ∧ x < (m.length : Int)) ∧ fxL m a i = appL m ((fxL m a i).take (i + 1)) ∧ (fxL m a i)[0]? = some a := by
  obtain ⟨y, hy, hne, hv⟩ := h.head
  have key : ∀ i : Nat, (∀ x ∈ fxL m a i, 0 ≤ x ∧ x < (m.length : Int)) → fxL m a i = appL m ((fxL m a i).take (i + 1)) → (fxL m a i)[0]? = some a → i + 1 < (fxL m a i).length := by
    intro i _ h2 h3
    refine Classical.byContradiction fun hlt => ?_
    have hle : (fxL m a i).length ≤ i + 1 := by omega
    rw [List.take_of_length_le hle] at h2
    obtain ⟨x, hx⟩ : ∃ x, fxL m a i = a :: x := by
      cases hf : fxL m a i with
      | nil => rw [hf] at h3; cases h3
      | cons z x => rw [hf] at h3; simp at h3; exact ⟨x, by rw [h3]⟩
    rw [hx, appL_cons, hy] at h2
    have h4 : x = y ++ appL m x := by simpa using h2
    have := no_fixed hv (x.length + 1) x ⟨0, h4⟩
    omega
  intro i
  induction i with
  | zero =>
    have h1 : (∀ x ∈ fxL m a 0, 0 ≤ x ∧ x < (m.length : Int)) := (h.mor.img h.let_.1 h.let_.2).2.2
    have h3 : (fxL m a 0)[0]? = some a := by show (img m a)[0]? = _; rw [hy]; rfl
    have h2 : fxL m a 0 = appL m ((fxL m a 0).take (0 + 1)) := by
      show img m a = appL m ((img m a).take 1)
      rw [hy]
      show a :: y = appL m [a]
      rw [appL_one, hy]
    exact ⟨key 0 h1 h2 h3, h1, h2, h3⟩
  | succ i ih =>
    obtain ⟨h0, h1, h2, h3⟩ := ih
    have hx : (fxL m a i)[i + 1]? = some ((fxL m a i).getD (i + 1) 0) := by
      rw [List.getElem?_eq_getElem h0]; simp [List.getD, h0]
    have hxm := h1 _ (List.mem_of_getElem? hx)
    have g1 : ∀ x ∈ fxL m a (i + 1), 0 ≤ x ∧ x < (m.length : Int) := fun x hx' => by
      rcases List.mem_append.1 hx' with h4 | h4
      · exact h1 x h4
      · exact (h.mor.img hxm.1 hxm.2).2.2 x h4
    have g2 : fxL m a (i + 1) = appL m ((fxL m a (i + 1)).take (i + 1 + 1)) := by
      have e1 : (fxL m a (i + 1)).take (i + 1 + 1) = (fxL m a i).take (i + 1 + 1) := by
        show (fxL m a i ++ _).take _ = _
        exact List.take_append_of_le_length (by omega)
      rw [e1, appL_take_succ hx, ← h2]
      rfl
    have g3 : (fxL m a (i + 1))[0]? = some a := by
      show (fxL m a i ++ _)[0]? = _
      rw [List.getElem?_append_left (by omega)]
      exact h3
    exact ⟨key (i + 1) g1 g2 g3, g1, g2, g3⟩
theorem Grows.fx_next {m : List (List Int)} {a : Int} (h : Grows m a) (i : Nat) : ∃ (x : Nat) (r : List Int), (fxL m a i)[i + 1]? = some (x : Int) ∧ x < m.length ∧ m[x]? = some r ∧ r.length ≤ 8 ∧ fxL m a (i + 1) = fxL m a i ++ r := by
  obtain ⟨h0, h1, h2, h3⟩ := h.fx i
  have hx : (fxL m a i)[i + 1]? = some ((fxL m a i).getD (i + 1) 0) := by
    rw [List.getElem?_eq_getElem h0]; simp [List.getD, h0]
  have hxm := h1 _ (List.mem_of_getElem? hx)
  obtain ⟨h4, h5, _⟩ := h.mor.img hxm.1 hxm.2
  have e : ((((fxL m a i).getD (i + 1) 0).toNat : Nat) : Int) = (fxL m a i).getD (i + 1) 0 := by omega
  exact ⟨((fxL m a i).getD (i + 1) 0).toNat, _, by rw [e]; exact hx, by omega, h4, h5, rfl⟩
theorem Grows.fx_first {m : List (List Int)} {a : Int} (h : Grows m a) : ∃ x : Nat, (x : Int) = a ∧ x < m.length ∧ m[x]? = some (fxL m a 0) ∧ 2 ≤ (fxL m a 0).length ∧ (fxL m a 0).length ≤ 8 := by
  obtain ⟨h4, h5, _⟩ := h.mor.img h.let_.1 h.let_.2
  have := (h.fx 0).1
  exact ⟨a.toNat, by have := h.let_; omega, by have := h.let_; omega, h4, by omega, h5⟩
theorem fx_le {m : List (List Int)} {a : Int} (i : Nat) : ∀ j : Nat, fxL m a i <+: fxL m a (i + j)
  | 0 => List.prefix_rfl
  | j + 1 => (fx_le i j).trans (fx_prefix m a (i + j))
theorem fx_take {m : List (List Int)} {a : Int} {i j n : Nat} (hi : n ≤ (fxL m a i).length) (hj : n ≤ (fxL m a j).length) : (fxL m a i).take n = (fxL m a j).take n := by
  have : ∀ {i j : Nat}, i ≤ j → n ≤ (fxL m a i).length → (fxL m a i).take n = (fxL m a j).take n := fun {i j} hij h1 => by
    obtain ⟨t, ht⟩ := fx_le (m := m) (a := a) i (j - i)
    rw [show i + (j - i) = j from by omega] at ht
    rw [← ht, List.take_append_of_le_length h1]
  rcases Nat.le_total i j with h | h
  · exact this h hi
  · exact (this h hj).symm
def fixK (m : List (List Int)) (a n : Int) : Bool := growB m a && decide (0 ≤ n ∧ n ≤ 256)
def fixV (m : List (List Int)) (a n : Int) : List Int := if fixK m a n = true then (fxL m a n.toNat).take n.toNat else []
theorem fixV_len (m : List (List Int)) (a n : Int) : (fixV m a n).length ≤ 256 := by
  unfold fixV
  split
  · rename_i h
    simp only [fixK, Bool.and_eq_true, decide_eq_true_eq] at h
    rw [List.length_take]; omega
  · simp
/-- A morphism out of a sequence, a sequence out of a morphism. -/
def moR (b : Int) (rows : List (List Int)) (out : List Int) : List (List Int) := if steadyB b rows out = true then rows else []
def sqK (m : List (List Int)) (c : List Int) : Bool := morB m && steadyB ((m.getD 0 []).length : Int) m c
def sqB (m : List (List Int)) (c : List Int) : Int := if sqK m c = true then ((m.getD 0 []).length : Int) else 0
def sqR (m : List (List Int)) (c : List Int) : List (List Int) := if sqK m c = true then m else []
def sqO (m : List (List Int)) (c : List Int) : List Int := if sqK m c = true then c else []
end Go.Proofs.Ytcnejfihpaicdaa.Plain
