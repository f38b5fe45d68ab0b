/- Plain facts on the order of words, on the list of the different parts of a word, on places where a part begins and on borders. No conditions beyond those that each fact states. -/
import Derived.WalkKit
import Derived.Lib.Hide
namespace Go.Proofs.Ytcnejfihpaicdaa.Plain

/-- The order of words: -1, 0 or 1. -/
def cmpW : List Int → List Int → Int
  | [], [] => 0
  | [], _ :: _ => -1
  | _ :: _, [] => 1
  | x :: u, y :: v => if x < y then -1 else if y < x then 1 else cmpW u v
theorem cmpW_self : ∀ u : List Int, cmpW u u = 0
  | [] => rfl
  | x :: u => by simp [cmpW, cmpW_self u]
theorem cmpW_three : ∀ u v : List Int, cmpW u v = -1 ∨ cmpW u v = 0 ∨ cmpW u v = 1
  | [], [] => by simp [cmpW]
  | [], _ :: _ => by simp [cmpW]
  | _ :: _, [] => by simp [cmpW]
  | x :: u, y :: v => by
    have := cmpW_three u v
    unfold cmpW
    split
    · simp
    · split
      · simp
      · exact this
theorem cmpW_zero : ∀ u v : List Int, cmpW u v = 0 → u = v
  | [], [], _ => rfl
  | [], _ :: _, h => by simp [cmpW] at h
  | _ :: _, [], h => by simp [cmpW] at h
  | x :: u, y :: v, h => by
    unfold cmpW at h
    split at h
    · simp at h
    · split at h
      · simp at h
      · rw [cmpW_zero u v h, show x = y from by omega]
theorem cmpW_neg : ∀ u v : List Int, cmpW v u = - cmpW u v
  | [], [] => by simp [cmpW]
  | [], _ :: _ => by simp [cmpW]
  | _ :: _, [] => by simp [cmpW]
  | x :: u, y :: v => by
    have := cmpW_neg u v
    unfold cmpW
    by_cases h1 : x < y
    · have h2 : ¬ y < x := by omega
      simp [h1, h2]
    · by_cases h2 : y < x
      · simp [h1, h2]
      · simp [h1, h2, this]
theorem cmpW_trans : ∀ u v t : List Int, cmpW u v < 0 → cmpW v t < 0 → cmpW u t < 0
  | [], [], _, h, _ => by simp [cmpW] at h
  | _ :: _, [], _, h, _ => by simp [cmpW] at h
  | _, _ :: _, [], _, h => by simp [cmpW] at h
  | [], _ :: _, _ :: _, _, _ => by simp [cmpW]
  | x :: u, y :: v, z :: t, h1, h2 => by
    have ih := cmpW_trans u v t
    unfold cmpW at h1 h2 ⊢
    by_cases a1 : x < y
    · by_cases b1 : y < z
      · have : x < z := by omega
        simp [this]
      · by_cases b2 : z < y
        · simp [b1, b2] at h2
        · have : x < z := by omega
          simp [this]
    · by_cases a2 : y < x
      · simp [a1, a2] at h1
      · obtain rfl : x = y := by omega
        by_cases b1 : x < z
        · simp [b1]
        · by_cases b2 : z < x
          · simp [b1, b2] at h2
          · simp [b1, b2] at h1 h2 ⊢
            exact ih h1 h2
/-- The comparison's rounds. -/
theorem cmpW_at {u v : List Int} {i : Nat} {x y : Int} (hx : u[i]? = some x) (hy : v[i]? = some y) : cmpW (u.drop i) (v.drop i) = if x < y then -1 else if y < x then 1 else cmpW (u.drop (i + 1)) (v.drop (i + 1)) := by
  obtain ⟨h1, rfl⟩ := List.getElem?_eq_some_iff.1 hx
  obtain ⟨h2, rfl⟩ := List.getElem?_eq_some_iff.1 hy
  rw [List.drop_eq_getElem_cons h1, List.drop_eq_getElem_cons h2]
  rfl
theorem cmpW_short {u v : List Int} {i : Nat} (hx : i < u.length) (hy : v.length ≤ i) : cmpW (u.drop i) (v.drop i) = 1 := by
  rw [List.drop_eq_getElem_cons hx, List.drop_of_length_le hy]
  rfl
theorem cmpW_long {u v : List Int} {i : Nat} (hx : u.length ≤ i) (hy : i < v.length) : cmpW (u.drop i) (v.drop i) = -1 := by
  rw [List.drop_eq_getElem_cons hy, List.drop_of_length_le hx]
  rfl
theorem cmpW_both {u v : List Int} {i : Nat} (hx : u.length ≤ i) (hy : v.length ≤ i) : cmpW (u.drop i) (v.drop i) = 0 := by
  rw [List.drop_of_length_le hx, List.drop_of_length_le hy]
  rfl
/-- Words in strictly ascending order. -/
def SD (l : List (List Int)) : Prop := l.Pairwise fun u v => cmpW u v < 0
theorem sd_unique : ∀ l m : List (List Int), SD l → SD m → (∀ x, x ∈ l ↔ x ∈ m) → l = m
  | [], [], _, _, _ => rfl
  | [], b :: m, _, _, h => by have := (h b).2 (by simp); cases this
  | a :: l, [], _, _, h => by have := (h a).1 (by simp); cases this
  | a :: l, b :: m, hl, hm, h => by
    have hl' := List.pairwise_cons.1 hl
    have hm' := List.pairwise_cons.1 hm
    have hab : a = b := by
      rcases List.mem_cons.1 ((h a).1 (by simp)) with e | e
      · exact e
      · rcases List.mem_cons.1 ((h b).2 (by simp)) with e' | e'
        · exact e'.symm
        · have h1 := hm'.1 a e
          have h2 := hl'.1 b e'
          rw [cmpW_neg] at h1
          omega
    subst hab
    have nl : a ∉ l := fun e => by have := hl'.1 a e; rw [cmpW_self] at this; omega
    have nm : a ∉ m := fun e => by have := hm'.1 a e; rw [cmpW_self] at this; omega
    rw [sd_unique l m hl'.2 hm'.2 fun x => ⟨fun hx => by
      rcases List.mem_cons.1 ((h x).1 (by simp [hx])) with e | e
      · subst e; exact absurd hx nl
      · exact e, fun hx => by
      rcases List.mem_cons.1 ((h x).2 (by simp [hx])) with e | e
      · subst e; exact absurd hx nm
      · exact e⟩]
/-- A word put into a list in order, once; 'true': it is there already. -/
def putW (w : List Int) : Bool → List (List Int) → List (List Int)
  | c, [] => if c then [] else [w]
  | c, x :: l => (if cmpW w x < 0 ∧ c = false then [w] else []) ++ x :: putW w (c || decide (cmpW w x ≤ 0)) l
theorem putW_true (w : List Int) : ∀ l, putW w true l = l
  | [] => rfl
  | x :: l => by simp [putW, putW_true w l]
theorem putW_cons (w x : List Int) (l : List (List Int)) : putW w false (x :: l) = if cmpW w x < 0 then w :: x :: l else if cmpW w x = 0 then x :: l else x :: putW w false l := by
  have := cmpW_three w x
  rw [show putW w false (x :: l) = (if cmpW w x < 0 ∧ false = false then [w] else []) ++ x :: putW w (false || decide (cmpW w x ≤ 0)) l from rfl]
  rcases this with e | e | e <;> simp [e, putW_true]
theorem putW_mem (w : List Int) : ∀ l x, x ∈ putW w false l ↔ x = w ∨ x ∈ l
  | [], x => by simp [putW]
  | y :: l, x => by
    rw [putW_cons]
    split
    · simp
    · split
      · rename_i h
        have := cmpW_zero _ _ h
        subst this
        constructor
        · exact fun h => .inr h
        · rintro (h | h)
          · subst h; simp
          · exact h
      · rw [List.mem_cons, putW_mem w l x, List.mem_cons]
        constructor
        · rintro (h | h | h)
          · exact .inr (.inl h)
          · exact .inl h
          · exact .inr (.inr h)
        · rintro (h | h | h)
          · exact .inr (.inl h)
          · exact .inl h
          · exact .inr (.inr h)
theorem putW_sd (w : List Int) : ∀ l, SD l → SD (putW w false l)
  | [], _ => by simp [putW, SD]
  | y :: l, h => by
    have h' := List.pairwise_cons.1 h
    rw [putW_cons]
    split
    · rename_i hlt
      refine List.pairwise_cons.2 ⟨fun z hz => ?_, h⟩
      rcases List.mem_cons.1 hz with e | e
      · subst e; exact hlt
      · exact cmpW_trans _ _ _ hlt (h'.1 z e)
    · split
      · exact h
      · rename_i h1 h2
        refine List.pairwise_cons.2 ⟨fun z hz => ?_, putW_sd w l h'.2⟩
        rcases (putW_mem w l z).1 hz with e | e
        · subst e
          have := cmpW_neg z y
          omega
        · exact h'.1 z e
/-- The different words of a list, in order. -/
def sdl (ps : List (List Int)) : List (List Int) := ps.foldl (fun l p => putW p false l) []
theorem sdl_snoc (ps : List (List Int)) (p : List Int) : sdl (ps ++ [p]) = putW p false (sdl ps) := by simp [sdl]
theorem fold_sd : ∀ (ps l : List (List Int)), SD l → SD (ps.foldl (fun l p => putW p false l) l) ∧ ∀ x, x ∈ ps.foldl (fun l p => putW p false l) l ↔ x ∈ l ∨ x ∈ ps
  | [], l, h => ⟨h, fun x => by simp⟩
  | p :: ps, l, h => by
    obtain ⟨h1, h2⟩ := fold_sd ps (putW p false l) (putW_sd p l h)
    refine ⟨h1, fun x => (h2 x).trans ?_⟩
    rw [putW_mem, List.mem_cons]
    constructor
    · rintro ((h | h) | h)
      · exact .inr (.inl h)
      · exact .inl h
      · exact .inr (.inr h)
    · rintro (h | h | h)
      · exact .inl (.inr h)
      · exact .inl (.inl h)
      · exact .inr h
theorem sdl_sd (ps : List (List Int)) : SD (sdl ps) := (fold_sd ps [] List.Pairwise.nil).1
theorem sdl_mem (ps : List (List Int)) (x : List Int) : x ∈ sdl ps ↔ x ∈ ps := by simpa [sdl] using (fold_sd ps [] List.Pairwise.nil).2 x
theorem sdl_eq {ps l : List (List Int)} (h : SD l) (hm : ∀ x, x ∈ l ↔ x ∈ ps) : sdl ps = l := sd_unique _ _ (sdl_sd ps) h fun x => (sdl_mem ps x).trans (hm x).symm
theorem sdl_len (ps : List (List Int)) : (sdl ps).length ≤ ps.length := by
  have put_len : ∀ (w : List Int) l, (putW w false l).length ≤ l.length + 1 := fun w l => by
    induction l with
    | nil => simp [putW]
    | cons x l ih =>
      rw [putW_cons]
      split
      · simp
      · split <;> simp <;> omega
  have : ∀ (ps l : List (List Int)), (ps.foldl (fun l p => putW p false l) l).length ≤ l.length + ps.length := fun ps => by
    induction ps with
    | nil => simp
    | cons p ps ih =>
      intro l
      have h1 := ih (putW p false l)
      have h2 := put_len p l
      simp only [List.foldl_cons, List.length_cons]
      omega
  simpa [sdl] using this ps []
/-- Neighbours that are alike, once; what is alike is told by a key. -/
def ddF {β : Type} (key : β → List Int) : List Int → List β → List β
  | _, [] => []
  | p, y :: l => if key y = p then ddF key (key y) l else y :: ddF key (key y) l
def dd {β : Type} (key : β → List Int) : List β → List β
  | [] => []
  | x :: l => x :: ddF key (key x) l
theorem ddF_mem {β : Type} {key : β → List Int} : ∀ (p : List Int) (l : List β) (x : β), x ∈ ddF key p l → x ∈ l
  | _, [], _, h => h
  | p, y :: l, x, h => by
    unfold ddF at h
    split at h
    · exact List.mem_cons_of_mem _ (ddF_mem _ l x h)
    · rcases List.mem_cons.1 h with e | e
      · simp [e]
      · exact List.mem_cons_of_mem _ (ddF_mem _ l x e)
theorem dd_mem {β : Type} {key : β → List Int} (l : List β) (x : β) (h : x ∈ dd key l) : x ∈ l := by
  cases l with
  | nil => exact h
  | cons y l =>
    rcases List.mem_cons.1 h with e | e
    · simp [e]
    · exact List.mem_cons_of_mem _ (ddF_mem _ l x e)
theorem ddF_sd {β : Type} {key : β → List Int} : ∀ (p : List Int) (l : List β), (∀ x ∈ l, cmpW p (key x) ≤ 0) → (l.Pairwise fun u v => cmpW (key u) (key v) ≤ 0) → (∀ x ∈ ddF key p l, cmpW p (key x) < 0) ∧ SD ((ddF key p l).map key) ∧ ∀ x ∈ l, key x = p ∨ key x ∈ (ddF key p l).map key
  | p, [], _, _ => ⟨by simp [ddF], by simp [ddF, SD], by simp⟩
  | p, y :: l, h0, h1 => by
    have h2 := List.pairwise_cons.1 h1
    obtain ⟨i1, i2, i3⟩ := ddF_sd (key y) l (fun x hx => h2.1 x hx) h2.2
    unfold ddF
    split
    · rename_i e
      rw [e] at i1 i2 i3 ⊢
      refine ⟨i1, i2, fun x hx => ?_⟩
      rcases List.mem_cons.1 hx with e' | e'
      · subst e'; exact .inl e
      · exact i3 x e'
    · rename_i e
      have hpy : cmpW p (key y) < 0 := by
        have := h0 y (by simp)
        rcases cmpW_three p (key y) with a | a | a
        · omega
        · exact absurd (cmpW_zero _ _ a).symm e
        · omega
      refine ⟨fun x hx => ?_, ?_, fun x hx => ?_⟩
      · rcases List.mem_cons.1 hx with e' | e'
        · subst e'; exact hpy
        · exact cmpW_trans _ _ _ hpy (i1 x e')
      · rw [List.map_cons]
        refine List.pairwise_cons.2 ⟨fun z hz => ?_, i2⟩
        obtain ⟨x, hx, rfl⟩ := List.mem_map.1 hz
        exact i1 x hx
      · rcases List.mem_cons.1 hx with e' | e'
        · subst e'; exact .inr (by simp)
        · rcases i3 x e' with a | a
          · exact .inr (by simp [a])
          · exact .inr (by rw [List.map_cons]; exact List.mem_cons_of_mem _ a)
/-- What is left of a sorted list is its different words, in order. -/
theorem dd_sdl {β : Type} {key : β → List Int} {l : List β} {ps : List (List Int)} (h : l.Pairwise fun u v => cmpW (key u) (key v) ≤ 0) (hp : (l.map key).Perm ps) : (dd key l).map key = sdl ps := by
  have hm : ∀ x, x ∈ (dd key l).map key ↔ x ∈ ps := by
    intro x
    rw [← hp.mem_iff]
    constructor
    · intro hx
      obtain ⟨y, hy, rfl⟩ := List.mem_map.1 hx
      exact List.mem_map_of_mem (dd_mem l y hy)
    · intro hx
      obtain ⟨y, hy, rfl⟩ := List.mem_map.1 hx
      cases l with
      | nil => cases hy
      | cons z l =>
        have h2 := List.pairwise_cons.1 h
        rcases List.mem_cons.1 hy with e | e
        · subst e; simp [dd]
        · rcases (ddF_sd (key z) l h2.1 h2.2).2.2 y e with a | a
          · simp [dd, a]
          · rw [dd, List.map_cons]
            exact List.mem_cons_of_mem _ a
  refine (sdl_eq ?_ hm).symm
  cases l with
  | nil => simp [dd, SD]
  | cons z l =>
    have h2 := List.pairwise_cons.1 h
    obtain ⟨i1, i2, _⟩ := ddF_sd (key z) l h2.1 h2.2
    rw [dd, List.map_cons]
    refine List.pairwise_cons.2 ⟨fun x hx => ?_, i2⟩
    obtain ⟨y, hy, rfl⟩ := List.mem_map.1 hx
    exact i1 y hy
/-- The compaction's rounds. -/
theorem ddF_snoc {β : Type} {key : β → List Int} : ∀ (p : List Int) (l : List β) (y : β), ddF key p (l ++ [y]) = ddF key p l ++ (if key y = ((l.map key).getLast?).getD p then [] else [y])
  | p, [], y => by simp [ddF]
  | p, z :: l, y => by
    have ih := ddF_snoc (key := key) (key z) l y
    have e : (((z :: l).map key).getLast?).getD p = ((l.map key).getLast?).getD (key z) := by
      cases l with
      | nil => simp
      | cons a l => simp [List.getLast?_cons]
    rw [e, List.cons_append]
    unfold ddF
    rw [ih]
    split <;> simp
theorem dd_snoc {β : Type} {key : β → List Int} {l : List β} {k : Nat} {x y : β} (hx : l[k]? = some x) (hy : l[k + 1]? = some y) : dd key (l.take (k + 2)) = dd key (l.take (k + 1)) ++ (if key y = key x then [] else [y]) := by
  obtain ⟨h1, h1'⟩ := List.getElem?_eq_some_iff.1 hx
  obtain ⟨h2, h2'⟩ := List.getElem?_eq_some_iff.1 hy
  rw [show k + 2 = (k + 1) + 1 from rfl, List.take_succ_eq_append_getElem h2, h2']
  cases l with
  | nil => simp at h1
  | cons z l =>
    rw [List.take_succ_cons, List.cons_append]
    show z :: ddF key (key z) (l.take k ++ [y]) = (z :: ddF key (key z) (l.take k)) ++ _
    rw [ddF_snoc, List.cons_append]
    have : (((l.take k).map key).getLast?).getD (key z) = key x := by
      cases k with
      | zero => simp at hx; simp [hx]
      | succ k =>
        rw [List.getElem?_cons_succ] at hx
        obtain ⟨h3, h3'⟩ := List.getElem?_eq_some_iff.1 hx
        rw [List.take_succ_eq_append_getElem h3, h3']
        simp
    rw [this]
theorem dd_one {β : Type} {key : β → List Int} (l : List β) : dd key (l.take 1) = l.take 1 := by
  cases l with
  | nil => rfl
  | cons x l => simp [dd, ddF]
/-- The greatest number below n with a property, -1 where there is none. -/
def gr (p : Nat → Bool) : Nat → Int
  | 0 => -1
  | n + 1 => if p n then n else gr p n
theorem gr_ge (p : Nat → Bool) : ∀ n, -1 ≤ gr p n ∧ gr p n < n
  | 0 => by simp [gr]
  | n + 1 => by
    have := gr_ge p n
    unfold gr
    split <;> omega
theorem gr_top {p : Nat → Bool} {n : Nat} (h : p n = true) : gr p (n + 1) = n := by simp [gr, h]
theorem gr_skip {p : Nat → Bool} {n : Nat} (h : p n = false) : gr p (n + 1) = gr p n := by simp [gr, h]
theorem gr_is {p : Nat → Bool} : ∀ {n k : Nat}, gr p n = k → p k = true ∧ k < n
  | 0, k, h => by simp [gr] at h
  | n + 1, k, h => by
    unfold gr at h
    split at h
    · rename_i hp
      obtain rfl : n = k := by omega
      exact ⟨hp, by omega⟩
    · have := gr_is h
      exact ⟨this.1, by omega⟩
theorem gr_above {p : Nat → Bool} : ∀ {n j : Nat}, j < n → gr p n < j → p j = false
  | 0, j, h, _ => by omega
  | n + 1, j, h, hj => by
    unfold gr at hj
    split at hj
    · omega
    · rename_i hp
      by_cases e : j = n
      · subst e; simpa using hp
      · exact gr_above (n := n) (by omega) hj
/-- What fits below a bound already is found below it. -/
theorem gr_cut {p q : Nat → Bool} {n m : Nat} (hm : m ≤ n) (h1 : ∀ j, j < m → p j = q j) (h2 : ∀ j, m ≤ j → j < n → p j = false) : gr p n = gr q m := by
  induction n with
  | zero => obtain rfl : m = 0 := by omega
            rfl
  | succ n ih =>
    by_cases e : m = n + 1
    · subst e
      clear ih h2 hm
      induction n with
      | zero => unfold gr; rw [h1 0 (by omega)]; rfl
      | succ n ih =>
        have := ih fun j hj => h1 j (by omega)
        unfold gr
        rw [this, h1 (n + 1) (by omega)]
    · rw [gr_skip (h2 n (by omega) (by omega))]
      exact ih (by omega) fun j hj hj' => h2 j hj (by omega)
/-- Does the part's beginning of j letters stand at the end of the beginning of k letters. -/
def sfx (u : List Int) (k j : Nat) : Bool := decide (u.take j <:+ u.take k)
/-- The longest border of the first k letters. -/
def bd (u : List Int) (k : Nat) : Int := gr (sfx u k) k
/-- How many letters fit behind one more letter. -/
def fa (u : List Int) (k : Int) (c : Int) : Int := gr (fun j => sfx u k.toNat j && decide (u[j]? = some c)) (k + 1).toNat + 1
theorem bd_ge (u : List Int) (k : Nat) : -1 ≤ bd u k ∧ bd u k < k := gr_ge _ _
theorem bd_zero (u : List Int) : bd u 0 = -1 := rfl
theorem fa_none (u : List Int) (c : Int) : fa u (-1) c = 0 := rfl
theorem sfx_self (u : List Int) (k : Nat) : sfx u k k = true := by simp [sfx]
theorem fa_hit {u : List Int} {k : Nat} {c : Int} (h : u[k]? = some c) : fa u k c = k + 1 := by
  unfold fa
  rw [show ((k : Int) + 1).toNat = k + 1 from by omega, gr_top (by simp [sfx_self, h])]
/-- Two beginnings that both stand at the end of a list. -/
theorem suf_iff {u t : List Int} {j k : Nat} (hjk : j ≤ k) (h : u.take k <:+ t) : u.take j <:+ t ↔ u.take j <:+ u.take k := by
  constructor
  · intro hj
    refine List.suffix_of_suffix_length_le hj h ?_
    rw [List.length_take, List.length_take]
    omega
  · exact fun hj => hj.trans h
theorem fa_miss {u : List Int} {k : Nat} {c : Int} (h : u[k]? ≠ some c) : fa u k c = fa u (bd u k) c := by
  unfold fa
  rw [show ((k : Int) + 1).toNat = k + 1 from by omega, show ((k : Int)).toNat = k from by omega, gr_skip (by simp [h])]
  have hb := bd_ge u k
  have e : gr (fun j => sfx u k j && decide (u[j]? = some c)) k = gr (fun j => sfx u (bd u k).toNat j && decide (u[j]? = some c)) (bd u k + 1).toNat := by
    refine gr_cut (by omega) (fun j hj => ?_) fun j hj hj' => ?_
    · obtain ⟨b, hbk⟩ : ∃ b : Nat, bd u k = b := ⟨(bd u k).toNat, by omega⟩
      have h1 := gr_is (p := sfx u k) hbk
      rw [hbk]
      have : sfx u k j = sfx u b j := by
        unfold sfx
        have := h1.1
        unfold sfx at this
        exact decide_eq_decide.2 (suf_iff (by omega) (of_decide_eq_true this))
      rw [Int.toNat_natCast, this]
    · have := gr_above (p := sfx u k) hj' (by unfold bd at hj; omega)
      simp [this]
  rw [e]
/-- How many letters of the part, below n, stand at the end of a list. -/
def mt (u t : List Int) (n : Nat) : Int := gr (fun j => decide (u.take j <:+ t)) n
theorem suf_snoc {u t : List Int} {j : Nat} {c : Int} (hj : j < u.length) : u.take (j + 1) <:+ t ++ [c] ↔ u.take j <:+ t ∧ u[j]? = some c := by
  rw [List.take_succ_eq_append_getElem hj, List.getElem?_eq_getElem hj]
  constructor
  · rintro ⟨s, hs⟩
    rw [← List.append_assoc] at hs
    have := List.append_inj' hs rfl
    exact ⟨⟨s, this.1⟩, by simpa using this.2⟩
  · rintro ⟨⟨s, hs⟩, h2⟩
    obtain rfl := Option.some.inj h2
    exact ⟨s, by rw [← List.append_assoc, hs]⟩
theorem gr_shift {p q : Nat → Bool} (h0 : p 0 = true) : ∀ n, (∀ j, j < n → p (j + 1) = q j) → gr p (n + 1) = gr q n + 1
  | 0, _ => by simp [gr, h0]
  | n + 1, h => by
    have ih := gr_shift h0 n fun j hj => h j (by omega)
    have := h n (by omega)
    rw [show gr p (n + 1 + 1) = if p (n + 1) then ((n + 1 : Nat) : Int) else gr p (n + 1) from rfl, this, ih]
    show _ = (if q n then (n : Int) else gr q n) + 1
    split <;> omega
/-- One more letter. -/
theorem mt_snoc (u t : List Int) (c : Int) : mt u (t ++ [c]) (u.length + 1) = fa u (mt u t u.length) c := by
  unfold fa
  rw [show mt u (t ++ [c]) (u.length + 1) = gr (fun j => decide (u.take j <:+ t) && decide (u[j]? = some c)) u.length + 1 from
    gr_shift (by simp) _ fun j hj => by
      rw [Bool.eq_iff_iff, Bool.and_eq_true, decide_eq_true_eq, decide_eq_true_eq, decide_eq_true_eq]
      exact suf_snoc hj]
  have hb := gr_ge (fun j => decide (u.take j <:+ t)) u.length
  congr 1
  show _ = gr (fun j => sfx u (gr (fun j => decide (u.take j <:+ t)) u.length).toNat j && decide (u[j]? = some c)) (gr (fun j => decide (u.take j <:+ t)) u.length + 1).toNat
  refine gr_cut (by omega) (fun j hj => ?_) fun j hj hj' => ?_
  · obtain ⟨b, hbk⟩ : ∃ b : Nat, gr (fun j => decide (u.take j <:+ t)) u.length = b := ⟨(gr (fun j => decide (u.take j <:+ t)) u.length).toNat, by omega⟩
    have h1 := of_decide_eq_true (gr_is hbk).1
    rw [hbk, Int.toNat_natCast]
    have : decide (u.take j <:+ t) = sfx u b j := decide_eq_decide.2 (suf_iff (by omega) h1)
    rw [this]
  · have := gr_above (p := fun j => decide (u.take j <:+ t)) hj' (by omega)
    simp only [this, Bool.false_and]
/-- The part itself stands there: its longest border is what is left of it. -/
theorem mt_full {u t : List Int} (h : u <:+ t) : mt u t (u.length + 1) = u.length ∧ mt u t u.length = bd u u.length := by
  refine ⟨gr_top (by simpa using h), gr_cut (Nat.le_refl _) (fun j hj => ?_) fun j hj hj' => by omega⟩
  have h' : u.take u.length <:+ t := by rw [List.take_length]; exact h
  exact decide_eq_decide.2 (suf_iff (by omega) h')
theorem mt_not {u t : List Int} (h : ¬ u <:+ t) : mt u t (u.length + 1) = mt u t u.length := gr_skip (by simpa using h)
theorem mt_nil (u : List Int) : mt u [] (u.length + 1) = 0 := by
  have := @gr_shift (fun j => decide (u.take j <:+ [])) (fun _ => false) (by simp) u.length fun j hj => by
    have : ¬ u.take (j + 1) <:+ [] := fun h => by
      have := congrArg List.length (List.suffix_nil.1 h)
      rw [List.length_take, List.length_nil] at this
      omega
    simp [this]
  have e : ∀ n, gr (fun _ => false) n = -1 := fun n => by
    induction n with
    | zero => rfl
    | succ n ih => simp [gr, ih]
  rw [e] at this
  exact this
theorem mt_is {u t : List Int} (h : mt u t (u.length + 1) = u.length) : u <:+ t := by
  have := (gr_is h).1
  simpa using this
theorem mt_range (u t : List Int) : 0 ≤ mt u t (u.length + 1) ∧ mt u t (u.length + 1) ≤ u.length := by
  have h1 := gr_ge (fun j => decide (u.take j <:+ t)) (u.length + 1)
  refine ⟨?_, by unfold mt; omega⟩
  by_cases h : mt u t (u.length + 1) < 0
  · have := gr_above (p := fun j => decide (u.take j <:+ t)) (n := u.length + 1) (j := 0) (by omega) h
    simp at this
  · omega
/-- The border of one more letter. -/
theorem bd_succ {u : List Int} {i : Nat} {c : Int} (hc : u[i]? = some c) : bd u (i + 1) = fa u (bd u i) c := by
  obtain ⟨hi, hc'⟩ := List.getElem?_eq_some_iff.1 hc
  have e1 : bd u (i + 1) = gr (fun j => sfx u i j && decide (u[j]? = some c)) i + 1 := gr_shift (by simp [sfx]) _ fun j hj => by
    unfold sfx
    rw [List.take_succ_eq_append_getElem hi, hc', Bool.eq_iff_iff, Bool.and_eq_true, decide_eq_true_eq, decide_eq_true_eq, decide_eq_true_eq]
    exact suf_snoc (by omega)
  rw [e1]
  unfold fa
  have hb := bd_ge u i
  congr 1
  refine gr_cut (by omega) (fun j hj => ?_) fun j hj hj' => ?_
  · obtain ⟨b, hbk⟩ : ∃ b : Nat, bd u i = b := ⟨(bd u i).toNat, by omega⟩
    have h1 := (gr_is (p := sfx u i) hbk).1
    unfold sfx at h1
    rw [hbk, Int.toNat_natCast]
    have : sfx u i j = sfx u b j := decide_eq_decide.2 (suf_iff (by omega) (of_decide_eq_true h1))
    rw [this]
  · have := gr_above (p := sfx u i) hj' (by unfold bd at hj; omega)
    simp only [this, Bool.false_and]
theorem fa_ge (u : List Int) (k c : Int) (h : -1 ≤ k) : 0 ≤ fa u k c ∧ fa u k c ≤ k + 1 := by
  have := gr_ge (fun j => sfx u k.toNat j && decide (u[j]? = some c)) (k + 1).toNat
  unfold fa
  omega
/-- The places where a part begins. -/
def occ (w u : List Int) : List Int := ((List.range (w.length + 1 - u.length)).filter fun i => decide ((w.drop i).take u.length = u)).map fun i : Nat => (i : Int)
/-- The places where it begins and has ended by e, e not counted. -/
def occE (w u : List Int) (e : Nat) : List Int := ((List.range e).filter fun k => decide (u <:+ w.take k)).map fun k : Nat => (k : Int) - u.length
theorem occE_zero (w u : List Int) : occE w u 0 = [] := rfl
theorem occE_yes {w u : List Int} {e : Nat} (h : u <:+ w.take e) : occE w u (e + 1) = occE w u e ++ [(e : Int) - u.length] := by simp [occE, List.range_succ, List.filter_append, h]
theorem occE_no {w u : List Int} {e : Nat} (h : ¬ u <:+ w.take e) : occE w u (e + 1) = occE w u e := by simp [occE, List.range_succ, List.filter_append, h]
theorem occE_le (w u : List Int) : ∀ e, (occE w u e).length ≤ e := fun e => by
  unfold occE
  rw [List.length_map]
  have := List.length_filter_le (fun k => decide (u <:+ w.take k)) (List.range e)
  simpa using this
theorem suf_at {w u : List Int} {k : Nat} (hk : k ≤ w.length) : u <:+ w.take k ↔ u.length ≤ k ∧ (w.drop (k - u.length)).take u.length = u := by
  constructor
  · intro h
    have hl := h.length_le
    rw [List.length_take] at hl
    refine ⟨by omega, ?_⟩
    have := List.suffix_iff_eq_drop.1 h
    rw [List.length_take, Nat.min_eq_left hk, List.drop_take] at this
    rw [show k - (k - u.length) = u.length from by omega] at this
    exact this.symm
  · rintro ⟨h1, h2⟩
    rw [List.suffix_iff_eq_drop, List.length_take, Nat.min_eq_left hk, List.drop_take, show k - (k - u.length) = u.length from by omega]
    exact h2.symm
theorem occE_eq (w u : List Int) : ∀ e, e ≤ w.length + 1 → occE w u e = ((List.range (e - u.length)).filter fun i => decide ((w.drop i).take u.length = u)).map fun i : Nat => (i : Int)
  | 0, _ => by simp [occE]
  | e + 1, h => by
    have ih := occE_eq w u e (by omega)
    have hs := suf_at (w := w) (u := u) (k := e) (by omega)
    by_cases hu : u <:+ w.take e
    · obtain ⟨h1, h2⟩ := hs.1 hu
      rw [occE_yes hu, ih, show e + 1 - u.length = (e - u.length) + 1 from by omega, List.range_succ, List.filter_append, List.map_append]
      have : ((e - u.length : Nat) : Int) = (e : Int) - u.length := by omega
      simp [h2, this]
    · rw [occE_no hu, ih]
      by_cases hle : u.length ≤ e
      · rw [show e + 1 - u.length = (e - u.length) + 1 from by omega, List.range_succ, List.filter_append]
        have : ¬ (w.drop (e - u.length)).take u.length = u := fun h2 => hu (hs.2 ⟨hle, h2⟩)
        simp [this]
      · rw [show e + 1 - u.length = 0 from by omega, show e - u.length = 0 from by omega]
theorem occE_all (w u : List Int) : occE w u (w.length + 1) = occ w u := occE_eq w u _ (Nat.le_refl _)
theorem occ_len (w u : List Int) : (occ w u).length ≤ w.length + 1 := by rw [← occE_all]; exact occE_le w u _
/-- The model's rounds. -/
def occT (w u : List Int) (i : Nat) : List Int := ((List.range i).filter fun i => decide ((w.drop i).take u.length = u)).map fun i : Nat => (i : Int)
theorem occT_zero (w u : List Int) : occT w u 0 = [] := rfl
theorem occT_yes {w u : List Int} {i : Nat} (h : (w.drop i).take u.length = u) : occT w u (i + 1) = occT w u i ++ [(i : Int)] := by simp [occT, List.range_succ, List.filter_append, h]
theorem occT_no {w u : List Int} {i : Nat} (h : ¬ (w.drop i).take u.length = u) : occT w u (i + 1) = occT w u i := by simp [occT, List.range_succ, List.filter_append, h]
theorem occT_all {w u : List Int} {i : Nat} (h : i = w.length + 1 - u.length) : occT w u i = occ w u := by rw [h]; rfl
theorem occT_len (w u : List Int) (i : Nat) : (occT w u i).length ≤ i := by
  unfold occT
  rw [List.length_map]
  have := List.length_filter_le (fun i => decide ((w.drop i).take u.length = u)) (List.range i)
  simpa using this
theorem occ_at {w u : List Int} {k : Nat} {x : Int} (h : (occ w u)[k]? = some x) : 0 ≤ x ∧ x + u.length ≤ w.length := by
  have hm := List.mem_of_getElem? h
  obtain ⟨i, hi, rfl⟩ := List.mem_map.1 hm
  have := List.mem_range.1 (List.mem_filter.1 hi).1
  omega
theorem range_map_asc (p : Nat → Bool) : ∀ n, (((List.range n).filter p).map fun i : Nat => (i : Int)).Pairwise (· < ·) := fun n => by
  refine List.pairwise_map.2 ?_
  have h : (List.range n).Pairwise (· < ·) := List.pairwise_lt_range
  exact (h.filter p).imp fun h => by omega
theorem occ_asc {w u : List Int} {k : Nat} {x y : Int} (hx : (occ w u)[k]? = some x) (hy : (occ w u)[k + 1]? = some y) : x < y := by
  obtain ⟨h1, rfl⟩ := List.getElem?_eq_some_iff.1 hx
  obtain ⟨h2, rfl⟩ := List.getElem?_eq_some_iff.1 hy
  have : (occ w u).Pairwise (· < ·) := range_map_asc (fun i => decide ((w.drop i).take u.length = u)) _
  exact List.pairwise_iff_getElem.1 this k (k + 1) h1 h2 (by omega)
end Go.Proofs.Ytcnejfihpaicdaa.Plain
