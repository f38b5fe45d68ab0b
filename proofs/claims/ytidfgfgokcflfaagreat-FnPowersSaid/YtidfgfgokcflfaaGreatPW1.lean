/- Several texts of this proof, one behind the other: each says ahead of it what it shows and under which conditions. -/
import Derived.WalkKit
import Derived.Lib.Hide
/- Plain facts on the order of words, on the list of the different parts of a word, on places where a part begins and on borders. No conditions beyond those that each fact states. -/
namespace Go.Proofs.YtidfgfgokcflfaaGreat.Plain

/-- The order of words: -1, 0 or 1. -/
def cmpW : List Int → List Int → Int
  | [], [] => 0
  | [], _ :: _ => -1
  | _ :: _, [] => 1
  | x :: u, y :: v => if x < y then -1 else if y < x then 1 else cmpW u v
theorem cmpW_self : ∀ u : List Int, cmpW u u = 0
  | [] => rfl
  | x :: u => by simp [cmpW, cmpW_self u]
theorem cmpW_three : ∀ u v : List Int, cmpW u v = -1 ∨ cmpW u v = 0 ∨ cmpW u v = 1
  | [], [] => by simp [cmpW]
  | [], _ :: _ => by simp [cmpW]
  | _ :: _, [] => by simp [cmpW]
  | x :: u, y :: v => by
    have := cmpW_three u v
    unfold cmpW
    split
    · simp
    · split
      · simp
      · exact this
theorem cmpW_zero : ∀ u v : List Int, cmpW u v = 0 → u = v
  | [], [], _ => rfl
  | [], _ :: _, h => by simp [cmpW] at h
  | _ :: _, [], h => by simp [cmpW] at h
  | x :: u, y :: v, h => by
    unfold cmpW at h
    split at h
    · simp at h
    · split at h
      · simp at h
      · rw [cmpW_zero u v h, show x = y from by omega]
theorem cmpW_neg : ∀ u v : List Int, cmpW v u = - cmpW u v
  | [], [] => by simp [cmpW]
  | [], _ :: _ => by simp [cmpW]
  | _ :: _, [] => by simp [cmpW]
  | x :: u, y :: v => by
    have := cmpW_neg u v
    unfold cmpW
    by_cases h1 : x < y
    · have h2 : ¬ y < x := by omega
      simp [h1, h2]
    · by_cases h2 : y < x
      · simp [h1, h2]
      · simp [h1, h2, this]
theorem cmpW_trans : ∀ u v t : List Int, cmpW u v < 0 → cmpW v t < 0 → cmpW u t < 0
  | [], [], _, h, _ => by simp [cmpW] at h
  | _ :: _, [], _, h, _ => by simp [cmpW] at h
  | _, _ :: _, [], _, h => by simp [cmpW] at h
  | [], _ :: _, _ :: _, _, _ => by simp [cmpW]
  | x :: u, y :: v, z :: t, h1, h2 => by
    have ih := cmpW_trans u v t
    unfold cmpW at h1 h2 ⊢
    by_cases a1 : x < y
    · by_cases b1 : y < z
      · have : x < z := by omega
        simp [this]
      · by_cases b2 : z < y
        · simp [b1, b2] at h2
        · have : x < z := by omega
          simp [this]
    · by_cases a2 : y < x
      · simp [a1, a2] at h1
      · obtain rfl : x = y := by omega
        by_cases b1 : x < z
        · simp [b1]
        · by_cases b2 : z < x
          · simp [b1, b2] at h2
          · simp [b1, b2] at h1 h2 ⊢
            exact ih h1 h2
/-- The comparison's rounds. -/
theorem cmpW_at {u v : List Int} {i : Nat} {x y : Int} (hx : u[i]? = some x) (hy : v[i]? = some y) : cmpW (u.drop i) (v.drop i) = if x < y then -1 else if y < x then 1 else cmpW (u.drop (i + 1)) (v.drop (i + 1)) := by
  obtain ⟨h1, rfl⟩ := List.getElem?_eq_some_iff.1 hx
  obtain ⟨h2, rfl⟩ := List.getElem?_eq_some_iff.1 hy
  rw [List.drop_eq_getElem_cons h1, List.drop_eq_getElem_cons h2]
  rfl
theorem cmpW_short {u v : List Int} {i : Nat} (hx : i < u.length) (hy : v.length ≤ i) : cmpW (u.drop i) (v.drop i) = 1 := by
  rw [List.drop_eq_getElem_cons hx, List.drop_of_length_le hy]
  rfl
theorem cmpW_long {u v : List Int} {i : Nat} (hx : u.length ≤ i) (hy : i < v.length) : cmpW (u.drop i) (v.drop i) = -1 := by
  rw [List.drop_eq_getElem_cons hy, List.drop_of_length_le hx]
  rfl
theorem cmpW_both {u v : List Int} {i : Nat} (hx : u.length ≤ i) (hy : v.length ≤ i) : cmpW (u.drop i) (v.drop i) = 0 := by
  rw [List.drop_of_length_le hx, List.drop_of_length_le hy]
  rfl
/-- Words in strictly ascending order. -/
def SD (l : List (List Int)) : Prop := l.Pairwise fun u v => cmpW u v < 0
theorem sd_unique : ∀ l m : List (List Int), SD l → SD m → (∀ x, x ∈ l ↔ x ∈ m) → l = m
  | [], [], _, _, _ => rfl
  | [], b :: m, _, _, h => by have := (h b).2 (by simp); cases this
  | a :: l, [], _, _, h => by have := (h a).1 (by simp); cases this
  | a :: l, b :: m, hl, hm, h => by
    have hl' := List.pairwise_cons.1 hl
    have hm' := List.pairwise_cons.1 hm
    have hab : a = b := by
      rcases List.mem_cons.1 ((h a).1 (by simp)) with e | e
      · exact e
      · rcases List.mem_cons.1 ((h b).2 (by simp)) with e' | e'
        · exact e'.symm
        · have h1 := hm'.1 a e
          have h2 := hl'.1 b e'
          rw [cmpW_neg] at h1
          omega
    subst hab
    have nl : a ∉ l := fun e => by have := hl'.1 a e; rw [cmpW_self] at this; omega
    have nm : a ∉ m := fun e => by have := hm'.1 a e; rw [cmpW_self] at this; omega
    rw [sd_unique l m hl'.2 hm'.2 fun x => ⟨fun hx => by
      rcases List.mem_cons.1 ((h x).1 (by simp [hx])) with e | e
      · subst e; exact absurd hx nl
      · exact e, fun hx => by
      rcases List.mem_cons.1 ((h x).2 (by simp [hx])) with e | e
      · subst e; exact absurd hx nm
      · exact e⟩]
/-- A word put into a list in order, once; 'true': it is there already. -/
def putW (w : List Int) : Bool → List (List Int) → List (List Int)
  | c, [] => if c then [] else [w]
  | c, x :: l => (if cmpW w x < 0 ∧ c = false then [w] else []) ++ x :: putW w (c || decide (cmpW w x ≤ 0)) l
theorem putW_true (w : List Int) : ∀ l, putW w true l = l
  | [] => rfl
  | x :: l => by simp [putW, putW_true w l]
theorem putW_cons (w x : List Int) (l : List (List Int)) : putW w false (x :: l) = if cmpW w x < 0 then w :: x :: l else if cmpW w x = 0 then x :: l else x :: putW w false l := by
  have := cmpW_three w x
  rw [show putW w false (x :: l) = (if cmpW w x < 0 ∧ false = false then [w] else []) ++ x :: putW w (false || decide (cmpW w x ≤ 0)) l from rfl]
  rcases this with e | e | e <;> simp [e, putW_true]
theorem putW_mem (w : List Int) : ∀ l x, x ∈ putW w false l ↔ x = w ∨ x ∈ l
  | [], x => by simp [putW]
  | y :: l, x => by
    rw [putW_cons]
    split
    · simp
    · split
      · rename_i h
        have := cmpW_zero _ _ h
        subst this
        constructor
        · exact fun h => .inr h
        · rintro (h | h)
          · subst h; simp
          · exact h
      · rw [List.mem_cons, putW_mem w l x, List.mem_cons]
        constructor
        · rintro (h | h | h)
          · exact .inr (.inl h)
          · exact .inl h
          · exact .inr (.inr h)
        · rintro (h | h | h)
          · exact .inr (.inl h)
          · exact .inl h
          · exact .inr (.inr h)
theorem putW_sd (w : List Int) : ∀ l, SD l → SD (putW w false l)
  | [], _ => by simp [putW, SD]
  | y :: l, h => by
    have h' := List.pairwise_cons.1 h
    rw [putW_cons]
    split
    · rename_i hlt
      refine List.pairwise_cons.2 ⟨fun z hz => ?_, h⟩
      rcases List.mem_cons.1 hz with e | e
      · subst e; exact hlt
      · exact cmpW_trans _ _ _ hlt (h'.1 z e)
    · split
      · exact h
      · rename_i h1 h2
        refine List.pairwise_cons.2 ⟨fun z hz => ?_, putW_sd w l h'.2⟩
        rcases (putW_mem w l z).1 hz with e | e
        · subst e
          have := cmpW_neg z y
          omega
        · exact h'.1 z e
/-- The different words of a list, in order. -/
def sdl (ps : List (List Int)) : List (List Int) := ps.foldl (fun l p => putW p false l) []
theorem sdl_snoc (ps : List (List Int)) (p : List Int) : sdl (ps ++ [p]) = putW p false (sdl ps) := by simp [sdl]
theorem fold_sd : ∀ (ps l : List (List Int)), SD l → SD (ps.foldl (fun l p => putW p false l) l) ∧ ∀ x, x ∈ ps.foldl (fun l p => putW p false l) l ↔ x ∈ l ∨ x ∈ ps
  | [], l, h => ⟨h, fun x => by simp⟩
  | p :: ps, l, h => by
    obtain ⟨h1, h2⟩ := fold_sd ps (putW p false l) (putW_sd p l h)
    refine ⟨h1, fun x => (h2 x).trans ?_⟩
    rw [putW_mem, List.mem_cons]
    constructor
    · rintro ((h | h) | h)
      · exact .inr (.inl h)
      · exact .inl h
      · exact .inr (.inr h)
    · rintro (h | h | h)
      · exact .inl (.inr h)
      · exact .inl (.inl h)
      · exact .inr h
theorem sdl_sd (ps : List (List Int)) : SD (sdl ps) := (fold_sd ps [] List.Pairwise.nil).1
theorem sdl_mem (ps : List (List Int)) (x : List Int) : x ∈ sdl ps ↔ x ∈ ps := by simpa [sdl] using (fold_sd ps [] List.Pairwise.nil).2 x
theorem sdl_eq {ps l : List (List Int)} (h : SD l) (hm : ∀ x, x ∈ l ↔ x ∈ ps) : sdl ps = l := sd_unique _ _ (sdl_sd ps) h fun x => (sdl_mem ps x).trans (hm x).symm
theorem sdl_len (ps : List (List Int)) : (sdl ps).length ≤ ps.length := by
  have put_len : ∀ (w : List Int) l, (putW w false l).length ≤ l.length + 1 := fun w l => by
    induction l with
    | nil => simp [putW]
    | cons x l ih =>
      rw [putW_cons]
      split
      · simp
      · split <;> simp <;> omega
  have : ∀ (ps l : List (List Int)), (ps.foldl (fun l p => putW p false l) l).length ≤ l.length + ps.length := fun ps => by
    induction ps with
    | nil => simp
    | cons p ps ih =>
      intro l
      have h1 := ih (putW p false l)
      have h2 := put_len p l
      simp only [List.foldl_cons, List.length_cons]
      omega
  simpa [sdl] using this ps []
/-- Neighbours that are alike, once; what is alike is told by a key. -/
def ddF {β : Type} (key : β → List Int) : List Int → List β → List β
  | _, [] => []
  | p, y :: l => if key y = p then ddF key (key y) l else y :: ddF key (key y) l
def dd {β : Type} (key : β → List Int) : List β → List β
  | [] => []
  | x :: l => x :: ddF key (key x) l
theorem ddF_mem {β : Type} {key : β → List Int} : ∀ (p : List Int) (l : List β) (x : β), x ∈ ddF key p l → x ∈ l
  | _, [], _, h => h
  | p, y :: l, x, h => by
    unfold ddF at h
    split at h
    · exact List.mem_cons_of_mem _ (ddF_mem _ l x h)
    · rcases List.mem_cons.1 h with e | e
      · simp [e]
      · exact List.mem_cons_of_mem _ (ddF_mem _ l x e)
theorem dd_mem {β : Type} {key : β → List Int} (l : List β) (x : β) (h : x ∈ dd key l) : x ∈ l := by
  cases l with
  | nil => exact h
  | cons y l =>
    rcases List.mem_cons.1 h with e | e
    · simp [e]
    · exact List.mem_cons_of_mem _ (ddF_mem _ l x e)
theorem ddF_sd {β : Type} {key : β → List Int} : ∀ (p : List Int) (l : List β), (∀ x ∈ l, cmpW p (key x) ≤ 0) → (l.Pairwise fun u v => cmpW (key u) (key v) ≤ 0) → (∀ x ∈ ddF key p l, cmpW p (key x) < 0) ∧ SD ((ddF key p l).map key) ∧ ∀ x ∈ l, key x = p ∨ key x ∈ (ddF key p l).map key
  | p, [], _, _ => ⟨by simp [ddF], by simp [ddF, SD], by simp⟩
  | p, y :: l, h0, h1 => by
    have h2 := List.pairwise_cons.1 h1
    obtain ⟨i1, i2, i3⟩ := ddF_sd (key y) l (fun x hx => h2.1 x hx) h2.2
    unfold ddF
    split
    · rename_i e
      rw [e] at i1 i2 i3 ⊢
      refine ⟨i1, i2, fun x hx => ?_⟩
      rcases List.mem_cons.1 hx with e' | e'
      · subst e'; exact .inl e
      · exact i3 x e'
    · rename_i e
      have hpy : cmpW p (key y) < 0 := by
        have := h0 y (by simp)
        rcases cmpW_three p (key y) with a | a | a
        · omega
        · exact absurd (cmpW_zero _ _ a).symm e
        · omega
      refine ⟨fun x hx => ?_, ?_, fun x hx => ?_⟩
      · rcases List.mem_cons.1 hx with e' | e'
        · subst e'; exact hpy
        · exact cmpW_trans _ _ _ hpy (i1 x e')
      · rw [List.map_cons]
        refine List.pairwise_cons.2 ⟨fun z hz => ?_, i2⟩
        obtain ⟨x, hx, rfl⟩ := List.mem_map.1 hz
        exact i1 x hx
      · rcases List.mem_cons.1 hx with e' | e'
        · subst e'; exact .inr (by simp)
        · rcases i3 x e' with a | a
          · exact .inr (by simp [a])
          · exact .inr (by rw [List.map_cons]; exact List.mem_cons_of_mem _ a)
/-- What is left of a sorted list is its different words, in order. -/
theorem dd_sdl {β : Type} {key : β → List Int} {l : List β} {ps : List (List Int)} (h : l.Pairwise fun u v => cmpW (key u) (key v) ≤ 0) (hp : (l.map key).Perm ps) : (dd key l).map key = sdl ps := by
  have hm : ∀ x, x ∈ (dd key l).map key ↔ x ∈ ps := by
    intro x
    rw [← hp.mem_iff]
    constructor
    · intro hx
      obtain ⟨y, hy, rfl⟩ := List.mem_map.1 hx
      exact List.mem_map_of_mem (dd_mem l y hy)
    · intro hx
      obtain ⟨y, hy, rfl⟩ := List.mem_map.1 hx
      cases l with
      | nil => cases hy
      | cons z l =>
        have h2 := List.pairwise_cons.1 h
        rcases List.mem_cons.1 hy with e | e
        · subst e; simp [dd]
        · rcases (ddF_sd (key z) l h2.1 h2.2).2.2 y e with a | a
          · simp [dd, a]
          · rw [dd, List.map_cons]
            exact List.mem_cons_of_mem _ a
  refine (sdl_eq ?_ hm).symm
  cases l with
  | nil => simp [dd, SD]
  | cons z l =>
    have h2 := List.pairwise_cons.1 h
    obtain ⟨i1, i2, _⟩ := ddF_sd (key z) l h2.1 h2.2
    rw [dd, List.map_cons]
    refine List.pairwise_cons.2 ⟨fun x hx => ?_, i2⟩
    obtain ⟨y, hy, rfl⟩ := List.mem_map.1 hx
    exact i1 y hy
/-- The compaction's rounds. -/
theorem ddF_snoc {β : Type} {key : β → List Int} : ∀ (p : List Int) (l : List β) (y : β), ddF key p (l ++ [y]) = ddF key p l ++ (if key y = ((l.map key).getLast?).getD p then [] else [y])
  | p, [], y => by simp [ddF]
  | p, z :: l, y => by
    have ih := ddF_snoc (key := key) (key z) l y
    have e : (((z :: l).map key).getLast?).getD p = ((l.map key).getLast?).getD (key z) := by
      cases l with
      | nil => simp
      | cons a l => simp [List.getLast?_cons]
    rw [e, List.cons_append]
    unfold ddF
    rw [ih]
    split <;> simp
theorem dd_snoc {β : Type} {key : β → List Int} {l : List β} {k : Nat} {x y : β} (hx : l[k]? = some x) (hy : l[k + 1]? = some y) : dd key (l.take (k + 2)) = dd key (l.take (k + 1)) ++ (if key y = key x then [] else [y]) := by
  obtain ⟨h1, h1'⟩ := List.getElem?_eq_some_iff.1 hx
  obtain ⟨h2, h2'⟩ := List.getElem?_eq_some_iff.1 hy
  rw [show k + 2 = (k + 1) + 1 from rfl, List.take_succ_eq_append_getElem h2, h2']
  cases l with
  | nil => simp at h1
  | cons z l =>
    rw [List.take_succ_cons, List.cons_append]
    show z :: ddF key (key z) (l.take k ++ [y]) = (z :: ddF key (key z) (l.take k)) ++ _
    rw [ddF_snoc, List.cons_append]
    have : (((l.take k).map key).getLast?).getD (key z) = key x := by
      cases k with
      | zero => simp at hx; simp [hx]
      | succ k =>
        rw [List.getElem?_cons_succ] at hx
        obtain ⟨h3, h3'⟩ := List.getElem?_eq_some_iff.1 hx
        rw [List.take_succ_eq_append_getElem h3, h3']
        simp
    rw [this]
theorem dd_one {β : Type} {key : β → List Int} (l : List β) : dd key (l.take 1) = l.take 1 := by
  cases l with
  | nil => rfl
  | cons x l => simp [dd, ddF]
/-- The greatest number below n with a property, -1 where there is none. -/
def gr (p : Nat → Bool) : Nat → Int
  | 0 => -1
  | n + 1 => if p n then n else gr p n
theorem gr_ge (p : Nat → Bool) : ∀ n, -1 ≤ gr p n ∧ gr p n < n
  | 0 => by simp [gr]
  | n + 1 => by
    have := gr_ge p n
    unfold gr
    split <;> omega
theorem gr_top {p : Nat → Bool} {n : Nat} (h : p n = true) : gr p (n + 1) = n := by simp [gr, h]
theorem gr_skip {p : Nat → Bool} {n : Nat} (h : p n = false) : gr p (n + 1) = gr p n := by simp [gr, h]
theorem gr_is {p : Nat → Bool} : ∀ {n k : Nat}, gr p n = k → p k = true ∧ k < n
  | 0, k, h => by simp [gr] at h
  | n + 1, k, h => by
    unfold gr at h
    split at h
    · rename_i hp
      obtain rfl : n = k := by omega
      exact ⟨hp, by omega⟩
    · have := gr_is h
      exact ⟨this.1, by omega⟩
theorem gr_above {p : Nat → Bool} : ∀ {n j : Nat}, j < n → gr p n < j → p j = false
  | 0, j, h, _ => by omega
  | n + 1, j, h, hj => by
    unfold gr at hj
    split at hj
    · omega
    · rename_i hp
      by_cases e : j = n
      · subst e; simpa using hp
      · exact gr_above (n := n) (by omega) hj
/-- What fits below a bound already is found below it. -/
theorem gr_cut {p q : Nat → Bool} {n m : Nat} (hm : m ≤ n) (h1 : ∀ j, j < m → p j = q j) (h2 : ∀ j, m ≤ j → j < n → p j = false) : gr p n = gr q m := by
  induction n with
  | zero => obtain rfl : m = 0 := by omega
            rfl
  | succ n ih =>
    by_cases e : m = n + 1
    · subst e
      clear ih h2 hm
      induction n with
      | zero => unfold gr; rw [h1 0 (by omega)]; rfl
      | succ n ih =>
        have := ih fun j hj => h1 j (by omega)
        unfold gr
        rw [this, h1 (n + 1) (by omega)]
    · rw [gr_skip (h2 n (by omega) (by omega))]
      exact ih (by omega) fun j hj hj' => h2 j hj (by omega)
/-- Does the part's beginning of j letters stand at the end of the beginning of k letters. -/
def sfx (u : List Int) (k j : Nat) : Bool := decide (u.take j <:+ u.take k)
/-- The longest border of the first k letters. -/
def bd (u : List Int) (k : Nat) : Int := gr (sfx u k) k
/-- How many letters fit behind one more letter. -/
def fa (u : List Int) (k : Int) (c : Int) : Int := gr (fun j => sfx u k.toNat j && decide (u[j]? = some c)) (k + 1).toNat + 1
theorem bd_ge (u : List Int) (k : Nat) : -1 ≤ bd u k ∧ bd u k < k := gr_ge _ _
theorem bd_zero (u : List Int) : bd u 0 = -1 := rfl
theorem fa_none (u : List Int) (c : Int) : fa u (-1) c = 0 := rfl
theorem sfx_self (u : List Int) (k : Nat) : sfx u k k = true := by simp [sfx]
theorem fa_hit {u : List Int} {k : Nat} {c : Int} (h : u[k]? = some c) : fa u k c = k + 1 := by
  unfold fa
  rw [show ((k : Int) + 1).toNat = k + 1 from by omega, gr_top (by simp [sfx_self, h])]
/-- Two beginnings that both stand at the end of a list. -/
theorem suf_iff {u t : List Int} {j k : Nat} (hjk : j ≤ k) (h : u.take k <:+ t) : u.take j <:+ t ↔ u.take j <:+ u.take k := by
  constructor
  · intro hj
    refine List.suffix_of_suffix_length_le hj h ?_
    rw [List.length_take, List.length_take]
    omega
  · exact fun hj => hj.trans h
theorem fa_miss {u : List Int} {k : Nat} {c : Int} (h : u[k]? ≠ some c) : fa u k c = fa u (bd u k) c := by
  unfold fa
  rw [show ((k : Int) + 1).toNat = k + 1 from by omega, show ((k : Int)).toNat = k from by omega, gr_skip (by simp [h])]
  have hb := bd_ge u k
  have e : gr (fun j => sfx u k j && decide (u[j]? = some c)) k = gr (fun j => sfx u (bd u k).toNat j && decide (u[j]? = some c)) (bd u k + 1).toNat := by
    refine gr_cut (by omega) (fun j hj => ?_) fun j hj hj' => ?_
    · obtain ⟨b, hbk⟩ : ∃ b : Nat, bd u k = b := ⟨(bd u k).toNat, by omega⟩
      have h1 := gr_is (p := sfx u k) hbk
      rw [hbk]
      have : sfx u k j = sfx u b j := by
        unfold sfx
        have := h1.1
        unfold sfx at this
        exact decide_eq_decide.2 (suf_iff (by omega) (of_decide_eq_true this))
      rw [Int.toNat_natCast, this]
    · have := gr_above (p := sfx u k) hj' (by unfold bd at hj; omega)
      simp [this]
  rw [e]
/-- How many letters of the part, below n, stand at the end of a list. -/
def mt (u t : List Int) (n : Nat) : Int := gr (fun j => decide (u.take j <:+ t)) n
theorem suf_snoc {u t : List Int} {j : Nat} {c : Int} (hj : j < u.length) : u.take (j + 1) <:+ t ++ [c] ↔ u.take j <:+ t ∧ u[j]? = some c := by
  rw [List.take_succ_eq_append_getElem hj, List.getElem?_eq_getElem hj]
  constructor
  · rintro ⟨s, hs⟩
    rw [← List.append_assoc] at hs
    have := List.append_inj' hs rfl
    exact ⟨⟨s, this.1⟩, by simpa using this.2⟩
  · rintro ⟨⟨s, hs⟩, h2⟩
    obtain rfl := Option.some.inj h2
    exact ⟨s, by rw [← List.append_assoc, hs]⟩
theorem gr_shift {p q : Nat → Bool} (h0 : p 0 = true) : ∀ n, (∀ j, j < n → p (j + 1) = q j) → gr p (n + 1) = gr q n + 1
  | 0, _ => by simp [gr, h0]
  | n + 1, h => by
    have ih := gr_shift h0 n fun j hj => h j (by omega)
    have := h n (by omega)
    rw [show gr p (n + 1 + 1) = if p (n + 1) then ((n + 1 : Nat) : Int) else gr p (n + 1) from rfl, this, ih]
    show _ = (if q n then (n : Int) else gr q n) + 1
    split <;> omega
/-- One more letter. -/
theorem mt_snoc (u t : List Int) (c : Int) : mt u (t ++ [c]) (u.length + 1) = fa u (mt u t u.length) c := by
  unfold fa
  rw [show mt u (t ++ [c]) (u.length + 1) = gr (fun j => decide (u.take j <:+ t) && decide (u[j]? = some c)) u.length + 1 from
    gr_shift (by simp) _ fun j hj => by
      rw [Bool.eq_iff_iff, Bool.and_eq_true, decide_eq_true_eq, decide_eq_true_eq, decide_eq_true_eq]
      exact suf_snoc hj]
  have hb := gr_ge (fun j => decide (u.take j <:+ t)) u.length
  congr 1
  show _ = gr (fun j => sfx u (gr (fun j => decide (u.take j <:+ t)) u.length).toNat j && decide (u[j]? = some c)) (gr (fun j => decide (u.take j <:+ t)) u.length + 1).toNat
  refine gr_cut (by omega) (fun j hj => ?_) fun j hj hj' => ?_
  · obtain ⟨b, hbk⟩ : ∃ b : Nat, gr (fun j => decide (u.take j <:+ t)) u.length = b := ⟨(gr (fun j => decide (u.take j <:+ t)) u.length).toNat, by omega⟩
    have h1 := of_decide_eq_true (gr_is hbk).1
    rw [hbk, Int.toNat_natCast]
    have : decide (u.take j <:+ t) = sfx u b j := decide_eq_decide.2 (suf_iff (by omega) h1)
    rw [this]
  · have := gr_above (p := fun j => decide (u.take j <:+ t)) hj' (by omega)
    simp only [this, Bool.false_and]
/-- The part itself stands there: its longest border is what is left of it. -/
theorem mt_full {u t : List Int} (h : u <:+ t) : mt u t (u.length + 1) = u.length ∧ mt u t u.length = bd u u.length := by
  refine ⟨gr_top (by simpa using h), gr_cut (Nat.le_refl _) (fun j hj => ?_) fun j hj hj' => by omega⟩
  have h' : u.take u.length <:+ t := by rw [List.take_length]; exact h
  exact decide_eq_decide.2 (suf_iff (by omega) h')
theorem mt_not {u t : List Int} (h : ¬ u <:+ t) : mt u t (u.length + 1) = mt u t u.length := gr_skip (by simpa using h)
theorem mt_nil (u : List Int) : mt u [] (u.length + 1) = 0 := by
  have := @gr_shift (fun j => decide (u.take j <:+ [])) (fun _ => false) (by simp) u.length fun j hj => by
    have : ¬ u.take (j + 1) <:+ [] := fun h => by
      have := congrArg List.length (List.suffix_nil.1 h)
      rw [List.length_take, List.length_nil] at this
      omega
    simp [this]
  have e : ∀ n, gr (fun _ => false) n = -1 := fun n => by
    induction n with
    | zero => rfl
    | succ n ih => simp [gr, ih]
  rw [e] at this
  exact this
theorem mt_is {u t : List Int} (h : mt u t (u.length + 1) = u.length) : u <:+ t := by
  have := (gr_is h).1
  simpa using this
theorem mt_range (u t : List Int) : 0 ≤ mt u t (u.length + 1) ∧ mt u t (u.length + 1) ≤ u.length := by
  have h1 := gr_ge (fun j => decide (u.take j <:+ t)) (u.length + 1)
  refine ⟨?_, by unfold mt; omega⟩
  by_cases h : mt u t (u.length + 1) < 0
  · have := gr_above (p := fun j => decide (u.take j <:+ t)) (n := u.length + 1) (j := 0) (by omega) h
    simp at this
  · omega
/-- The border of one more letter. -/
theorem bd_succ {u : List Int} {i : Nat} {c : Int} (hc : u[i]? = some c) : bd u (i + 1) = fa u (bd u i) c := by
  obtain ⟨hi, hc'⟩ := List.getElem?_eq_some_iff.1 hc
  have e1 : bd u (i + 1) = gr (fun j => sfx u i j && decide (u[j]? = some c)) i + 1 := gr_shift (by simp [sfx]) _ fun j hj => by
    unfold sfx
    rw [List.take_succ_eq_append_getElem hi, hc', Bool.eq_iff_iff, Bool.and_eq_true, decide_eq_true_eq, decide_eq_true_eq, decide_eq_true_eq]
    exact suf_snoc (by omega)
  rw [e1]
  unfold fa
  have hb := bd_ge u i
  congr 1
  refine gr_cut (by omega) (fun j hj => ?_) fun j hj hj' => ?_
  · obtain ⟨b, hbk⟩ : ∃ b : Nat, bd u i = b := ⟨(bd u i).toNat, by omega⟩
    have h1 := (gr_is (p := sfx u i) hbk).1
    unfold sfx at h1
    rw [hbk, Int.toNat_natCast]
    have : sfx u i j = sfx u b j := decide_eq_decide.2 (suf_iff (by omega) (of_decide_eq_true h1))
    rw [this]
  · have := gr_above (p := sfx u i) hj' (by unfold bd at hj; omega)
    simp only [this, Bool.false_and]
theorem fa_ge (u : List Int) (k c : Int) (h : -1 ≤ k) : 0 ≤ fa u k c ∧ fa u k c ≤ k + 1 := by
  have := gr_ge (fun j => sfx u k.toNat j && decide (u[j]? = some c)) (k + 1).toNat
  unfold fa
  omega
/-- The places where a part begins. -/
def occ (w u : List Int) : List Int := ((List.range (w.length + 1 - u.length)).filter fun i => decide ((w.drop i).take u.length = u)).map fun i : Nat => (i : Int)
/-- The places where it begins and has ended by e, e not counted. -/
def occE (w u : List Int) (e : Nat) : List Int := ((List.range e).filter fun k => decide (u <:+ w.take k)).map fun k : Nat => (k : Int) - u.length
theorem occE_zero (w u : List Int) : occE w u 0 = [] := rfl
theorem occE_yes {w u : List Int} {e : Nat} (h : u <:+ w.take e) : occE w u (e + 1) = occE w u e ++ [(e : Int) - u.length] := by simp [occE, List.range_succ, List.filter_append, h]
theorem occE_no {w u : List Int} {e : Nat} (h : ¬ u <:+ w.take e) : occE w u (e + 1) = occE w u e := by simp [occE, List.range_succ, List.filter_append, h]
theorem occE_le (w u : List Int) : ∀ e, (occE w u e).length ≤ e := fun e => by
  unfold occE
  rw [List.length_map]
  have := List.length_filter_le (fun k => decide (u <:+ w.take k)) (List.range e)
  simpa using this
theorem suf_at {w u : List Int} {k : Nat} (hk : k ≤ w.length) : u <:+ w.take k ↔ u.length ≤ k ∧ (w.drop (k - u.length)).take u.length = u := by
  constructor
  · intro h
    have hl := h.length_le
    rw [List.length_take] at hl
    refine ⟨by omega, ?_⟩
    have := List.suffix_iff_eq_drop.1 h
    rw [List.length_take, Nat.min_eq_left hk, List.drop_take] at this
    rw [show k - (k - u.length) = u.length from by omega] at this
    exact this.symm
  · rintro ⟨h1, h2⟩
    rw [List.suffix_iff_eq_drop, List.length_take, Nat.min_eq_left hk, List.drop_take, show k - (k - u.length) = u.length from by omega]
    exact h2.symm
theorem occE_eq (w u : List Int) : ∀ e, e ≤ w.length + 1 → occE w u e = ((List.range (e - u.length)).filter fun i => decide ((w.drop i).take u.length = u)).map fun i : Nat => (i : Int)
  | 0, _ => by simp [occE]
  | e + 1, h => by
    have ih := occE_eq w u e (by omega)
    have hs := suf_at (w := w) (u := u) (k := e) (by omega)
    by_cases hu : u <:+ w.take e
    · obtain ⟨h1, h2⟩ := hs.1 hu
      rw [occE_yes hu, ih, show e + 1 - u.length = (e - u.length) + 1 from by omega, List.range_succ, List.filter_append, List.map_append]
      have : ((e - u.length : Nat) : Int) = (e : Int) - u.length := by omega
      simp [h2, this]
    · rw [occE_no hu, ih]
      by_cases hle : u.length ≤ e
      · rw [show e + 1 - u.length = (e - u.length) + 1 from by omega, List.range_succ, List.filter_append]
        have : ¬ (w.drop (e - u.length)).take u.length = u := fun h2 => hu (hs.2 ⟨hle, h2⟩)
        simp [this]
      · rw [show e + 1 - u.length = 0 from by omega, show e - u.length = 0 from by omega]
theorem occE_all (w u : List Int) : occE w u (w.length + 1) = occ w u := occE_eq w u _ (Nat.le_refl _)
theorem occ_len (w u : List Int) : (occ w u).length ≤ w.length + 1 := by rw [← occE_all]; exact occE_le w u _
/-- The model's rounds. -/
def occT (w u : List Int) (i : Nat) : List Int := ((List.range i).filter fun i => decide ((w.drop i).take u.length = u)).map fun i : Nat => (i : Int)
theorem occT_zero (w u : List Int) : occT w u 0 = [] := rfl
theorem occT_yes {w u : List Int} {i : Nat} (h : (w.drop i).take u.length = u) : occT w u (i + 1) = occT w u i ++ [(i : Int)] := by simp [occT, List.range_succ, List.filter_append, h]
theorem occT_no {w u : List Int} {i : Nat} (h : ¬ (w.drop i).take u.length = u) : occT w u (i + 1) = occT w u i := by simp [occT, List.range_succ, List.filter_append, h]
theorem occT_all {w u : List Int} {i : Nat} (h : i = w.length + 1 - u.length) : occT w u i = occ w u := by rw [h]; rfl
theorem occT_len (w u : List Int) (i : Nat) : (occT w u i).length ≤ i := by
  unfold occT
  rw [List.length_map]
  have := List.length_filter_le (fun i => decide ((w.drop i).take u.length = u)) (List.range i)
  simpa using this
theorem occ_at {w u : List Int} {k : Nat} {x : Int} (h : (occ w u)[k]? = some x) : 0 ≤ x ∧ x + u.length ≤ w.length := by
  have hm := List.mem_of_getElem? h
  obtain ⟨i, hi, rfl⟩ := List.mem_map.1 hm
  have := List.mem_range.1 (List.mem_filter.1 hi).1
  omega
theorem range_map_asc (p : Nat → Bool) : ∀ n, (((List.range n).filter p).map fun i : Nat => (i : Int)).Pairwise (· < ·) := fun n => by
  refine List.pairwise_map.2 ?_
  have h : (List.range n).Pairwise (· < ·) := List.pairwise_lt_range
  exact (h.filter p).imp fun h => by omega
theorem occ_asc {w u : List Int} {k : Nat} {x y : Int} (hx : (occ w u)[k]? = some x) (hy : (occ w u)[k + 1]? = some y) : x < y := by
  obtain ⟨h1, rfl⟩ := List.getElem?_eq_some_iff.1 hx
  obtain ⟨h2, rfl⟩ := List.getElem?_eq_some_iff.1 hy
  have : (occ w u).Pairwise (· < ·) := range_map_asc (fun i => decide ((w.drop i).take u.length = u)) _
  exact List.pairwise_iff_getElem.1 this k (k + 1) h1 h2 (by omega)
end Go.Proofs.YtidfgfgokcflfaaGreat.Plain
/- Plain facts on borders and periods of a word, on its root and on its palindromes. No conditions beyond those that each fact states. -/
namespace Go.Proofs.YtidfgfgokcflfaaGreat.Plain
/-- A beginning of at least one letter has a border. -/
theorem bd_pos (u : List Int) {n : Nat} (h : 0 < n) : 0 ≤ bd u n := by
  by_cases hb : bd u n < 0
  · have := gr_above (p := sfx u n) (n := n) (j := 0) h hb
    simp [sfx] at this
  · omega
/-- All borders of the first n letters, in ascending order. -/
def brs (u : List Int) (n : Nat) : List Int :=
  if _h : n = 0 then [] else brs u (bd u n).toNat ++ [bd u n]
termination_by n
decreasing_by have := bd_ge u n; omega
theorem brs_zero (u : List Int) : brs u 0 = [] := by unfold brs; simp
theorem brs_pos (u : List Int) {n : Nat} (h : 0 < n) : brs u n = brs u (bd u n).toNat ++ [bd u n] := by
  conv => lhs; unfold brs
  rw [dif_neg (by omega)]
theorem brs_len (u : List Int) : ∀ n, (brs u n).length ≤ n := fun n => by
  induction n using Nat.strongRecOn with
  | ind n ih =>
    by_cases h : n = 0
    · subst h; rw [brs_zero]; exact Nat.le_refl _
    · rw [brs_pos u (by omega)]
      have h1 := bd_ge u n
      have h2 := bd_pos u (n := n) (by omega)
      have := ih (bd u n).toNat (by omega)
      simp; omega
theorem brs_range (u : List Int) : ∀ n x, x ∈ brs u n → 0 ≤ x ∧ x < n := fun n => by
  induction n using Nat.strongRecOn with
  | ind n ih =>
    intro x hx
    by_cases h : n = 0
    · subst h; rw [brs_zero] at hx; cases hx
    · rw [brs_pos u (by omega)] at hx
      have h1 := bd_ge u n
      have h2 := bd_pos u (n := n) (by omega)
      rcases List.mem_append.1 hx with hx | hx
      · have := ih (bd u n).toNat (by omega) x hx
        omega
      · obtain rfl := List.mem_singleton.1 hx
        omega
/-- The borders of a word; what is left of its length; the least of that. -/
def brV (u : List Int) : List Int := brs u u.length
def prV (u : List Int) : List Int := (brV u).reverse.map fun b => (u.length : Int) - b
def lpN (u : List Int) : Nat := ((u.length : Int) - bd u u.length).toNat
def lpV (u : List Int) : Int := if u.length = 0 then 0 else (u.length : Int) - bd u u.length
theorem brV_len (u : List Int) : (brV u).length ≤ u.length := brs_len u _
theorem prV_len (u : List Int) : (prV u).length ≤ u.length := by simpa [prV] using brV_len u
theorem brV_nil {u : List Int} (h : u.length = 0) : brV u = [] := by unfold brV; rw [h]; exact brs_zero u
theorem prV_nil {u : List Int} (h : u.length = 0) : prV u = [] := by simp [prV, brV_nil h]
theorem lpV_nil {u : List Int} (h : u.length = 0) : lpV u = 0 := by simp [lpV, h]
theorem prV_first {u : List Int} (h : 0 < u.length) : (prV u)[0]? = some (lpV u) := by
  unfold prV brV lpV
  rw [brs_pos u h, List.reverse_append, if_neg (by omega)]
  rfl
theorem prV_pos {u : List Int} (h : 0 < u.length) : 0 < (prV u).length := by
  have := prV_first h
  exact (List.getElem?_eq_some_iff.1 this).1
theorem lpV_range {u : List Int} (h : 0 < u.length) : 0 < lpV u ∧ lpV u ≤ u.length := by
  have h1 := bd_ge u u.length
  have h2 := bd_pos u h
  unfold lpV
  rw [if_neg (by omega)]
  omega
theorem lpN_eq {u : List Int} (h : 0 < u.length) : (lpN u : Int) = lpV u := by
  have h1 := bd_ge u u.length
  unfold lpN lpV
  rw [if_neg (by omega)]
  omega
/-- p is a period: letters at that distance are equal. -/
def Per (u : List Int) (p : Nat) : Prop := ∀ j, j + p < u.length → u[j + p]? = u[j]?
theorem per_iff {u : List Int} {j : Nat} (hj : j ≤ u.length) : sfx u u.length j = true ↔ Per u (u.length - j) := by
  unfold sfx Per
  rw [decide_eq_true_eq, List.take_length]
  constructor
  · rintro ⟨s, hs⟩ i hi
    have hl := congrArg List.length hs
    rw [List.length_append, List.length_take] at hl
    have e : u[i + (u.length - j)]? = (s ++ u.take j)[i + (u.length - j)]? := by rw [hs]
    rw [e, List.getElem?_append_right (by omega), List.getElem?_take]
    rw [show i + (u.length - j) - s.length = i from by omega]
    rw [if_pos (by omega)]
  · intro h
    refine ⟨u.take (u.length - j), ?_⟩
    refine List.ext_getElem? fun i => ?_
    rcases Nat.lt_or_ge i (u.length - j) with h1 | h1
    · rw [List.getElem?_append_left (by rw [List.length_take]; omega), List.getElem?_take, if_pos h1]
    · rw [List.getElem?_append_right (by rw [List.length_take]; omega), List.getElem?_take, List.length_take, show i - min (u.length - j) u.length = i - (u.length - j) from by omega]
      rcases Nat.lt_or_ge i u.length with h2 | h2
      · rw [if_pos (by omega)]
        have := h (i - (u.length - j)) (by omega)
        rw [show i - (u.length - j) + (u.length - j) = i from by omega] at this
        exact this.symm
      · rw [List.getElem?_eq_none h2]
        split
        · omega
        · rfl
theorem lpN_per {u : List Int} (h : 0 < u.length) : 0 < lpN u ∧ lpN u ≤ u.length ∧ Per u (lpN u) ∧ ∀ q, 0 < q → q ≤ u.length → Per u q → lpN u ≤ q := by
  have h1 := bd_ge u u.length
  have h2 := bd_pos u h
  obtain ⟨b, hb⟩ : ∃ b : Nat, bd u u.length = b := ⟨(bd u u.length).toNat, by omega⟩
  have e : lpN u = u.length - b := by unfold lpN; omega
  have hg := gr_is (p := sfx u u.length) hb
  refine ⟨by omega, by omega, ?_, fun q hq hqn hp => ?_⟩
  · rw [e]; exact (per_iff (by omega)).1 hg.1
  · rcases Nat.lt_or_ge q (lpN u) with h3 | h3
    · have hf := gr_above (p := sfx u u.length) (n := u.length) (j := u.length - q) (by omega) (by unfold bd at hb; omega)
      have := (per_iff (u := u) (j := u.length - q) (by omega)).2 (by rw [show u.length - (u.length - q) = q from by omega]; exact hp)
      rw [this] at hf
      cases hf
    · exact h3
theorem per_mod {u : List Int} {p : Nat} (hp : 0 < p) (h : Per u p) : ∀ j, j < u.length → u[j]? = u[j % p]? := fun j => by
  induction j using Nat.strongRecOn with
  | ind j ih =>
    intro hj
    rcases Nat.lt_or_ge j p with h1 | h1
    · rw [Nat.mod_eq_of_lt h1]
    · have h2 := ih (j - p) (by omega) (by omega)
      have h3 := h (j - p) (by omega)
      rw [show j - p + p = j from by omega] at h3
      rw [h3, h2, ← Nat.mod_eq_sub_mod h1]
/-- Periods that are short enough: what is left of one by the other is one, too. -/
theorem per_sub {u : List Int} {p q : Nat} (hp : Per u p) (hq : Per u q) (hpq : p ≤ q) (hs : p + q ≤ u.length) : Per u (q - p) := by
  intro j hj
  rcases Nat.lt_or_ge j p with h | h
  · have h1 := hq j (by omega)
    have h2 := hp (j + (q - p)) (by omega)
    rw [show j + (q - p) + p = j + q from by omega] at h2
    rw [← h2, h1]
  · have h1 := hp (j - p) (by omega)
    rw [show j - p + p = j from by omega] at h1
    have h2 := hq (j - p) (by omega)
    rw [show j - p + q = j + (q - p) from by omega] at h2
    rw [h2, h1]
theorem per_rem {u : List Int} {p : Nat} (h0 : 0 < p) (hp : Per u p) : ∀ q, Per u q → p + q ≤ u.length → Per u (q % p) := fun q => by
  induction q using Nat.strongRecOn with
  | ind q ih =>
    intro hq hs
    rcases Nat.lt_or_ge q p with h1 | h1
    · rw [Nat.mod_eq_of_lt h1]; exact hq
    · rw [Nat.mod_eq_sub_mod h1]
      exact ih (q - p) (by omega) (per_sub hp hq h1 hs) (by omega)
/-- Turning the word by i places leaves it as it is. -/
def Rot (u : List Int) (i : Nat) : Prop := ∀ j, j < u.length → u[(j + i) % u.length]? = u[j]?
theorem rot_sub {u : List Int} {a b : Nat} (ha : Rot u a) (hb : Rot u b) (h : a ≤ b) : Rot u (b - a) := by
  intro j hj
  have h1 := ha ((j + (b - a)) % u.length) (Nat.mod_lt _ (by omega))
  rw [← h1, Nat.mod_add_mod, show j + (b - a) + a = j + b from by omega]
  exact hb j hj
theorem rot_rem {u : List Int} {a : Nat} (h0 : 0 < a) (ha : Rot u a) : ∀ b, Rot u b → Rot u (b % a) := fun b => by
  induction b using Nat.strongRecOn with
  | ind b ih =>
    intro hb
    rcases Nat.lt_or_ge b a with h1 | h1
    · rw [Nat.mod_eq_of_lt h1]; exact hb
    · rw [Nat.mod_eq_sub_mod h1]
      exact ih (b - a) (by omega) (rot_sub ha hb h1)
theorem rot_per {u : List Int} {i : Nat} (h : Rot u i) : Per u i := by
  intro j hj
  have := h j (by omega)
  rw [Nat.mod_eq_of_lt hj] at this
  exact this
theorem per_rot {u : List Int} {p : Nat} (hp : 0 < p) (h : Per u p) (hd : u.length % p = 0) : Rot u p := by
  intro j hj
  have h1 := per_mod hp h _ (Nat.mod_lt (j + p) (show 0 < u.length by omega))
  rw [h1, per_mod hp h j hj, Nat.mod_mod_of_dvd _ (Nat.dvd_of_mod_eq_zero hd), Nat.add_mod_right]
/-- The length of the root. -/
def rlN (u : List Int) : Nat := if u.length % lpN u = 0 then lpN u else u.length
theorem rlN_range {u : List Int} (h : 0 < u.length) : 0 < rlN u ∧ rlN u ≤ u.length := by
  have := lpN_per h
  unfold rlN
  split <;> omega
theorem rlN_rot {u : List Int} (h : 0 < u.length) : Rot u (rlN u) ∧ ∀ d, 0 < d → d < rlN u → ¬ Rot u d := by
  obtain ⟨l1, l2, l3, l4⟩ := lpN_per h
  have hn : Rot u u.length := fun j hj => by rw [Nat.add_mod_right, Nat.mod_eq_of_lt hj]
  by_cases hd : u.length % lpN u = 0
  · have e : rlN u = lpN u := by unfold rlN; rw [if_pos hd]
    rw [e]
    exact ⟨per_rot l1 l3 hd, fun d h1 h2 hr => by
      have := l4 d h1 (by omega) (rot_per hr)
      omega⟩
  · have e : rlN u = u.length := by unfold rlN; rw [if_neg hd]
    rw [e]
    refine ⟨hn, fun d h1 h2 hr => hd ?_⟩
    -- the least turn divides the length, and the least period divides it
    obtain ⟨m, hm⟩ : ∃ m, (0 < m ∧ Rot u m) ∧ ∀ k, k < m → ¬ (0 < k ∧ Rot u k) := by
      have : ∀ n, (0 < n ∧ Rot u n) → ∃ m, (0 < m ∧ Rot u m) ∧ ∀ k, k < m → ¬ (0 < k ∧ Rot u k) := fun n => by
        induction n using Nat.strongRecOn with
        | ind n ih =>
          intro hn
          by_cases hk : ∃ k, k < n ∧ (0 < k ∧ Rot u k)
          · obtain ⟨k, hk1, hk2⟩ := hk
            exact ih k hk1 hk2
          · exact ⟨n, hn, fun k hk1 hk2 => hk ⟨k, hk1, hk2⟩⟩
      exact this d ⟨h1, hr⟩
    have hmd : m ≤ d := Nat.le_of_not_lt fun hlt => hm.2 d hlt ⟨h1, hr⟩
    have hr2 := rot_rem hm.1.1 hm.1.2 _ hn
    have hz : u.length % m = 0 := by
      rcases Nat.eq_zero_or_pos (u.length % m) with h3 | h3
      · exact h3
      · exact absurd ⟨h3, hr2⟩ (hm.2 _ (Nat.mod_lt _ hm.1.1))
    have hpm := rot_per hm.1.2
    have hlm := l4 m hm.1.1 (by omega) hpm
    have hmn : m < u.length := by
      rcases Nat.lt_or_ge m u.length with h3 | h3
      · exact h3
      · omega
    have h2m : m + m ≤ u.length := by
      have h3 := Nat.div_add_mod u.length m
      rw [hz, Nat.add_zero] at h3
      obtain ⟨c, hc⟩ : ∃ c, c = u.length / m := ⟨_, rfl⟩
      rw [← hc] at h3
      clear hc
      rcases Nat.lt_or_ge c 2 with h4 | h4
      · have h5 : c = 0 ∨ c = 1 := by omega
        rcases h5 with h5 | h5 <;> rw [h5] at h3 <;> omega
      · have h6 := Nat.mul_le_mul_left m h4
        omega
    have hrem := per_rem l1 l3 m hpm (by omega)
    have hz2 : m % lpN u = 0 := by
      rcases Nat.eq_zero_or_pos (m % lpN u) with h3 | h3
      · exact h3
      · have h4 := l4 _ h3 (by have := Nat.mod_lt m l1; omega) hrem
        have := Nat.mod_lt m l1
        omega
    exact Nat.mod_eq_zero_of_dvd (Nat.dvd_trans (Nat.dvd_of_mod_eq_zero hz2) (Nat.dvd_of_mod_eq_zero hz))
theorem rot_iff {u : List Int} {i : Nat} (hi : i ≤ u.length) : ((u ++ u).drop i).take u.length = u ↔ Rot u i := by
  have e : ∀ j, j < u.length → (((u ++ u).drop i).take u.length)[j]? = u[(j + i) % u.length]? := fun j hj => by
    rw [List.getElem?_take, if_pos hj, List.getElem?_drop]
    rcases Nat.lt_or_ge (i + j) u.length with h1 | h1
    · rw [List.getElem?_append_left h1, Nat.add_comm j i, Nat.mod_eq_of_lt h1]
    · rw [List.getElem?_append_right h1, Nat.add_comm j i, Nat.mod_eq_sub_mod h1, Nat.mod_eq_of_lt (by omega)]
  constructor
  · intro h j hj
    rw [← e j hj, h]
  · intro h
    refine List.ext_getElem? fun j => ?_
    rcases Nat.lt_or_ge j u.length with h1 | h1
    · rw [e j h1, h j h1]
    · rw [List.getElem?_eq_none h1, List.getElem?_eq_none (by rw [List.length_take]; omega)]
/-- A list of places from 0 on, of which the first two are known. -/
theorem filter_two {p : Nat → Bool} {n d : Nat} (h0 : p 0 = true) (hd : p d = true) (hd0 : 0 < d) (hn : d < n) (hno : ∀ k, 0 < k → k < d → p k = false) : (((List.range n).filter p).map fun i : Nat => (i : Int))[1]? = some (d : Int) := by
  have e : List.range n = [0] ++ ((List.range (d - 1)).map (fun k => k + 1) ++ ([d] ++ (List.range (n - d - 1)).map fun k => k + d + 1)) := by
    refine List.ext_getElem (by simp; omega) fun i h1 h2 => ?_
    rw [List.getElem_range]
    rw [List.length_range] at h1
    rcases Nat.eq_zero_or_pos i with h | h
    · subst h; rfl
    · rw [List.getElem_append_right (show [0].length ≤ i from h)]
      rcases Nat.lt_or_ge i d with h3 | h3
      · rw [List.getElem_append_left (by simp; omega)]
        simp
        omega
      · rw [List.getElem_append_right (by simp <;> omega)]
        rcases Nat.eq_or_lt_of_le h3 with h4 | h4
        · subst h4
          rw [List.getElem_append_left (by simp <;> omega)]
          simp
        · rw [List.getElem_append_right (by simp <;> omega)]
          simp <;> omega
  rw [e, List.filter_append, List.filter_append, List.filter_append]
  have h1 : List.filter p ((List.range (d - 1)).map fun k => k + 1) = [] := by
    rw [List.filter_eq_nil_iff]
    intro a ha
    obtain ⟨k, hk, rfl⟩ := List.mem_map.1 ha
    rw [List.mem_range] at hk
    simp [hno (k + 1) (by omega) (by omega)]
  rw [h1]
  simp [h0, hd]
theorem occ_double {u : List Int} (h : 0 < u.length) : (occ (u ++ u) u)[1]? = some (rlN u : Int) := by
  have hr := rlN_rot h
  have hl := rlN_range h
  unfold occ
  have e : (u ++ u).length + 1 - u.length = u.length + 1 := by rw [List.length_append]; omega
  rw [e]
  refine filter_two ?_ ?_ hl.1 (by omega) fun k hk hk' => ?_
  · exact decide_eq_true ((rot_iff (Nat.zero_le _)).2 fun j hj => by rw [Nat.add_zero, Nat.mod_eq_of_lt hj])
  · exact decide_eq_true ((rot_iff hl.2).2 hr.1)
  · exact decide_eq_false fun hc => hr.2 k hk hk' ((rot_iff (by omega)).1 hc)
def rlV (u : List Int) : Nat := if u.length = 0 then 0 else rlN u
def pmB (u : List Int) : Bool := decide (0 < u.length) && decide (rlV u = u.length)
def rtV (u : List Int) : List Int := u.take (rlV u)
theorem rlV_le (u : List Int) : rlV u ≤ u.length := by
  unfold rlV
  split
  · omega
  · exact (rlN_range (by omega)).2
theorem rtV_len (u : List Int) : (rtV u).length ≤ u.length := by simp [rtV]; omega
theorem rlV_nil {u : List Int} (h : u.length = 0) : rlV u = 0 := by simp [rlV, h]
theorem rlV_yes {u : List Int} (h : 0 < u.length) (hd : (u.length : Int).tmod (lpV u) = 0) : (rlV u : Int) = lpV u := by
  have h1 := lpN_eq h
  have h2 : (u.length : Int).tmod (lpV u) = ((u.length % lpN u : Nat) : Int) := by rw [← h1]; rfl
  unfold rlV rlN
  rw [if_neg (by omega), if_pos (by omega)]
  exact h1
theorem rlV_no {u : List Int} (h : 0 < u.length) (hd : (u.length : Int).tmod (lpV u) ≠ 0) : rlV u = u.length := by
  have h1 := lpN_eq h
  have h2 : (u.length : Int).tmod (lpV u) = ((u.length % lpN u : Nat) : Int) := by rw [← h1]; rfl
  unfold rlV rlN
  rw [if_neg (by omega), if_neg (by omega)]
theorem rlV_occ {u : List Int} (h : 0 < u.length) : (occ (u ++ u) u)[1]? = some (rlV u : Int) := by
  rw [occ_double h]
  unfold rlV
  rw [if_neg (by omega)]
theorem pmB_nil {u : List Int} (h : u.length = 0) : pmB u = false := by simp [pmB, h]
theorem pmB_pos {u : List Int} (h : 0 < u.length) : pmB u = decide ((rlV u : Int) = (u.length : Int)) := by
  unfold pmB
  rw [decide_eq_true h, Bool.true_and]
  exact decide_eq_decide.2 ⟨fun e => by rw [e], fun e => by omega⟩
theorem rtV_yes {u : List Int} {p : Nat} (h : 0 < u.length) (hd : (u.length : Int).tmod (lpV u) = 0) (hp : lpV u = p) : rtV u = u.take p := by
  have := rlV_yes h hd
  unfold rtV
  rw [show rlV u = p from by omega]
theorem rtV_no {u : List Int} (h : 0 < u.length) (hd : (u.length : Int).tmod (lpV u) ≠ 0) : rtV u = u := by
  unfold rtV
  rw [rlV_no h hd, List.take_length]
theorem rtV_nil {u : List Int} (h : u.length = 0) : rtV u = [] := by unfold rtV; rw [List.eq_nil_of_length_eq_zero h]; simp
end Go.Proofs.YtidfgfgokcflfaaGreat.Plain
/- Plain facts on parts with a period, on squares and exponents of a word. No conditions beyond those that each fact states. -/
namespace Go.Proofs.YtidfgfgokcflfaaGreat.Plain
set_option linter.unusedSimpArgs false
/-- The part of n letters from place a on has the period p. -/
def PerA (u : List Int) (a p n : Nat) : Prop := a + n ≤ u.length ∧ ∀ j, p ≤ j → j < n → u[a + j]? = u[a + j - p]?
theorem PerA.less {u : List Int} {a p n m : Nat} (h : PerA u a p n) (hm : m ≤ n) : PerA u a p m := ⟨by have := h.1; omega, fun j h1 h2 => h.2 j h1 (by omega)⟩
theorem PerA.short {u : List Int} {a p n : Nat} (h : a + n ≤ u.length) (hn : n ≤ p) : PerA u a p n := ⟨h, fun j h1 h2 => by omega⟩
theorem PerA.more {u : List Int} {a p n : Nat} {x y : Int} (h : PerA u a p n) (h1 : u[a + n]? = some x) (h2 : u[a + n - p]? = some y) (hxy : x = y) : PerA u a p (n + 1) := by
  have hl := (List.getElem?_eq_some_iff.1 h1).1
  refine ⟨by omega, fun j hj hjn => ?_⟩
  by_cases e : j = n
  · subst e
    rw [h1, h2, hxy]
  · exact h.2 j hj (by omega)
theorem PerA.stop {u : List Int} {a p n m : Nat} {x y : Int} (h : PerA u a p m) (hp : p ≤ n) (h1 : u[a + n]? = some x) (h2 : u[a + n - p]? = some y) (hxy : x ≠ y) : m ≤ n := by
  refine Nat.le_of_not_lt fun hlt => ?_
  have := h.2 n hp hlt
  rw [h1, h2] at this
  exact hxy (Option.some.inj this)
/-- How long the word goes on with the period p from the place a. -/
def ml (u : List Int) (a p : Nat) : Nat → Nat
  | 0 => p
  | k + 1 => if PerA' u a p (p + k + 1) then p + k + 1 else ml u a p k
where PerA' (u : List Int) (a p n : Nat) : Bool := decide (a + n ≤ u.length) && (List.range n).all fun j => decide (p ≤ j → u[a + j]? = u[a + j - p]?)
theorem perA'_iff {u : List Int} {a p n : Nat} : ml.PerA' u a p n = true ↔ PerA u a p n := by
  simp only [ml.PerA', Bool.and_eq_true, decide_eq_true_eq, List.all_eq_true, List.mem_range, PerA]
  exact and_congr_right fun _ => ⟨fun h j h1 h2 => h j h2 h1, fun h j h1 h2 => h j h2 h1⟩
theorem ml_prop (u : List Int) (a p : Nat) (h : a + p ≤ u.length) : ∀ k, p ≤ ml u a p k ∧ PerA u a p (ml u a p k) ∧ ∀ n, PerA u a p n → n ≤ p + k → n ≤ ml u a p k := fun k => by
  induction k with
  | zero => exact ⟨Nat.le_refl _, PerA.short h (Nat.le_refl _), fun n _ hn => hn⟩
  | succ k ih =>
    unfold ml
    by_cases hc : ml.PerA' u a p (p + k + 1) = true
    · rw [if_pos hc]
      exact ⟨by omega, perA'_iff.1 hc, fun n _ hn => by omega⟩
    · rw [if_neg hc]
      refine ⟨ih.1, ih.2.1, fun n hn hk => ?_⟩
      by_cases e : n = p + k + 1
      · subst e
        exact absurd (perA'_iff.2 hn) hc
      · exact ih.2.2 n hn (by omega)
/-- The length of the longest part with the period p from the place a on. -/
def mlen (u : List Int) (a p : Nat) : Nat := ml u a p u.length
theorem mlen_ge {u : List Int} {a p : Nat} (h : a + p ≤ u.length) : p ≤ mlen u a p := (ml_prop u a p h _).1
theorem mlen_per {u : List Int} {a p : Nat} (h : a + p ≤ u.length) : PerA u a p (mlen u a p) := (ml_prop u a p h _).2.1
theorem mlen_le {u : List Int} {a p : Nat} (h : a + p ≤ u.length) : a + mlen u a p ≤ u.length := (mlen_per h).1
theorem mlen_max {u : List Int} {a p n : Nat} (h : a + p ≤ u.length) (hn : PerA u a p n) : n ≤ mlen u a p := (ml_prop u a p h _).2.2 n hn (by have := hn.1; omega)
theorem mlen_iff {u : List Int} {a p n : Nat} (h : a + p ≤ u.length) : n ≤ mlen u a p ↔ PerA u a p n := ⟨fun hn => (mlen_per h).less hn, mlen_max h⟩
/-- It ends where the letters differ or the word ends. -/
theorem mlen_stop {u : List Int} {a p n : Nat} {x y : Int} (h : PerA u a p n) (hp : p ≤ n) (h1 : u[a + n]? = some x) (h2 : u[a + n - p]? = some y) (hxy : x ≠ y) : mlen u a p = n := by
  have hl := h.1
  have := mlen_max (by omega) h
  have := (mlen_per (u := u) (a := a) (p := p) (by omega)).stop hp h1 h2 hxy
  omega
theorem mlen_end {u : List Int} {a p n : Nat} (h : PerA u a p n) (hp : p ≤ n) (he : u.length ≤ a + n) : mlen u a p = n := by
  have hl := h.1
  have := mlen_max (by omega) h
  have := mlen_le (u := u) (a := a) (p := p) (by omega)
  omega
/-- The length of the longest part with the period p that ends before place p + k, and of the longest of all till there. -/
def lgT (u : List Int) (p : Nat) : Nat → Nat × Nat
  | 0 => (p, p)
  | k + 1 => let l := if u[p + k]? = u[k]? then (lgT u p k).1 + 1 else p; (l, max (lgT u p k).2 l)
theorem lgT_yes {u : List Int} {p k : Nat} {x y : Int} (h1 : u[p + k]? = some x) (h2 : u[k]? = some y) (h : x = y) : lgT u p (k + 1) = ((lgT u p k).1 + 1, max (lgT u p k).2 ((lgT u p k).1 + 1)) := by simp [lgT, h1, h2, h]
theorem lgT_no {u : List Int} {p k : Nat} {x y : Int} (h1 : u[p + k]? = some x) (h2 : u[k]? = some y) (h : x ≠ y) : lgT u p (k + 1) = (p, max (lgT u p k).2 p) := by simp [lgT, h1, h2, h]
theorem lgT_prop {u : List Int} {p : Nat} (hp : p ≤ u.length) : ∀ k, p + k ≤ u.length → (p ≤ (lgT u p k).1 ∧ (lgT u p k).1 ≤ p + k ∧ PerA u (p + k - (lgT u p k).1) p (lgT u p k).1 ∧ ∀ a n, a + n = p + k → PerA u a p n → n ≤ (lgT u p k).1) ∧
    (p ≤ (lgT u p k).2 ∧ (∃ a, a + (lgT u p k).2 ≤ p + k ∧ PerA u a p (lgT u p k).2) ∧ ∀ a n, a + n ≤ p + k → PerA u a p n → n ≤ (lgT u p k).2) := fun k => by
  induction k with
  | zero =>
    intro h
    refine ⟨⟨Nat.le_refl _, Nat.le_refl _, PerA.short (by show p + 0 - p + p ≤ _; omega) (Nat.le_refl _), fun a n h1 _ => by show n ≤ p; omega⟩, Nat.le_refl _, ⟨0, by show 0 + p ≤ _; omega, PerA.short (by show 0 + p ≤ _; omega) (Nat.le_refl _)⟩, fun a n h1 _ => by show n ≤ p; omega⟩
  | succ k ih =>
    intro h
    obtain ⟨⟨h1, h2, h3, h4⟩, h5, ⟨a5, h6, h7⟩, h8⟩ := ih (by omega)
    obtain ⟨x, hx⟩ : ∃ x, u[p + k]? = some x := ⟨_, List.getElem?_eq_getElem (by omega)⟩
    obtain ⟨y, hy⟩ : ∃ y, u[k]? = some y := ⟨_, List.getElem?_eq_getElem (by omega)⟩
    have key : ∀ l, l = (if x = y then (lgT u p k).1 + 1 else p) → (p ≤ l ∧ l ≤ p + (k + 1) ∧ PerA u (p + (k + 1) - l) p l ∧ ∀ a n, a + n = p + (k + 1) → PerA u a p n → n ≤ l) := fun l hl => by
      by_cases e : x = y
      · rw [if_pos e] at hl
        subst hl
        refine ⟨by omega, by omega, ?_, fun a n hn hper => ?_⟩
        · rw [show p + (k + 1) - ((lgT u p k).1 + 1) = p + k - (lgT u p k).1 from by omega]
          exact h3.more (x := x) (y := y) (by rw [show p + k - (lgT u p k).1 + (lgT u p k).1 = p + k from by omega]; exact hx) (by rw [show p + k - (lgT u p k).1 + (lgT u p k).1 - p = k from by omega]; exact hy) e
        · cases n with
          | zero => omega
          | succ n => have := h4 a n (by omega) (hper.less (by omega)); omega
      · rw [if_neg e] at hl
        rw [hl]
        refine ⟨Nat.le_refl _, by omega, PerA.short (by omega) (Nat.le_refl _), fun a n hn hper => ?_⟩
        refine Nat.le_of_not_lt fun hlt => ?_
        have := hper.stop (n := n - 1) (x := x) (y := y) (by omega) (by rw [show a + (n - 1) = p + k from by omega]; exact hx) (by rw [show a + (n - 1) - p = k from by omega]; exact hy) e
        omega
    have hT : lgT u p (k + 1) = ((if x = y then (lgT u p k).1 + 1 else p), max (lgT u p k).2 (if x = y then (lgT u p k).1 + 1 else p)) := by
      by_cases e : x = y
      · rw [lgT_yes hx hy e, if_pos e]
      · rw [lgT_no hx hy e, if_neg e]
    rw [hT]
    have K := key _ rfl
    generalize (if x = y then (lgT u p k).1 + 1 else p) = l at K
    refine ⟨K, ?_, ?_, ?_⟩
    · show p ≤ max _ _; omega
    · show ∃ a, a + max (lgT u p k).2 l ≤ _ ∧ PerA u a p (max (lgT u p k).2 l)
      rcases Nat.le_total (lgT u p k).2 l with hm | hm
      · rw [Nat.max_eq_right hm]
        exact ⟨p + (k + 1) - l, by omega, K.2.2.1⟩
      · rw [Nat.max_eq_left hm]
        exact ⟨a5, by omega, h7⟩
    · intro a n hn hper
      show n ≤ max _ _
      by_cases e : a + n = p + (k + 1)
      · have := K.2.2.2 a n e hper; omega
      · have := h8 a n (by omega) hper; omega
/-- The length of the longest part with the period p. -/
def lg (u : List Int) (p : Nat) : Nat := (lgT u p (u.length - p)).2
theorem lg_ge {u : List Int} {p : Nat} (h : p ≤ u.length) : p ≤ lg u p := (lgT_prop h (u.length - p) (by omega)).2.1
theorem lg_is {u : List Int} {p : Nat} (h : p ≤ u.length) : ∃ a, PerA u a p (lg u p) := by
  obtain ⟨a, _, h2⟩ := (lgT_prop h (u.length - p) (by omega)).2.2.1
  exact ⟨a, h2⟩
theorem lg_max {u : List Int} {a p n : Nat} (h : p ≤ u.length) (hn : PerA u a p n) : n ≤ lg u p := (lgT_prop h (u.length - p) (by omega)).2.2.2 a n (by have := hn.1; omega) hn
theorem lg_le {u : List Int} {p : Nat} (h : p ≤ u.length) : lg u p ≤ u.length := by
  obtain ⟨a, h1⟩ := lg_is h
  have := h1.1
  omega
theorem lgT_le {u : List Int} {p k : Nat} (h : p + k ≤ u.length) : p ≤ (lgT u p k).1 ∧ (lgT u p k).1 ≤ u.length ∧ p ≤ (lgT u p k).2 ∧ (lgT u p k).2 ≤ u.length := by
  have h1 := lgT_prop (u := u) (p := p) (by omega) k h
  obtain ⟨a, h2, h3⟩ := h1.2.2.1
  exact ⟨h1.1.1, by have := h1.1.2.1; omega, h1.2.1, by omega⟩
theorem lg_at {u : List Int} {p : Nat} (h : p ≤ u.length) : ∃ a, a + p ≤ u.length ∧ mlen u a p = lg u p := by
  obtain ⟨a, h1⟩ := lg_is h
  have h2 := h1.1
  have h3 := lg_ge h
  have h4 := mlen_max (by omega) h1
  have h5 := lg_max h (mlen_per (u := u) (a := a) (p := p) (by omega))
  exact ⟨a, by omega, by omega⟩
theorem mlen_lg {u : List Int} {a p : Nat} (h : a + p ≤ u.length) : mlen u a p ≤ lg u p := lg_max (by omega) (mlen_per h)
/-- The exponents of the longest parts, the first k. -/
def exps (u : List Int) (k : Nat) : List (Nat × Nat) := (List.range k).map fun i => (lg u (i + 1), i + 1)
theorem exps_succ (u : List Int) (k : Nat) : exps u (k + 1) = exps u k ++ [(lg u (k + 1), k + 1)] := by simp [exps, List.range_succ]
theorem exps_len (u : List Int) (k : Nat) : (exps u k).length = k := by simp [exps]
theorem exps_mem {u : List Int} {k : Nat} {e : Nat × Nat} (h : e ∈ exps u k) : 0 < e.2 ∧ e.2 ≤ k ∧ e.1 = lg u e.2 := by
  obtain ⟨i, hi, rfl⟩ := List.mem_map.1 h
  have := List.mem_range.1 hi
  exact ⟨by show 0 < i + 1; omega, by show i + 1 ≤ k; omega, rfl⟩
theorem exps_in {u : List Int} {k p : Nat} (h0 : 0 < p) (hp : p ≤ k) : (lg u p, p) ∈ exps u k := List.mem_map.2 ⟨p - 1, List.mem_range.2 (by omega), by rw [show p - 1 + 1 = p from by omega]⟩
/-- Whether a part is longer than twice a period of its. -/
def ovB (u : List Int) : Bool := decide (u.length ≤ 128) && (exps u u.length).any fun e => decide (e.1 > 2 * e.2)
theorem ov_yes {u : List Int} {a p : Nat} (hl : u.length ≤ 128) (h0 : 0 < p) (h : a + p ≤ u.length) (hm : mlen u a p > 2 * p) : ovB u = true := by
  have := mlen_lg h
  simp only [ovB, hl, decide_true, Bool.true_and, List.any_eq_true, decide_eq_true_eq]
  exact ⟨_, exps_in h0 (by omega), by show lg u p > 2 * p; omega⟩
theorem ov_no {u : List Int} (h : ∀ a p, 0 < p → a + 2 * p < u.length → ¬ mlen u a p > 2 * p) : ovB u = false := by
  rw [← Bool.not_eq_true]
  intro hb
  simp only [ovB, Bool.and_eq_true, List.any_eq_true, decide_eq_true_eq] at hb
  obtain ⟨_, e, he, h2⟩ := hb
  obtain ⟨h3, h4, h5⟩ := exps_mem he
  obtain ⟨a, h6, h7⟩ := lg_at h4
  have h8 := mlen_le h6
  exact h a e.2 h3 (by omega) (by omega)
/-- Whether a part is at least num / den times as long as a period of its. -/
def powB (u : List Int) (num den : Int) : Bool := decide (u.length ≤ 128 ∧ 2 ≤ num ∧ num ≤ 20 ∧ 1 ≤ den ∧ den < num) && (exps u u.length).any fun e => decide ((e.1 : Int) * den ≥ num * (e.2 : Int))
theorem pow_yes {u : List Int} {num den : Int} {a p : Nat} (hl : u.length ≤ 128 ∧ 2 ≤ num ∧ num ≤ 20 ∧ 1 ≤ den ∧ den < num) (h0 : 0 < p) (h : a + p ≤ u.length) (hm : (mlen u a p : Int) * den ≥ (p : Int) * num) : powB u num den = true := by
  have h1 := mlen_lg h
  have h2 : (mlen u a p : Int) * den ≤ (lg u p : Int) * den := Int.mul_le_mul_of_nonneg_right (by omega) (by omega)
  have h3 : (p : Int) * num = num * (p : Int) := Int.mul_comm _ _
  simp only [powB, hl, and_self, decide_true, Bool.true_and, List.any_eq_true, decide_eq_true_eq]
  exact ⟨_, exps_in h0 (by omega), by show (lg u p : Int) * den ≥ num * (p : Int); omega⟩
theorem pow_no {u : List Int} {num den : Int} (h : ∀ a p, 0 < p → a + p < u.length → ¬ (mlen u a p : Int) * den ≥ (p : Int) * num) : powB u num den = false := by
  rw [← Bool.not_eq_true]
  intro hb
  simp only [powB, Bool.and_eq_true, List.any_eq_true, decide_eq_true_eq] at hb
  obtain ⟨h1, e, he, h2⟩ := hb
  obtain ⟨h3, h4, h5⟩ := exps_mem he
  obtain ⟨a, h6, h7⟩ := lg_at h4
  have h9 : (e.2 : Int) * num = num * (e.2 : Int) := Int.mul_comm _ _
  by_cases e1 : a + e.2 < u.length
  · exact h a e.2 h3 e1 (by rw [h7, ← h5]; omega)
  · have h8 := mlen_le h6
    have h10 : e.1 ≤ e.2 := by omega
    have h11 : (e.1 : Int) * den ≤ (e.2 : Int) * den := Int.mul_le_mul_of_nonneg_right (by omega) (by omega)
    have h12 : (e.2 : Int) * den < (e.2 : Int) * num := Int.mul_lt_mul_of_pos_left (by omega) (by omega)
    omega
theorem pow_out {u : List Int} {num den : Int} (h : ¬ (u.length ≤ 128 ∧ 2 ≤ num ∧ num ≤ 20 ∧ 1 ≤ den ∧ den < num)) : powB u num den = false := by simp [powB, h]
theorem pow_in {u : List Int} {num den : Int} (h : u.length ≤ 128 ∧ 2 ≤ num ∧ num ≤ 20 ∧ 1 ≤ den ∧ den < num) : powB u num den = (exps u u.length).any fun e => decide ((e.1 : Int) * den ≥ num * (e.2 : Int)) := by simp [powB, h]
theorem ov_in {u : List Int} (h : u.length ≤ 128) : ovB u = (exps u u.length).any fun e => decide (e.1 > 2 * e.2) := by simp [ovB, h]
theorem ov_out {u : List Int} (h : ¬ u.length ≤ 128) : ovB u = false := by simp [ovB, h]
/-- n letters with the period p are the greatest exponent. -/
def Great (u : List Int) (n p : Nat) : Prop := 0 < p ∧ (∃ a, a + p ≤ u.length ∧ n = mlen u a p) ∧ ∀ a q, 0 < q → a + q ≤ u.length → mlen u a q * p ≤ n * q
theorem great_cross {u : List Int} {n p m q : Nat} (h : Great u n p) (k : Great u m q) : n * q = m * p := by
  obtain ⟨h1, ⟨a, h2, h3⟩, h4⟩ := h
  obtain ⟨k1, ⟨b, k2, k3⟩, k4⟩ := k
  have := h4 b q k1 k2
  have := k4 a p h1 h2
  rw [← k3] at *
  rw [← h3] at *
  omega
theorem low_dvd {n p m q : Nat} (hp : 0 < p) (h : n * q = m * p) : p / Nat.gcd n p ∣ q / Nat.gcd m q ∧ True := by
  refine ⟨?_, trivial⟩
  have hg : 0 < Nat.gcd n p := Nat.gcd_pos_of_pos_right _ hp
  have hc : Nat.Coprime (p / Nat.gcd n p) (n / Nat.gcd n p) := (Nat.coprime_div_gcd_div_gcd hg).symm
  refine hc.dvd_of_dvd_mul_left ?_
  by_cases hq : q = 0
  · subst hq; simp
  · have hg2 : 0 < Nat.gcd m q := Nat.gcd_pos_of_pos_right _ (by omega)
    refine ⟨m / Nat.gcd m q, ?_⟩
    have e1 := Nat.div_mul_cancel (Nat.gcd_dvd_left n p)
    have e2 := Nat.div_mul_cancel (Nat.gcd_dvd_right n p)
    have e3 := Nat.div_mul_cancel (Nat.gcd_dvd_left m q)
    have e4 := Nat.div_mul_cancel (Nat.gcd_dvd_right m q)
    generalize hA : n / Nat.gcd n p = A at *
    generalize hB : p / Nat.gcd n p = B at *
    generalize hC : m / Nat.gcd m q = C at *
    generalize hD : q / Nat.gcd m q = D at *
    generalize Nat.gcd n p = g at *
    generalize Nat.gcd m q = k at *
    rw [← e1, ← e2, ← e3, ← e4] at h
    have h2 : (g * k) * (A * D) = (g * k) * (B * C) := by
      rw [show (g * k) * (A * D) = A * g * (D * k) from by simp [Nat.mul_comm, Nat.mul_left_comm, Nat.mul_assoc], h]
      simp [Nat.mul_comm, Nat.mul_left_comm, Nat.mul_assoc]
    exact Nat.eq_of_mul_eq_mul_left (Nat.mul_pos hg hg2) h2
theorem low_eq {n p m q : Nat} (hp : 0 < p) (hq : 0 < q) (h : n * q = m * p) : n / Nat.gcd n p = m / Nat.gcd m q ∧ p / Nat.gcd n p = q / Nat.gcd m q := by
  have hB : p / Nat.gcd n p = q / Nat.gcd m q := Nat.dvd_antisymm (low_dvd hp h).1 (low_dvd hq h.symm).1
  refine ⟨?_, hB⟩
  have hg : 0 < Nat.gcd n p := Nat.gcd_pos_of_pos_right _ hp
  have hg2 : 0 < Nat.gcd m q := Nat.gcd_pos_of_pos_right _ hq
  have e1 := Nat.div_mul_cancel (Nat.gcd_dvd_left n p)
  have e2 := Nat.div_mul_cancel (Nat.gcd_dvd_right n p)
  have e3 := Nat.div_mul_cancel (Nat.gcd_dvd_left m q)
  have e4 := Nat.div_mul_cancel (Nat.gcd_dvd_right m q)
  have hpos : 0 < p / Nat.gcd n p := Nat.pos_of_ne_zero fun e => by rw [e] at e2; omega
  generalize n / Nat.gcd n p = A at *
  generalize p / Nat.gcd n p = B at *
  generalize m / Nat.gcd m q = C at *
  generalize q / Nat.gcd m q = D at *
  generalize Nat.gcd n p = g at *
  generalize Nat.gcd m q = k at *
  subst hB
  rw [← e1, ← e2, ← e3, ← e4] at h
  have h2 : (g * k * B) * A = (g * k * B) * C := by
    rw [show (g * k * B) * A = A * g * (B * k) from by simp [Nat.mul_comm, Nat.mul_left_comm, Nat.mul_assoc], h]
    simp [Nat.mul_comm, Nat.mul_left_comm, Nat.mul_assoc]
  exact Nat.eq_of_mul_eq_mul_left (Nat.mul_pos (Nat.mul_pos hg hg2) hpos) h2
/-- The first of the greatest exponents of a list, none less than the one at hand. -/
def mxF (e : Nat × Nat) : List (Nat × Nat) → Nat × Nat
  | [] => e
  | f :: l => mxF (if f.1 * e.2 > e.1 * f.2 then f else e) l
def mxE : List (Nat × Nat) → Nat × Nat
  | [] => (0, 0)
  | e :: l => mxF e l
theorem mxF_prop : ∀ (l : List (Nat × Nat)) (e : Nat × Nat), 0 < e.2 → (∀ f ∈ l, 0 < f.2) → (mxF e l = e ∨ mxF e l ∈ l) ∧ e.1 * (mxF e l).2 ≤ (mxF e l).1 * e.2 ∧ ∀ f ∈ l, f.1 * (mxF e l).2 ≤ (mxF e l).1 * f.2
  | [], e, _, _ => ⟨.inl rfl, Nat.le_refl _, fun f hf => by cases hf⟩
  | f :: l, e, he, hl => by
    have hf : 0 < f.2 := hl f (by simp)
    have ih := mxF_prop l (if f.1 * e.2 > e.1 * f.2 then f else e) (by split <;> assumption) fun x hx => hl x (by simp [hx])
    have hm : mxF e (f :: l) = mxF (if f.1 * e.2 > e.1 * f.2 then f else e) l := rfl
    rw [hm]
    generalize hM : mxF (if f.1 * e.2 > e.1 * f.2 then f else e) l = M at ih
    have cr : ∀ {a b c : Nat × Nat}, 0 < b.2 → a.1 * b.2 ≤ b.1 * a.2 → b.1 * c.2 ≤ c.1 * b.2 → a.1 * c.2 ≤ c.1 * a.2 := fun {a b c} hb h1 h2 => by
      refine Nat.le_of_mul_le_mul_right (c := b.2) ?_ hb
      calc a.1 * c.2 * b.2 = (a.1 * b.2) * c.2 := by simp [Nat.mul_comm, Nat.mul_left_comm, Nat.mul_assoc]
        _ ≤ (b.1 * a.2) * c.2 := Nat.mul_le_mul_right _ h1
        _ = (b.1 * c.2) * a.2 := by simp [Nat.mul_comm, Nat.mul_left_comm, Nat.mul_assoc]
        _ ≤ (c.1 * b.2) * a.2 := Nat.mul_le_mul_right _ h2
        _ = c.1 * a.2 * b.2 := by simp [Nat.mul_comm, Nat.mul_left_comm, Nat.mul_assoc]
    by_cases hc : f.1 * e.2 > e.1 * f.2
    · rw [if_pos hc] at ih
      refine ⟨.inr ?_, cr hf (Nat.le_of_lt hc) ih.2.1, fun x hx => ?_⟩
      · rcases ih.1 with h | h
        · rw [h]; simp
        · simp [h]
      · rcases List.mem_cons.1 hx with rfl | hx
        · exact ih.2.1
        · exact ih.2.2 x hx
    · rw [if_neg hc] at ih
      refine ⟨ih.1.imp id fun h => by simp [h], ih.2.1, fun x hx => ?_⟩
      rcases List.mem_cons.1 hx with rfl | hx
      · exact cr he (by omega) ih.2.1
      · exact ih.2.2 x hx
theorem mxF_snoc : ∀ (l : List (Nat × Nat)) (e f : Nat × Nat), mxF e (l ++ [f]) = if f.1 * (mxF e l).2 > (mxF e l).1 * f.2 then f else mxF e l
  | [], e, f => rfl
  | g :: l, e, f => by
    show mxF _ (l ++ [f]) = _
    rw [mxF_snoc l]
    rfl
theorem mxE_one (e : Nat × Nat) : mxE [e] = e := rfl
theorem mxE_snoc {l : List (Nat × Nat)} {f : Nat × Nat} (h : l ≠ []) : mxE (l ++ [f]) = if f.1 * (mxE l).2 > (mxE l).1 * f.2 then f else mxE l := by
  cases l with
  | nil => exact absurd rfl h
  | cons e l => exact mxF_snoc l e f
theorem mxE_great {u : List Int} (h : 0 < u.length) : Great u (mxE (exps u u.length)).1 (mxE (exps u u.length)).2 := by
  have hne : ∃ e l, exps u u.length = e :: l := by
    cases hx : exps u u.length with
    | nil => have := exps_len u u.length; rw [hx] at this; simp at this; omega
    | cons e l => exact ⟨e, l, rfl⟩
  obtain ⟨e, l, hel⟩ := hne
  have hpos : ∀ f ∈ exps u u.length, 0 < f.2 := fun f hf => (exps_mem hf).1
  have hP := mxF_prop l e (hpos e (by rw [hel]; simp)) fun f hf => hpos f (by rw [hel]; simp [hf])
  have hm : mxE (exps u u.length) = mxF e l := by rw [hel]; rfl
  rw [hm]
  have hin : mxF e l ∈ exps u u.length := by
    rw [hel]
    rcases hP.1 with h1 | h1
    · rw [h1]; simp
    · simp [h1]
  have hall : ∀ f ∈ exps u u.length, f.1 * (mxF e l).2 ≤ (mxF e l).1 * f.2 := fun f hf => by
    rw [hel] at hf
    rcases List.mem_cons.1 hf with rfl | hf
    · exact hP.2.1
    · exact hP.2.2 f hf
  generalize mxF e l = M at hin hall
  obtain ⟨h1, h2, h3⟩ := exps_mem hin
  refine ⟨h1, ?_, fun a q hq ha => ?_⟩
  · obtain ⟨a, h4, h5⟩ := lg_at h2
    exact ⟨a, h4, by rw [h5, h3]⟩
  · have h4 := hall _ (exps_in (u := u) (k := u.length) hq (by omega))
    have h5 : mlen u a q * M.2 ≤ lg u q * M.2 := Nat.mul_le_mul_right _ (mlen_lg ha)
    exact Nat.le_trans h5 h4
/-- The greatest exponent in lowest terms. -/
def gN (u : List Int) : Nat := if u.length ≤ 128 then (mxE (exps u u.length)).1 / Nat.gcd (mxE (exps u u.length)).1 (mxE (exps u u.length)).2 else 0
def gD (u : List Int) : Nat := if u.length ≤ 128 then (mxE (exps u u.length)).2 / Nat.gcd (mxE (exps u u.length)).1 (mxE (exps u u.length)).2 else 0
theorem g_great {u : List Int} {n p : Nat} (hl : u.length ≤ 128) (h : Great u n p) : n / Nat.gcd n p = gN u ∧ p / Nat.gcd n p = gD u := by
  have h0 : 0 < u.length := by
    obtain ⟨h1, ⟨a, h2, _⟩, _⟩ := h
    omega
  have k := mxE_great h0
  have := low_eq h.1 k.1 (great_cross h k)
  unfold gN gD
  rw [if_pos hl, if_pos hl]
  exact this
theorem g_out {u : List Int} (h : ¬ u.length ≤ 128) : gN u = 0 ∧ gD u = 0 := by simp [gN, gD, h]
theorem g_nil {u : List Int} (h : u.length = 0) : gN u = 0 ∧ gD u = 0 := by
  rw [List.eq_nil_of_length_eq_zero h]
  exact ⟨rfl, rfl⟩
/-- The scan of the model: the greatest exponent of the places before a, and at a of the periods up to k; (0, 0) if there is none. -/
def Best (u : List Int) (a k n p : Nat) : Prop := (p = 0 → n = 0 ∧ a = 0 ∧ k = 0) ∧ (0 < p → (∃ b, b + p ≤ u.length ∧ n = mlen u b p) ∧ ∀ b q, 0 < q → b + q ≤ u.length → (b < a ∨ b = a ∧ q ≤ k) → mlen u b q * p ≤ n * q)
theorem best_start (u : List Int) : Best u 0 0 0 0 := ⟨fun _ => ⟨rfl, rfl, rfl⟩, fun h => absurd h (Nat.lt_irrefl _)⟩
theorem best_take {u : List Int} {a k n p : Nat} (h : Best u a k n p) (hk : a + (k + 1) ≤ u.length) (hc : p = 0 ∨ mlen u a (k + 1) * p > n * (k + 1)) : Best u a (k + 1) (mlen u a (k + 1)) (k + 1) := by
  refine ⟨fun e => by omega, fun _ => ⟨⟨a, hk, rfl⟩, fun b q hq hb hle => ?_⟩⟩
  by_cases e : b = a ∧ q = k + 1
  · rw [e.1, e.2]; exact Nat.le_refl _
  · rcases hc with hc | hc
    · have := h.1 hc
      omega
    · have hp : 0 < p := Nat.pos_of_ne_zero fun e => by rw [e] at hc; omega
      have h1 := (h.2 hp).2 b q hq hb (by omega)
      refine Nat.le_of_mul_le_mul_right (c := p) ?_ hp
      calc mlen u b q * (k + 1) * p = (mlen u b q * p) * (k + 1) := by simp [Nat.mul_comm, Nat.mul_left_comm, Nat.mul_assoc]
        _ ≤ (n * q) * (k + 1) := Nat.mul_le_mul_right _ h1
        _ = (n * (k + 1)) * q := by simp [Nat.mul_comm, Nat.mul_left_comm, Nat.mul_assoc]
        _ ≤ (mlen u a (k + 1) * p) * q := Nat.mul_le_mul_right _ (Nat.le_of_lt hc)
        _ = mlen u a (k + 1) * q * p := by simp [Nat.mul_comm, Nat.mul_left_comm, Nat.mul_assoc]
theorem best_keep {u : List Int} {a k n p : Nat} (h : Best u a k n p) (hp : 0 < p) (hc : mlen u a (k + 1) * p ≤ n * (k + 1)) : Best u a (k + 1) n p := by
  refine ⟨fun e => by omega, fun _ => ⟨(h.2 hp).1, fun b q hq hb hle => ?_⟩⟩
  by_cases e : b = a ∧ q = k + 1
  · rw [e.1, e.2]; exact hc
  · exact (h.2 hp).2 b q hq hb (by omega)
theorem best_next {u : List Int} {a k n p : Nat} (h : Best u a k n p) (ha : a < u.length) (hk : a + k = u.length) : Best u (a + 1) 0 n p := by
  have hp : 0 < p := Nat.pos_of_ne_zero fun e => by have := h.1 e; omega
  exact ⟨fun e => by omega, fun _ => ⟨(h.2 hp).1, fun b q hq hb hle => (h.2 hp).2 b q hq hb (by omega)⟩⟩
theorem best_end {u : List Int} {n p : Nat} (h : Best u u.length 0 n p) (h0 : 0 < u.length) : Great u n p := by
  have hp : 0 < p := Nat.pos_of_ne_zero fun e => by have := h.1 e; omega
  exact ⟨hp, (h.2 hp).1, fun b q hq hb => (h.2 hp).2 b q hq hb (by omega)⟩
theorem best_size {u : List Int} {a k n p : Nat} (h : Best u a k n p) : n ≤ u.length ∧ p ≤ u.length := by
  by_cases e : p = 0
  · have := h.1 e; omega
  · obtain ⟨⟨b, h1, h2⟩, _⟩ := h.2 (by omega)
    have := mlen_le h1
    omega
/-- A square: its place and its period. -/
abbrev Sqr := Nat × Nat
def sqAt (u : List Int) (a p : Nat) : Bool := decide ((u.drop a).take p = (u.drop (a + p)).take p)
theorem sq_iff {u : List Int} {a p : Nat} (h : a + 2 * p ≤ u.length) : sqAt u a p = true ↔ 2 * p ≤ mlen u a p := by
  rw [mlen_iff (by omega)]
  unfold sqAt
  rw [decide_eq_true_eq]
  constructor
  · intro e
    refine ⟨h, fun j h1 h2 => ?_⟩
    have := congrArg (fun l => l[j - p]?) e
    simp only [List.getElem?_take, List.getElem?_drop] at this
    rw [if_pos (by omega), if_pos (by omega), show a + p + (j - p) = a + j from by omega] at this
    rw [← this]
    congr 1
    omega
  · intro e
    refine List.ext_getElem? fun i => ?_
    simp only [List.getElem?_take, List.getElem?_drop]
    by_cases hi : i < p
    · rw [if_pos hi, if_pos hi]
      have := e.2 (p + i) (by omega) (by omega)
      rw [show a + p + i = a + (p + i) from by omega, this]
      congr 1
      omega
    · rw [if_neg hi, if_neg hi]
/-- The squares at a place with periods up to k; at the places before k. -/
def sqI (u : List Int) (a : Nat) : Nat → List Sqr
  | 0 => []
  | k + 1 => sqI u a k ++ if sqAt u a (k + 1) then [(a, k + 1)] else []
def sqU (u : List Int) : Nat → List Sqr
  | 0 => []
  | a + 1 => sqU u a ++ sqI u a ((u.length - a) / 2)
def sqV (u : List Int) : List Sqr := if u.length ≤ 64 then sqU u u.length else []
theorem sqI_yes {u : List Int} {a k : Nat} (h : sqAt u a (k + 1) = true) : sqI u a (k + 1) = sqI u a k ++ [(a, k + 1)] := by simp [sqI, h]
theorem sqI_no {u : List Int} {a k : Nat} (h : sqAt u a (k + 1) = false) : sqI u a (k + 1) = sqI u a k := by simp [sqI, h]
theorem sqI_len (u : List Int) (a : Nat) : ∀ k, (sqI u a k).length ≤ k := fun k => by
  induction k with
  | zero => exact Nat.le_refl _
  | succ k ih =>
    cases h : sqAt u a (k + 1) with
    | true => rw [sqI_yes h]; simp; omega
    | false => rw [sqI_no h]; omega
theorem sqU_len (u : List Int) : ∀ a, (sqU u a).length ≤ a * u.length := fun a => by
  induction a with
  | zero => exact Nat.zero_le _
  | succ a ih =>
    show (sqU u a ++ sqI u a ((u.length - a) / 2)).length ≤ _
    have := sqI_len u a ((u.length - a) / 2)
    rw [List.length_append, Nat.succ_mul]
    omega
theorem sqV_len (u : List Int) : (sqV u).length ≤ 4096 := by
  unfold sqV
  split
  · have h1 := sqU_len u u.length
    have h2 : u.length * u.length ≤ 64 * 64 := Nat.mul_le_mul (by assumption) (by assumption)
    omega
  · exact Nat.zero_le _
theorem sqI_mem {u : List Int} {a : Nat} {s : Sqr} : ∀ {k}, s ∈ sqI u a k ↔ s.1 = a ∧ 0 < s.2 ∧ s.2 ≤ k ∧ sqAt u s.1 s.2 = true := fun {k} => by
  induction k with
  | zero =>
    constructor
    · intro h; cases h
    · rintro ⟨_, h1, h2, _⟩; omega
  | succ k ih =>
    cases h : sqAt u a (k + 1) with
    | true =>
      rw [sqI_yes h, List.mem_append, ih, List.mem_singleton]
      constructor
      · rintro (⟨h1, h2, h3, h4⟩ | rfl)
        · exact ⟨h1, h2, by omega, h4⟩
        · exact ⟨rfl, Nat.succ_pos _, Nat.le_refl _, h⟩
      · rintro ⟨h1, h2, h3, h4⟩
        by_cases e : s.2 = k + 1
        · exact .inr (Prod.ext h1 e)
        · exact .inl ⟨h1, h2, by omega, h4⟩
    | false =>
      rw [sqI_no h, ih]
      constructor
      · rintro ⟨h1, h2, h3, h4⟩
        exact ⟨h1, h2, by omega, h4⟩
      · rintro ⟨h1, h2, h3, h4⟩
        refine ⟨h1, h2, ?_, h4⟩
        by_cases e : s.2 = k + 1
        · rw [h1, e, h] at h4; cases h4
        · omega
theorem sqU_mem {u : List Int} {s : Sqr} : ∀ {a}, a ≤ u.length → (s ∈ sqU u a ↔ s.1 < a ∧ 0 < s.2 ∧ s.1 + 2 * s.2 ≤ u.length ∧ sqAt u s.1 s.2 = true) := fun {a} => by
  induction a with
  | zero =>
    intro _
    constructor
    · intro h; cases h
    · rintro ⟨h1, _⟩; omega
  | succ a ih =>
    intro ha
    show s ∈ sqU u a ++ sqI u a ((u.length - a) / 2) ↔ _
    rw [List.mem_append, ih (by omega), sqI_mem]
    constructor
    · rintro (⟨h1, h2, h3, h4⟩ | ⟨h1, h2, h3, h4⟩)
      · exact ⟨by omega, h2, h3, h4⟩
      · exact ⟨by omega, h2, by omega, h4⟩
    · rintro ⟨h1, h2, h3, h4⟩
      by_cases e : s.1 = a
      · exact .inr ⟨e, h2, by omega, h4⟩
      · exact .inl ⟨by omega, h2, h3, h4⟩
theorem sqV_mem {u : List Int} {s : Sqr} (h : u.length ≤ 64) : s ∈ sqV u ↔ 0 < s.2 ∧ s.1 + 2 * s.2 ≤ u.length ∧ sqAt u s.1 s.2 = true := by
  unfold sqV
  rw [if_pos h, sqU_mem (Nat.le_refl _)]
  exact ⟨fun h => h.2, fun h => ⟨by omega, h⟩⟩
theorem sqV_fit {u : List Int} {s : Sqr} (h : s ∈ sqV u) : 0 < s.2 ∧ s.1 + 2 * s.2 ≤ u.length ∧ u.length ≤ 64 := by
  by_cases hl : u.length ≤ 64
  · have := (sqV_mem hl).1 h
    exact ⟨this.1, this.2.1, hl⟩
  · simp [sqV, hl] at h
theorem sqV_out {u : List Int} (h : ¬ u.length ≤ 64) : sqV u = [] := by simp [sqV, h]
theorem sqV_in {u : List Int} (h : u.length ≤ 64) : sqV u = sqU u u.length := by simp [sqV, h]
/-- The first of the squares with the least period. -/
def mnF (e : Sqr) : List Sqr → Sqr
  | [] => e
  | f :: l => mnF (if f.2 < e.2 then f else e) l
def mnE : List Sqr → Sqr
  | [] => (0, 0)
  | e :: l => mnF e l
theorem mnF_snoc : ∀ (l : List Sqr) (e f : Sqr), mnF e (l ++ [f]) = if f.2 < (mnF e l).2 then f else mnF e l
  | [], e, f => rfl
  | g :: l, e, f => by
    show mnF _ (l ++ [f]) = _
    rw [mnF_snoc l]
    rfl
theorem mnE_snoc {l : List Sqr} {f : Sqr} (h : l ≠ []) : mnE (l ++ [f]) = if f.2 < (mnE l).2 then f else mnE l := by
  cases l with
  | nil => exact absurd rfl h
  | cons e l => exact mnF_snoc l e f
/-- The parts of the squares. -/
def sqW (u : List Int) (l : List Sqr) : List (List Int) := l.map fun s => (u.drop s.1).take (2 * s.2)
/-- How many different ones there are. -/
def dsq (u : List Int) : Nat := (sdl (sqW u (sqV u))).length
theorem dsq_le (u : List Int) : dsq u ≤ 4096 := by
  have h1 := sdl_len (sqW u (sqV u))
  have h2 := sqV_len u
  unfold dsq
  rw [sqW, List.length_map] at h1
  unfold sqW
  omega
/-- Euclid's algorithm. -/
theorem gcd_step {a b : Nat} : Nat.gcd b (a % b) = Nat.gcd a b := by
  rw [Nat.gcd_comm a b, Nat.gcd_rec b a, Nat.gcd_comm]
end Go.Proofs.YtidfgfgokcflfaaGreat.Plain
