/- Several texts of this proof, one behind the other: each says ahead of it what it shows and under which conditions. -/
import Derived.WalkKit
import Derived.Lib.Hide
import Derived.Test.YtfpdikohlafpiaaGreatSeqVal
import Derived.Test.YtfpdikohlafpiaaGreatCommon
import Derived.Test.YtfpdikohlafpiaaGreatSeqSz
import Derived.Outline
import Derived.OneCell
import Derived.Shelf.Abstract
import Derived.Test.YtfpdikohlafpiaaGreatMor
import Derived.Test.YtfpdikohlafpiaaGreatLists2
import Derived.Test.YtfpdikohlafpiaaGreatSeqs3
import Derived.StillTailTactics
import Derived.Deep.DeepCutAuto
import Derived.Test.YtfpdikohlafpiaaGreatCells3
import Derived.Test.YtfpdikohlafpiaaGreatRowsIn
import Derived.Deep.RegionHeld3
import Derived.Test.YtfpdikohlafpiaaGreatDigits
import Derived.BigQuiet
import Derived.Test.YtfpdikohlafpiaaGreatDigits2
import Derived.Test.YtfpdikohlafpiaaGreatSeqEq
/- Plain facts on lists without repetition: how many elements they can have, an element put behind a list that lacks it, the different elements of a list and their numbers. No conditions beyond those that each fact states. -/
namespace Go.Proofs.YtfpdikohlafpiaaGreat.Plain
set_option linter.unusedVariables false
/-! ### lists without repetition -/
theorem nodup_sub_len {α : Type} [DecidableEq α] : ∀ (l m : List α), l.Nodup → (∀ x ∈ l, x ∈ m) → l.length ≤ m.length
  | [], _, _, _ => Nat.zero_le _
  | a :: l, m, hn, hs => by
    have ha : a ∈ m := hs a (by simp)
    rw [List.nodup_cons] at hn
    have h1 := nodup_sub_len l (m.erase a) hn.2 (fun x hx => (List.mem_erase_of_ne (fun e => hn.1 (by rw [← e]; exact hx))).2 (hs x (by simp [hx])))
    rw [List.length_erase_of_mem ha] at h1
    have : 0 < m.length := List.length_pos_of_mem ha
    simp
    omega
theorem nodup_of_sub_len {α : Type} [DecidableEq α] : ∀ (l m : List α), l.Nodup → (∀ x ∈ l, x ∈ m) → m.length ≤ l.length → m.Nodup
  | [], m, _, _, hl => by
    have : m = [] := List.eq_nil_of_length_eq_zero (by simpa using hl)
    subst this
    exact List.nodup_nil
  | a :: l, m, hn, hs, hl => by
    have ha : a ∈ m := hs a (by simp)
    have hn' := hn
    rw [List.nodup_cons] at hn
    have hs' : ∀ x ∈ l, x ∈ m.erase a := fun x hx => (List.mem_erase_of_ne (fun e => hn.1 (by rw [← e]; exact hx))).2 (hs x (by simp [hx]))
    have hle : (m.erase a).length = m.length - 1 := List.length_erase_of_mem ha
    have h0 : 0 < m.length := List.length_pos_of_mem ha
    have hl' : m.length ≤ l.length + 1 := by simpa using hl
    have h1 := nodup_of_sub_len l (m.erase a) hn.2 hs' (by omega)
    have hna : a ∉ m.erase a := fun h2 => by
      have h3 := nodup_sub_len (a :: l) (m.erase a) hn' (fun x hx => by
        rcases List.mem_cons.1 hx with rfl | hx
        · exact h2
        · exact hs' x hx)
      simp at h3
      omega
    exact (List.perm_cons_erase ha).nodup_iff.2 (List.nodup_cons.2 ⟨hna, h1⟩)
theorem nodup_bounded (l : List Int) (N : Nat) (hn : l.Nodup) (hb : ∀ x ∈ l, 0 ≤ x ∧ x < N) : l.length ≤ N := by
  have h := nodup_sub_len l ((List.range N).map (fun n : Nat => (n : Int))) hn (fun x hx => by
    have := hb x hx
    exact List.mem_map.2 ⟨x.toNat, List.mem_range.2 (by omega), by omega⟩)
  simpa using h

/-! ### an element is put behind a list that lacks it -/
section
variable {α : Type} [DecidableEq α]
def addTo (l : List α) (x : α) : List α := if x ∈ l then l else l ++ [x]
def addAll (l xs : List α) : List α := xs.foldl addTo l
theorem addTo_in {l : List α} {x : α} (h : x ∈ l) : addTo l x = l := if_pos h
theorem addTo_new {l : List α} {x : α} (h : x ∉ l) : addTo l x = l ++ [x] := if_neg h
theorem addTo_nodup {l : List α} (h : l.Nodup) (x : α) : (addTo l x).Nodup := by
  unfold addTo
  split
  · exact h
  · rename_i hx
    rw [List.nodup_append]
    exact ⟨h, by simp, by simp; exact fun a ha e => hx (e ▸ ha)⟩
theorem mem_addTo {l : List α} {x y : α} : y ∈ addTo l x ↔ y ∈ l ∨ y = x := by
  unfold addTo
  split
  · rename_i h
    exact ⟨.inl, fun h1 => h1.elim id (fun e => e ▸ h)⟩
  · simp
theorem addTo_prefix (l : List α) (x : α) : l <+: addTo l x := by
  unfold addTo
  split
  · exact List.prefix_refl _
  · exact List.prefix_append _ _
theorem addAll_nil (l : List α) : addAll l [] = l := rfl
theorem addAll_cons (l : List α) (x : α) (xs : List α) : addAll l (x :: xs) = addAll (addTo l x) xs := rfl
theorem addAll_snoc (l xs : List α) (x : α) : addAll l (xs ++ [x]) = addTo (addAll l xs) x := by simp [addAll]
theorem addAll_nodup : ∀ (xs : List α) (l : List α), l.Nodup → (addAll l xs).Nodup
  | [], _, h => h
  | x :: xs, l, h => addAll_nodup xs _ (addTo_nodup h x)
theorem mem_addAll : ∀ (xs l : List α) (y : α), y ∈ addAll l xs ↔ y ∈ l ∨ y ∈ xs
  | [], l, y => by simp [addAll]
  | x :: xs, l, y => by
    rw [addAll_cons, mem_addAll xs, mem_addTo, List.mem_cons]
    constructor
    · rintro ((h | h) | h)
      · exact .inl h
      · exact .inr (.inl h)
      · exact .inr (.inr h)
    · rintro (h | h | h)
      · exact .inl (.inl h)
      · exact .inl (.inr h)
      · exact .inr h
theorem addAll_prefix : ∀ (xs l : List α), l <+: addAll l xs
  | [], _ => List.prefix_refl _
  | x :: xs, l => (addTo_prefix l x).trans (addAll_prefix xs _)
theorem addAll_get {l xs : List α} {i : Nat} {s : α} (h : l[i]? = some s) : (addAll l xs)[i]? = some s := by
  obtain ⟨t, ht⟩ := addAll_prefix xs l
  have hi := (List.getElem?_eq_some_iff.1 h).1
  rw [← ht, List.getElem?_append_left hi]
  exact h
theorem addAll_of_sub : ∀ (xs l : List α), (∀ x ∈ xs, x ∈ l) → addAll l xs = l
  | [], _, _ => rfl
  | x :: xs, l, h => by
    rw [addAll_cons, addTo_in (h x (by simp))]
    exact addAll_of_sub xs l fun y hy => h y (by simp [hy])
theorem addAll_append (l xs ys : List α) : addAll l (xs ++ ys) = addAll (addAll l xs) ys := by simp [addAll]
/-- An element's first place. -/
def ix (l : List α) (x : α) : Nat := l.idxOf x
/-- The first place of an element stays while the list grows behind. -/
theorem idxOf_prefix {l m : List α} (h : l <+: m) {x : α} (hx : x ∈ l) : ix m x = ix l x := by
  obtain ⟨t, rfl⟩ := h
  rw [ix, List.idxOf_append, if_pos hx]
  rfl
theorem idxOf_lt {l : List α} {x : α} (h : x ∈ l) : ix l x < l.length := List.idxOf_lt_length_of_mem h
theorem get_idxOf {l : List α} {x : α} (h : x ∈ l) : l[ix l x]? = some x := by
  rw [List.getElem?_eq_getElem (idxOf_lt h)]
  exact congrArg some (List.getElem_idxOf (idxOf_lt h))
theorem idxOf_inj {l : List α} {x y : α} (hx : x ∈ l) (hy : y ∈ l) (h : ix l x = ix l y) : x = y := by
  have h1 := get_idxOf hx
  rw [h, get_idxOf hy] at h1
  exact (Option.some.inj h1).symm
theorem idxOf_get {l : List α} (hn : l.Nodup) {i : Nat} {x : α} (h : l[i]? = some x) : ix l x = i := by
  obtain ⟨hi, rfl⟩ := List.getElem?_eq_some_iff.1 h
  have h1 : l[i] ∈ l := List.getElem_mem _
  have h2 := get_idxOf h1
  obtain ⟨h3, h4⟩ := List.getElem?_eq_some_iff.1 h2
  have hp := List.pairwise_iff_getElem.1 hn
  rcases Nat.lt_trichotomy (ix l l[i]) i with h5 | h5 | h5
  · exact absurd h4 (hp _ _ h3 hi h5)
  · exact h5
  · exact absurd h4.symm (hp _ _ hi h3 h5)
/-- The different elements, as they first come. -/
def dist (keys : List α) : List α := addAll [] keys
theorem dist_nodup (keys : List α) : (dist keys).Nodup := addAll_nodup keys _ List.nodup_nil
theorem mem_dist {keys : List α} {x : α} : x ∈ dist keys ↔ x ∈ keys := by simp [dist, mem_addAll]
theorem dist_snoc (keys : List α) (x : α) : dist (keys ++ [x]) = addTo (dist keys) x := addAll_snoc _ _ _
theorem dist_prefix (keys ys : List α) : dist keys <+: dist (keys ++ ys) := by
  rw [dist, dist, addAll_append]
  exact addAll_prefix _ _
/-- Each key's number, by the order in which they first come. -/
def numb (keys : List α) : List Int := keys.map fun k => (ix (dist keys) k : Int)
theorem numb_len (keys : List α) : (numb keys).length = keys.length := by simp [numb]
theorem numb_get {keys : List α} {i : Nat} {k : α} (h : keys[i]? = some k) : (numb keys)[i]? = some (ix (dist keys) k : Int) := by simp [numb, h]
theorem numb_snoc (keys : List α) (k : α) : numb (keys ++ [k]) = numb keys ++ [(ix (addTo (dist keys) k) k : Int)] := by
  rw [numb, dist_snoc, List.map_append]
  congr 1
  apply List.map_congr_left
  intro x hx
  rw [idxOf_prefix (addTo_prefix _ _) (mem_dist.2 hx)]
theorem numb_new {keys : List α} {k : α} (h : k ∉ keys) : numb (keys ++ [k]) = numb keys ++ [((dist keys).length : Int)] := by
  rw [numb_snoc, addTo_new (fun h1 => h (mem_dist.1 h1)), ix, List.idxOf_append, if_neg (fun h1 => h (mem_dist.1 h1))]
  simp
theorem numb_old {keys : List α} {k : α} (h : k ∈ keys) : numb (keys ++ [k]) = numb keys ++ [(ix (dist keys) k : Int)] := by
  rw [numb_snoc, addTo_in (mem_dist.2 h)]
theorem numb_bd {keys : List α} {c : Int} (h : c ∈ numb keys) : 0 ≤ c ∧ c < (dist keys).length := by
  obtain ⟨k, hk, rfl⟩ := List.mem_map.1 h
  have := idxOf_lt (mem_dist.2 hk)
  omega
theorem numb_eq_iff {keys : List α} {i j : Nat} {k k' : α} (h : keys[i]? = some k) (h' : keys[j]? = some k') : (numb keys)[i]? = (numb keys)[j]? ↔ k = k' := by
  rw [numb_get h, numb_get h']
  constructor
  · intro e
    have e1 : ix (dist keys) k = ix (dist keys) k' := by injection e with e; omega
    exact idxOf_inj (mem_dist.2 (List.mem_of_getElem? h)) (mem_dist.2 (List.mem_of_getElem? h')) e1
  · rintro rfl; rfl
end
theorem mem_map_inj {α β : Type} {f : α → β} {l : List α} {x : α} (hf : ∀ a b, a ∈ l → f a = f b → b = x → a = b) : f x ∈ l.map f ↔ x ∈ l := by
  constructor
  · intro h
    obtain ⟨a, ha, e⟩ := List.mem_map.1 h
    exact (hf a x ha e rfl) ▸ ha
  · exact fun h => List.mem_map.2 ⟨x, h, rfl⟩
section
variable {α β : Type} [DecidableEq α] [DecidableEq β]
theorem addAll_map (f : α → β) (S : List α) (hf : ∀ a ∈ S, ∀ b ∈ S, f a = f b → a = b) : ∀ (xs l : List α), (∀ x ∈ l, x ∈ S) → (∀ x ∈ xs, x ∈ S) → addAll (l.map f) (xs.map f) = (addAll l xs).map f
  | [], _, _, _ => rfl
  | x :: xs, l, hl, hx => by
    have hxS := hx x (by simp)
    have hm : f x ∈ l.map f ↔ x ∈ l := mem_map_inj (fun a b ha e eb => by subst eb; exact hf a (hl a ha) b hxS e)
    have e1 : addTo (l.map f) (f x) = (addTo l x).map f := by
      by_cases h : x ∈ l
      · rw [addTo_in h, addTo_in (hm.2 h)]
      · rw [addTo_new h, addTo_new (fun h1 => h (hm.1 h1))]
        simp
    rw [List.map_cons, addAll_cons, e1, addAll_cons]
    exact addAll_map f S hf xs _ (fun y hy => by rcases mem_addTo.1 hy with h | rfl; exact hl y h; exact hxS) (fun y hy => hx y (by simp [hy]))
theorem dist_map (f : α → β) (keys : List α) (hf : ∀ a ∈ keys, ∀ b ∈ keys, f a = f b → a = b) : dist (keys.map f) = (dist keys).map f :=
  addAll_map f keys hf keys [] (by simp) (fun _ h => h)
theorem idxOf_map (f : α → β) : ∀ (l : List α) (x : α), (∀ a ∈ l, f a = f x → a = x) → ix (l.map f) (f x) = ix l x
  | [], _, _ => rfl
  | a :: l, x, h => by
    rw [ix, ix, List.map_cons, List.idxOf_cons, List.idxOf_cons]
    have ih := idxOf_map f l x (fun b hb => h b (by simp [hb]))
    by_cases e : a = x
    · subst e
      simp
    · have e2 : f a ≠ f x := fun e2 => e (h a (by simp) e2)
      have b1 : (f a == f x) = false := by simpa using e2
      have b2 : (a == x) = false := by simpa using e
      have ih' : List.idxOf (f x) (l.map f) = List.idxOf x l := ih
      rw [b1, b2, ih']
theorem numb_map (f : α → β) (keys : List α) (hf : ∀ a ∈ keys, ∀ b ∈ keys, f a = f b → a = b) : numb (keys.map f) = numb keys := by
  unfold numb
  rw [dist_map f keys hf, List.map_map]
  apply List.map_congr_left
  intro k hk
  show (ix ((dist keys).map f) (f k) : Int) = _
  rw [idxOf_map f _ k (fun a ha e => hf a (mem_dist.1 ha) k hk e)]
/-- Equal partitions have equal numbers. -/
theorem numb_same (keys : List α) (keys' : List β) (hl : keys.length = keys'.length) (h : ∀ (i j : Nat), i < keys.length → j < keys.length → (keys[i]? = keys[j]? ↔ keys'[i]? = keys'[j]?)) : numb keys = numb keys' := by
  cases keys' with
  | nil =>
    have : keys = [] := List.eq_nil_of_length_eq_zero (by simpa using hl)
    subst this; rfl
  | cons k0 ks0 =>
    obtain ⟨ks', hks⟩ : ∃ ks', ks' = k0 :: ks0 := ⟨_, rfl⟩
    rw [← hks] at hl h ⊢
    have e1 : ks' = keys.map (fun k => ks'.getD (ix keys k) k0) := by
      apply List.ext_getElem?
      intro i
      rw [List.getElem?_map]
      by_cases hi : i < keys.length
      · obtain ⟨k, hk⟩ : ∃ k, keys[i]? = some k := ⟨_, List.getElem?_eq_getElem hi⟩
        have hm := List.mem_of_getElem? hk
        have hj := idxOf_lt hm
        have h2 := (h (ix keys k) i hj hi).1 (by rw [get_idxOf hm, hk])
        rw [hk, Option.map_some, List.getD_eq_getElem?_getD, h2, List.getElem?_eq_getElem (by omega)]
        rfl
      · rw [List.getElem?_eq_none (by omega), List.getElem?_eq_none (by omega)]
        rfl
    have e2 : numb keys = numb (keys.map (fun k => ks'.getD (ix keys k) k0)) := (numb_map _ keys (fun a ha b hb e => by
      have ja := idxOf_lt ha
      have jb := idxOf_lt hb
      rw [List.getD_eq_getElem?_getD, List.getD_eq_getElem?_getD, List.getElem?_eq_getElem (show ix keys a < ks'.length by omega), List.getElem?_eq_getElem (show ix keys b < ks'.length by omega)] at e
      have h2 := (h (ix keys a) (ix keys b) ja jb).2 (by
        rw [List.getElem?_eq_getElem (show ix keys a < ks'.length by omega), List.getElem?_eq_getElem (show ix keys b < ks'.length by omega)]
        exact congrArg some e)
      rw [get_idxOf ha, get_idxOf hb] at h2
      exact Option.some.inj h2)).symm
    rw [← e1] at e2
    exact e2
end
end Go.Proofs.YtfpdikohlafpiaaGreat.Plain
/- Plain facts on words and morphisms as lists: which ones are valid, images, what several steps make of a letter, letters that vanish, fixed words. No conditions beyond those that each fact states. -/
namespace Go.Proofs.YtfpdikohlafpiaaGreat.Plain

/-- A word of the first n letters. -/
def IsWd (xs : List Int) (n : Int) : Prop := 1 ≤ n ∧ n ≤ 16 ∧ xs.length ≤ 400 ∧ ∀ x ∈ xs, 0 ≤ x ∧ x < n
instance (xs : List Int) (n : Int) : Decidable (IsWd xs n) := by unfold IsWd; infer_instance
def wordB (xs : List Int) (n : Int) : Bool := decide (IsWd xs n)
theorem wordB_yes {xs : List Int} {n : Int} (h : IsWd xs n) : wordB xs n = true := decide_eq_true h
theorem wordB_no {xs : List Int} {n : Int} (h : ¬ IsWd xs n) : wordB xs n = false := decide_eq_false h
theorem wordB_out {xs : List Int} {n : Int} (h : wordB xs n = true) : IsWd xs n := of_decide_eq_true h
theorem not_word_at {xs : List Int} {n : Int} {i : Nat} {x : Int} (hx : xs[i]? = some x) (h : x < 0 ∨ n ≤ x) : wordB xs n = false :=
  wordB_no fun hw => by have := hw.2.2.2 x (List.mem_of_getElem? hx); omega
theorem all_at {xs : List Int} {P : Int → Prop} (h : ∀ (i : Nat) (x : Int), xs[i]? = some x → P x) : ∀ x ∈ xs, P x := fun x hx => by
  obtain ⟨i, hi⟩ := List.getElem?_of_mem hx
  exact h i x hi
/-- A valid morphism. -/
def IsMor (m : List (List Int)) : Prop := 1 ≤ m.length ∧ m.length ≤ 16 ∧ ∀ r ∈ m, r.length ≤ 8 ∧ ∀ x ∈ r, 0 ≤ x ∧ x < (m.length : Int)
instance (m : List (List Int)) : Decidable (IsMor m) := by unfold IsMor; infer_instance
def morB (m : List (List Int)) : Bool := decide (IsMor m)
theorem morB_yes {m : List (List Int)} (h : IsMor m) : morB m = true := decide_eq_true h
theorem morB_no {m : List (List Int)} (h : ¬ IsMor m) : morB m = false := decide_eq_false h
theorem morB_out {m : List (List Int)} (h : morB m = true) : IsMor m := of_decide_eq_true h
def imgB (r : List Int) (n : Nat) : Bool := wordB r n && decide (r.length ≤ 8)
theorem not_mor_at {m : List (List Int)} {i : Nat} {r : List Int} (hr : m[i]? = some r) (h : wordB r m.length = false ∨ 8 < r.length) : morB m = false :=
  morB_no fun hm => by
    have h1 := hm.2.2 r (List.mem_of_getElem? hr)
    rcases h with h | h
    · have : wordB r m.length = true := wordB_yes ⟨by have := hm.1; omega, by have := hm.2.1; omega, by omega, h1.2⟩
      rw [this] at h; cases h
    · omega
theorem mor_of {m : List (List Int)} (h0 : 1 ≤ m.length) (h : ∀ (i : Nat) (r : List Int), m[i]? = some r → wordB r m.length = true ∧ r.length ≤ 8) : morB m = true := by
  have h16 : m.length ≤ 16 := by
    have := (wordB_out (h 0 _ (List.getElem?_eq_getElem h0)).1).2.1
    omega
  refine morB_yes ⟨h0, h16, fun r hr => ?_⟩
  obtain ⟨i, hi⟩ := List.getElem?_of_mem hr
  have := h i r hi
  exact ⟨this.2, (wordB_out this.1).2.2.2⟩
def IsUni (m : List (List Int)) (k : Int) : Prop := IsMor m ∧ ∀ r ∈ m, (r.length : Int) = k
instance (m : List (List Int)) (k : Int) : Decidable (IsUni m k) := by unfold IsUni; infer_instance
def uniB (m : List (List Int)) (k : Int) : Bool := decide (IsUni m k)
theorem uniB_at {m : List (List Int)} {k : Int} {i : Nat} {r : List Int} (hr : m[i]? = some r) (h : ¬ (r.length : Int) = k) : uniB m k = false :=
  decide_eq_false fun hu => h (hu.2 r (List.mem_of_getElem? hr))
theorem uniB_all {m : List (List Int)} {k : Int} (h : ∀ (i : Nat) (r : List Int), m[i]? = some r → (r.length : Int) = k) : uniB m k = morB m := by
  unfold uniB morB
  refine decide_eq_decide.2 ⟨fun h => h.1, fun hm => ⟨hm, fun r hr => ?_⟩⟩
  obtain ⟨i, hi⟩ := List.getElem?_of_mem hr
  exact h i r hi
theorem uniB_mor {m : List (List Int)} {k : Int} (h : morB m = false) : uniB m k = false := decide_eq_false fun hu => by
  have := morB_yes hu.1
  rw [this] at h; cases h

/-- The image of a letter, the images of all letters of a word, joined. -/
def img (m : List (List Int)) (x : Int) : List Int := m.getD x.toNat []
def appL (m : List (List Int)) (w : List Int) : List Int := w.flatMap (img m)
theorem img_at {m : List (List Int)} {n : Nat} {r : List Int} (h : m[n]? = some r) : img m n = r := by simp [img, List.getD, h]
theorem appL_nil (m : List (List Int)) : appL m [] = [] := rfl
theorem appL_append (m : List (List Int)) (u v : List Int) : appL m (u ++ v) = appL m u ++ appL m v := by simp [appL]
theorem appL_one (m : List (List Int)) (x : Int) : appL m [x] = img m x := by simp [appL]
theorem appL_cons (m : List (List Int)) (x : Int) (u : List Int) : appL m (x :: u) = img m x ++ appL m u := by simp [appL]
theorem appL_take_succ {m : List (List Int)} {w : List Int} {i : Nat} {x : Int} (h : w[i]? = some x) : appL m (w.take (i + 1)) = appL m (w.take i) ++ img m x := by
  obtain ⟨h1, h2⟩ := List.getElem?_eq_some_iff.1 h
  rw [List.take_succ_eq_append_getElem h1, appL_append, h2, appL_one]
theorem appL_take_le (m : List (List Int)) (w : List Int) (i : Nat) : (appL m (w.take i)).length ≤ (appL m w).length := by
  have : appL m w = appL m (w.take i) ++ appL m (w.drop i) := by rw [← appL_append, List.take_append_drop]
  rw [this, List.length_append]; omega
theorem IsMor.img {m : List (List Int)} (h : IsMor m) {x : Int} (h0 : 0 ≤ x) (h1 : x < m.length) : m[x.toNat]? = some (img m x) ∧ (img m x).length ≤ 8 ∧ ∀ y ∈ img m x, 0 ≤ y ∧ y < (m.length : Int) := by
  have hs : x.toNat < m.length := by omega
  have e : Plain.img m x = m[x.toNat] := by simp [Plain.img, List.getD, hs]
  have := h.2.2 m[x.toNat] (List.getElem_mem _)
  exact ⟨by rw [e]; exact List.getElem?_eq_getElem hs, by rw [e]; exact this.1, by rw [e]; exact this.2⟩
theorem IsMor.app_in {m : List (List Int)} (h : IsMor m) {w : List Int} (hw : ∀ x ∈ w, 0 ≤ x ∧ x < (m.length : Int)) : ∀ y ∈ appL m w, 0 ≤ y ∧ y < (m.length : Int) := fun y hy => by
  obtain ⟨x, hx, hyx⟩ := List.mem_flatMap.1 hy
  have := hw x hx
  exact (h.img this.1 this.2).2.2 y hyx
theorem app_len8 {m : List (List Int)} (h : IsMor m) : ∀ (w : List Int), (∀ x ∈ w, 0 ≤ x ∧ x < (m.length : Int)) → (appL m w).length ≤ 8 * w.length
  | [], _ => by simp [appL]
  | x :: w, hw => by
    have h1 := hw x (by simp)
    have h2 := (h.img h1.1 h1.2).2.1
    have h3 := app_len8 h w fun y hy => hw y (by simp [hy])
    rw [appL_cons, List.length_append, List.length_cons]
    omega
def appK (m : List (List Int)) (w : List Int) : Bool := morB m && wordB w m.length && decide ((appL m w).length ≤ 400)
def appV (m : List (List Int)) (w : List Int) : List Int := if appK m w = true then appL m w else []
theorem appK_out {m : List (List Int)} {w : List Int} (h : appK m w = true) : IsMor m ∧ IsWd w m.length ∧ (appL m w).length ≤ 400 := by
  simp only [appK, Bool.and_eq_true, decide_eq_true_eq] at h
  exact ⟨morB_out h.1.1, wordB_out h.1.2, h.2⟩
theorem appK_yes {m : List (List Int)} {w : List Int} (h : IsMor m) (hw : IsWd w m.length) (hl : (appL m w).length ≤ 400) : appK m w = true := by simp [appK, morB_yes h, wordB_yes hw, hl]
theorem appV_len (m : List (List Int)) (w : List Int) : (appV m w).length ≤ 400 := by
  unfold appV
  split
  · rename_i h
    exact (appK_out h).2.2
  · simp
theorem app_word {m : List (List Int)} {w : List Int} (h : appK m w = true) : wordB (appL m w) m.length = true := by
  obtain ⟨h1, h2, h3⟩ := appK_out h
  exact wordB_yes ⟨h2.1, h2.2.1, h3, h1.app_in h2.2.2.2⟩

/-- What k steps make of a letter, none where one of the words on the way is too long. -/
def itF (m : List (List Int)) (a : Int) : Nat → Option (List Int)
  | 0 => some [a]
  | k + 1 => match itF m a k with
    | none => none
    | some w => if appK m w = true then some (appL m w) else none
theorem itF_succ {m : List (List Int)} {a : Int} {k : Nat} {w : List Int} (h : itF m a k = some w) : itF m a (k + 1) = if appK m w = true then some (appL m w) else none := by
  show (match itF m a k with | none => none | some w => if appK m w = true then some (appL m w) else none) = _
  rw [h]
theorem itF_none {m : List (List Int)} {a : Int} {k : Nat} (h : itF m a k = none) : ∀ j : Nat, itF m a (k + j) = none
  | 0 => h
  | j + 1 => by
    show (match itF m a (k + j) with | none => none | some w => if appK m w = true then some (appL m w) else none) = _
    rw [itF_none h j]
theorem itF_word {m : List (List Int)} {a : Int} (hm : IsMor m) (ha : 0 ≤ a ∧ a < (m.length : Int)) : ∀ (k : Nat) (w : List Int), itF m a k = some w → IsWd w m.length
  | 0, w, h => by
    obtain rfl := Option.some.inj h
    refine ⟨by have := hm.1; omega, by have := hm.2.1; omega, by simp, fun x hx => ?_⟩
    obtain rfl : x = a := by simpa using hx
    exact ha
  | k + 1, w, h => by
    cases hk : itF m a k with
    | none => have := itF_none hk 1; rw [this] at h; cases h
    | some u =>
      rw [itF_succ hk] at h
      split at h
      · obtain rfl := Option.some.inj h
        rename_i h1
        exact wordB_out (app_word h1)
      · cases h
def letB (m : List (List Int)) (a : Int) : Bool := decide (0 ≤ a ∧ a < (m.length : Int))
def iterK (m : List (List Int)) (a n : Int) : Bool := morB m && letB m a && decide (0 ≤ n ∧ n ≤ 20) && (itF m a n.toNat).isSome
def iterV (m : List (List Int)) (a n : Int) : List Int := if iterK m a n = true then (itF m a n.toNat).getD [] else []
theorem iterV_len (m : List (List Int)) (a n : Int) : (iterV m a n).length ≤ 400 := by
  unfold iterV
  split
  · rename_i h
    simp only [iterK, Bool.and_eq_true, decide_eq_true_eq, letB] at h
    obtain ⟨⟨⟨h1, h2⟩, h3⟩, h4⟩ := h
    obtain ⟨w, hw⟩ := Option.isSome_iff_exists.1 h4
    rw [hw]
    exact (itF_word (morB_out h1) h2 _ w hw).2.2.1
  · simp

/-- Letters of which k steps leave nothing. -/
def van (m : List (List Int)) : Nat → Int → Bool
  | 0, _ => false
  | k + 1, x => (img m x).all (van m k)
theorem van_succ (m : List (List Int)) (k : Nat) (x : Int) : van m (k + 1) x = (img m x).all (van m k) := rfl
theorem van_mono {m : List (List Int)} : ∀ (k : Nat) (x : Int), van m k x = true → van m (k + 1) x = true
  | 0, x, h => by cases h
  | k + 1, x, h => by
    rw [van_succ, List.all_eq_true] at h ⊢
    exact fun y hy => van_mono k y (h y hy)
theorem van_le {m : List (List Int)} {k : Nat} {x : Int} (h : van m k x = true) : ∀ j : Nat, van m (k + j) x = true
  | 0 => h
  | j + 1 => van_mono _ _ (van_le h j)
theorem van_le' {m : List (List Int)} {k j : Nat} {x : Int} (h : van m k x = true) (hj : k ≤ j) : van m j x = true := by
  have := van_le h (j - k)
  rwa [show k + (j - k) = j from by omega] at this
/-- How many letters vanish in k steps. -/
def vcount (m : List (List Int)) (k : Nat) : Nat := ((List.range m.length).filter fun i : Nat => van m k i).length
theorem vcount_le (m : List (List Int)) (k : Nat) : vcount m k ≤ m.length := by
  have := List.length_filter_le (fun i : Nat => van m k i) (List.range m.length)
  simpa [vcount] using this
theorem van_still {m : List (List Int)} (hm : IsMor m) {k : Nat} (h : ∀ i : Nat, i < m.length → van m (k + 1) i = van m k i) : ∀ (j : Nat) (i : Nat), i < m.length → van m (k + j) i = van m k i
  | 0, i, hi => rfl
  | j + 1, i, hi => by
    rw [← h i hi]
    show (img m i).all (van m (k + j)) = (img m i).all (van m k)
    have him := hm.img (x := i) (by omega) (by omega)
    have : ∀ y ∈ img m i, van m (k + j) y = van m k y := fun y hy => by
      have h1 := him.2.2 y hy
      have h2 := van_still hm h j y.toNat (by omega)
      rwa [show ((y.toNat : Nat) : Int) = y from by omega] at h2
    rw [Bool.eq_iff_iff, List.all_eq_true, List.all_eq_true]
    exact ⟨fun h y hy => by rw [← this y hy]; exact h y hy, fun h y hy => by rw [this y hy]; exact h y hy⟩
theorem filter_lt {α : Type} (l : List α) (p q : α → Bool) (h : ∀ x ∈ l, p x = true → q x = true) {y : α} (hy : y ∈ l) (h1 : q y = true) (h2 : p y = false) : (l.filter p).length < (l.filter q).length := by
  induction l with
  | nil => cases hy
  | cons x l ih =>
    have hle : ∀ (l : List α), (∀ x ∈ l, p x = true → q x = true) → (l.filter p).length ≤ (l.filter q).length := fun l hl => by
      induction l with
      | nil => simp
      | cons x l ih =>
        have h3 := hl x (by simp)
        have h4 := ih fun z hz => hl z (by simp [hz])
        by_cases hp : p x = true
        · simp [hp, h3 hp, h4]
        · by_cases hq : q x = true
          · simp [hp, hq]; omega
          · simp [hp, hq, h4]
    have hl := hle l fun z hz => h z (by simp [hz])
    rcases List.mem_cons.1 hy with rfl | hy'
    · simp [h1, h2]; omega
    · have h3 := ih (fun z hz => h z (by simp [hz])) hy'
      have h4 := h x (by simp)
      by_cases hp : p x = true
      · simp [hp, h4 hp, h3]
      · by_cases hq : q x = true
        · simp [hp, hq]; omega
        · simp [hp, hq, h3]
theorem van_steps {m : List (List Int)} (hm : IsMor m) : ∀ k : Nat, k ≤ vcount m k ∨ ∃ j, j < k ∧ ∀ i : Nat, i < m.length → van m (j + 1) i = van m j i
  | 0 => .inl (Nat.zero_le _)
  | k + 1 => by
    rcases van_steps hm k with h | ⟨j, hj, h⟩
    · by_cases hs : ∀ i : Nat, i < m.length → van m (k + 1) i = van m k i
      · exact .inr ⟨k, Nat.lt_succ_self _, hs⟩
      · refine .inl ?_
        obtain ⟨i, hi⟩ : ∃ i : Nat, ¬ (i < m.length → van m (k + 1) i = van m k i) := Classical.not_forall.1 hs
        have hil : i < m.length := Classical.byContradiction fun h => hi fun h' => absurd h' h
        have hne : van m (k + 1) i ≠ van m k i := fun e => hi fun _ => e
        have h1 : van m k i = false := by
          cases hv : van m k i with
          | false => rfl
          | true => exact absurd ((van_mono k i hv).trans hv.symm) hne
        have h2 : van m (k + 1) i = true := by
          cases hv : van m (k + 1) i with
          | true => rfl
          | false => exact absurd (hv.trans h1.symm) hne
        have := filter_lt (List.range m.length) (fun i : Nat => van m k i) (fun i : Nat => van m (k + 1) i) (fun x _ hx => van_mono k x hx) (y := i) (List.mem_range.2 hil) h2 h1
        unfold vcount at h ⊢
        omega
    · exact .inr ⟨j, by omega, h⟩
/-- What vanishes at all vanishes in as many steps as there are letters. -/
theorem van_end {m : List (List Int)} (hm : IsMor m) {x : Int} (hx : 0 ≤ x ∧ x < (m.length : Int)) {j : Nat} (h : van m j x = true) : van m m.length x = true := by
  by_cases hj : j ≤ m.length
  · exact van_le' h hj
  · have e : ((x.toNat : Nat) : Int) = x := by omega
    obtain ⟨k, hk, hs⟩ : ∃ k, k < m.length + 1 ∧ ∀ i : Nat, i < m.length → van m (k + 1) i = van m k i := by
      rcases van_steps hm (m.length + 1) with h1 | h1
      · have := vcount_le m (m.length + 1); omega
      · exact h1
    have h2 := van_still hm hs (j - k) x.toNat (by omega)
    rw [show k + (j - k) = j from by omega, e] at h2
    rw [h2] at h
    exact van_le' h (by omega)
def allVan (m : List (List Int)) (k : Nat) (w : List Int) : Bool := w.all (van m k)
theorem allVan_zero (m : List (List Int)) (w : List Int) : allVan m 0 w = true ↔ w = [] := by
  unfold allVan
  cases w with
  | nil => simp
  | cons x w => simp [van]
theorem allVan_app (m : List (List Int)) (k : Nat) (w : List Int) : allVan m k (appL m w) = allVan m (k + 1) w := by
  unfold allVan appL
  rw [List.all_flatMap]
  rfl
theorem allVan_congr {m : List (List Int)} {k : Nat} {u w : List Int} (h : ∀ x, x ∈ u ↔ x ∈ w) : allVan m k u = allVan m k w := by
  unfold allVan
  rw [Bool.eq_iff_iff, List.all_eq_true, List.all_eq_true]
  exact ⟨fun h' x hx => h' x ((h x).2 hx), fun h' x hx => h' x ((h x).1 hx)⟩
theorem allVan_end {m : List (List Int)} (hm : IsMor m) {w : List Int} (hw : ∀ x ∈ w, 0 ≤ x ∧ x < (m.length : Int)) {j : Nat} (hj : m.length ≤ j) : allVan m j w = allVan m m.length w := by
  unfold allVan
  rw [Bool.eq_iff_iff, List.all_eq_true, List.all_eq_true]
  exact ⟨fun h x hx => van_end hm (hw x hx) (h x hx), fun h x hx => van_le' (h x hx) hj⟩
/-- The different letters after j steps, in the order in which they are found. -/
def rst (m : List (List Int)) (w : List Int) : Nat → List Int
  | 0 => w
  | j + 1 => dist (appL m (rst m w j))
theorem rst_in {m : List (List Int)} (hm : IsMor m) {w : List Int} (hw : ∀ x ∈ w, 0 ≤ x ∧ x < (m.length : Int)) : ∀ j : Nat, ∀ x ∈ rst m w j, 0 ≤ x ∧ x < (m.length : Int)
  | 0 => hw
  | j + 1 => fun x hx => hm.app_in (rst_in hm hw j) x (mem_dist.1 hx)
theorem rst_van (m : List (List Int)) (w : List Int) : ∀ (j k : Nat), allVan m k (rst m w j) = allVan m (k + j) w
  | 0, k => rfl
  | j + 1, k => by
    show allVan m k (dist (appL m (rst m w j))) = _
    rw [allVan_congr (u := dist (appL m (rst m w j))) (w := appL m (rst m w j)) (fun x => mem_dist), allVan_app, rst_van m w j (k + 1), show k + 1 + j = k + (j + 1) from by omega]
theorem rst_end {m : List (List Int)} (hm : IsMor m) {w : List Int} (hw : ∀ x ∈ w, 0 ≤ x ∧ x < (m.length : Int)) : decide (0 < (rst m w (m.length + 1)).length) = !allVan m m.length w := by
  rw [← allVan_end hm hw (j := m.length + 1) (by omega), show m.length + 1 = 0 + (m.length + 1) from by omega, ← rst_van m w (m.length + 1) 0, show 0 + (m.length + 1) = m.length + 1 from by omega]
  cases hr : rst m w (m.length + 1) with
  | nil => simp [allVan]
  | cons x l => simp [allVan, van]
/-- The letter a grows. -/
def growB (m : List (List Int)) (a : Int) : Bool := morB m && letB m a && decide (2 ≤ (img m a).length ∧ (img m a).getD 0 0 = a) && !allVan m m.length ((img m a).drop 1)

/-- How a fixed word is made: letter by letter the images are put behind it. -/
def fxL (m : List (List Int)) (a : Int) : Nat → List Int
  | 0 => img m a
  | i + 1 => fxL m a i ++ img m ((fxL m a i).getD (i + 1) 0)
/-- The word with a in front and y behind that, of which h takes every beginning to a longer one. -/
structure Grows (m : List (List Int)) (a : Int) : Prop where
  mor : IsMor m
  let_ : 0 ≤ a ∧ a < (m.length : Int)
  head : ∃ y, img m a = a :: y ∧ y ≠ [] ∧ ∀ j, allVan m j y = false
theorem grows_of {m : List (List Int)} {a : Int} (h : growB m a = true) : Grows m a := by
  simp only [growB, Bool.and_eq_true, decide_eq_true_eq, letB, Bool.not_eq_true'] at h
  obtain ⟨⟨⟨h1, h2⟩, h3, h4⟩, h5⟩ := h
  have hm := morB_out h1
  refine ⟨hm, h2, (img m a).drop 1, ?_, ?_, fun j => ?_⟩
  · cases hi : img m a with
    | nil => rw [hi] at h3; simp at h3
    | cons x y => rw [hi] at h4; simp at h4; simp [h4]
  · intro e
    have := congrArg List.length e
    simp at this; omega
  · cases hv : allVan m j ((img m a).drop 1) with
    | false => rfl
    | true =>
      have hw : ∀ x ∈ (img m a).drop 1, 0 ≤ x ∧ x < (m.length : Int) := fun x hx => (hm.img h2.1 h2.2).2.2 x (List.mem_of_mem_drop hx)
      have : allVan m m.length ((img m a).drop 1) = true := by
        unfold allVan at hv ⊢
        rw [List.all_eq_true] at hv ⊢
        exact fun x hx => van_end hm (hw x hx) (hv x hx)
      rw [this] at h5; cases h5
def appN (m : List (List Int)) : Nat → List Int → List Int
  | 0, w => w
  | k + 1, w => appN m k (appL m w)
theorem appN_nil_iff (m : List (List Int)) : ∀ (k : Nat) (w : List Int), appN m k w = [] ↔ allVan m k w = true
  | 0, w => (allVan_zero m w).symm
  | k + 1, w => by
    rw [← allVan_app]
    exact appN_nil_iff m k (appL m w)
theorem appN_append (m : List (List Int)) : ∀ (k : Nat) (u w : List Int), appN m k (u ++ w) = appN m k u ++ appN m k w
  | 0, u, w => rfl
  | k + 1, u, w => by show appN m k (appL m (u ++ w)) = _; rw [appL_append, appN_append m k]; rfl
theorem no_fixed {m : List (List Int)} {y : List Int} (h : ∀ j, allVan m j y = false) : ∀ (k : Nat) (x : List Int), (∃ j, x = appN m j y ++ appL m x) → k ≤ x.length := by
  intro k
  -- x = h^j(y) h(x): then h(x) = h^(j+1)(y) h(h(x)), shorter by one letter at least
  have step : ∀ (k j : Nat) (x : List Int), x = appN m j y ++ appL m x → k ≤ x.length := by
    intro k
    induction k with
    | zero => intro j x _; exact Nat.zero_le _
    | succ k ih =>
      intro j x hx
      have hne : appN m j y ≠ [] := fun e => by
        have := (appN_nil_iff m j y).1 e
        rw [h j] at this; cases this
      have hl := List.length_pos_iff.2 hne
      have hs : appN m (j + 1) y = appL m (appN m j y) := by
        have : ∀ (j : Nat) (u : List Int), appN m j (appL m u) = appL m (appN m j u) := fun j => by
          induction j with
          | zero => intro u; rfl
          | succ j ih2 => intro u; exact ih2 (appL m u)
        exact this j y
      have h2 : appL m x = appN m (j + 1) y ++ appL m (appL m x) := by
        have := congrArg (appL m) hx
        rw [appL_append, ← hs] at this
        exact this
      have h3 := ih (j + 1) (appL m x) h2
      have h4 := congrArg List.length hx
      rw [List.length_append] at h4
      omega
  rintro x ⟨j, hx⟩
  exact step k j x hx
theorem fx_len_mono (m : List (List Int)) (a : Int) (i : Nat) : (fxL m a i).length ≤ (fxL m a (i + 1)).length := by
  show _ ≤ (fxL m a i ++ _).length
  rw [List.length_append]; omega
theorem fx_prefix (m : List (List Int)) (a : Int) (i : Nat) : fxL m a i <+: fxL m a (i + 1) := ⟨_, rfl⟩
theorem Grows.fx {m : List (List Int)} {a : Int} (h : Grows m a) : ∀ i : Nat, i + 1 < (fxL m a i).length ∧ (∀ x ∈ fxL m a i, 0 ≤ x ∧ x < (m.length : Int)) ∧ fxL m a i = appL m ((fxL m a i).take (i + 1)) ∧ (fxL m a i)[0]? = some a := by
  obtain ⟨y, hy, hne, hv⟩ := h.head
  have key : ∀ i : Nat, (∀ x ∈ fxL m a i, 0 ≤ x ∧ x < (m.length : Int)) → fxL m a i = appL m ((fxL m a i).take (i + 1)) → (fxL m a i)[0]? = some a → i + 1 < (fxL m a i).length := by
    intro i _ h2 h3
    refine Classical.byContradiction fun hlt => ?_
    have hle : (fxL m a i).length ≤ i + 1 := by omega
    rw [List.take_of_length_le hle] at h2
    obtain ⟨x, hx⟩ : ∃ x, fxL m a i = a :: x := by
      cases hf : fxL m a i with
      | nil => rw [hf] at h3; cases h3
      | cons z x => rw [hf] at h3; simp at h3; exact ⟨x, by rw [h3]⟩
    rw [hx, appL_cons, hy] at h2
    have h4 : x = y ++ appL m x := by simpa using h2
    have := no_fixed hv (x.length + 1) x ⟨0, h4⟩
    omega
  intro i
  induction i with
  | zero =>
    have h1 : (∀ x ∈ fxL m a 0, 0 ≤ x ∧ x < (m.length : Int)) := (h.mor.img h.let_.1 h.let_.2).2.2
    have h3 : (fxL m a 0)[0]? = some a := by show (img m a)[0]? = _; rw [hy]; rfl
    have h2 : fxL m a 0 = appL m ((fxL m a 0).take (0 + 1)) := by
      show img m a = appL m ((img m a).take 1)
      rw [hy]
      show a :: y = appL m [a]
      rw [appL_one, hy]
    exact ⟨key 0 h1 h2 h3, h1, h2, h3⟩
  | succ i ih =>
    obtain ⟨h0, h1, h2, h3⟩ := ih
    have hx : (fxL m a i)[i + 1]? = some ((fxL m a i).getD (i + 1) 0) := by
      rw [List.getElem?_eq_getElem h0]; simp [List.getD, h0]
    have hxm := h1 _ (List.mem_of_getElem? hx)
    have g1 : ∀ x ∈ fxL m a (i + 1), 0 ≤ x ∧ x < (m.length : Int) := fun x hx' => by
      rcases List.mem_append.1 hx' with h4 | h4
      · exact h1 x h4
      · exact (h.mor.img hxm.1 hxm.2).2.2 x h4
    have g2 : fxL m a (i + 1) = appL m ((fxL m a (i + 1)).take (i + 1 + 1)) := by
      have e1 : (fxL m a (i + 1)).take (i + 1 + 1) = (fxL m a i).take (i + 1 + 1) := by
        show (fxL m a i ++ _).take _ = _
        exact List.take_append_of_le_length (by omega)
      rw [e1, appL_take_succ hx, ← h2]
      rfl
    have g3 : (fxL m a (i + 1))[0]? = some a := by
      show (fxL m a i ++ _)[0]? = _
      rw [List.getElem?_append_left (by omega)]
      exact h3
    exact ⟨key (i + 1) g1 g2 g3, g1, g2, g3⟩
theorem Grows.fx_next {m : List (List Int)} {a : Int} (h : Grows m a) (i : Nat) : ∃ (x : Nat) (r : List Int), (fxL m a i)[i + 1]? = some (x : Int) ∧ x < m.length ∧ m[x]? = some r ∧ r.length ≤ 8 ∧ fxL m a (i + 1) = fxL m a i ++ r := by
  obtain ⟨h0, h1, h2, h3⟩ := h.fx i
  have hx : (fxL m a i)[i + 1]? = some ((fxL m a i).getD (i + 1) 0) := by
    rw [List.getElem?_eq_getElem h0]; simp [List.getD, h0]
  have hxm := h1 _ (List.mem_of_getElem? hx)
  obtain ⟨h4, h5, _⟩ := h.mor.img hxm.1 hxm.2
  have e : ((((fxL m a i).getD (i + 1) 0).toNat : Nat) : Int) = (fxL m a i).getD (i + 1) 0 := by omega
  exact ⟨((fxL m a i).getD (i + 1) 0).toNat, _, by rw [e]; exact hx, by omega, h4, h5, rfl⟩
theorem Grows.fx_first {m : List (List Int)} {a : Int} (h : Grows m a) : ∃ x : Nat, (x : Int) = a ∧ x < m.length ∧ m[x]? = some (fxL m a 0) ∧ 2 ≤ (fxL m a 0).length ∧ (fxL m a 0).length ≤ 8 := by
  obtain ⟨h4, h5, _⟩ := h.mor.img h.let_.1 h.let_.2
  have := (h.fx 0).1
  exact ⟨a.toNat, by have := h.let_; omega, by have := h.let_; omega, h4, by omega, h5⟩
theorem fx_le {m : List (List Int)} {a : Int} (i : Nat) : ∀ j : Nat, fxL m a i <+: fxL m a (i + j)
  | 0 => List.prefix_rfl
  | j + 1 => (fx_le i j).trans (fx_prefix m a (i + j))
theorem fx_take {m : List (List Int)} {a : Int} {i j n : Nat} (hi : n ≤ (fxL m a i).length) (hj : n ≤ (fxL m a j).length) : (fxL m a i).take n = (fxL m a j).take n := by
  have : ∀ {i j : Nat}, i ≤ j → n ≤ (fxL m a i).length → (fxL m a i).take n = (fxL m a j).take n := fun {i j} hij h1 => by
    obtain ⟨t, ht⟩ := fx_le (m := m) (a := a) i (j - i)
    rw [show i + (j - i) = j from by omega] at ht
    rw [← ht, List.take_append_of_le_length h1]
  rcases Nat.le_total i j with h | h
  · exact this h hi
  · exact (this h hj).symm
def fixK (m : List (List Int)) (a n : Int) : Bool := growB m a && decide (0 ≤ n ∧ n ≤ 256)
def fixV (m : List (List Int)) (a n : Int) : List Int := if fixK m a n = true then (fxL m a n.toNat).take n.toNat else []
theorem fixV_len (m : List (List Int)) (a n : Int) : (fixV m a n).length ≤ 256 := by
  unfold fixV
  split
  · rename_i h
    simp only [fixK, Bool.and_eq_true, decide_eq_true_eq] at h
    rw [List.length_take]; omega
  · simp
/-- A morphism out of a sequence, a sequence out of a morphism. -/
def moR (b : Int) (rows : List (List Int)) (out : List Int) : List (List Int) := if steadyB b rows out = true then rows else []
def sqK (m : List (List Int)) (c : List Int) : Bool := morB m && steadyB ((m.getD 0 []).length : Int) m c
def sqB (m : List (List Int)) (c : List Int) : Int := if sqK m c = true then ((m.getD 0 []).length : Int) else 0
def sqR (m : List (List Int)) (c : List Int) : List (List Int) := if sqK m c = true then m else []
def sqO (m : List (List Int)) (c : List Int) : List Int := if sqK m c = true then c else []
end Go.Proofs.YtfpdikohlafpiaaGreat.Plain
/- Contracts of IsWord, of the model and of the program, and of the library's search with the program's two tests. No conditions beyond those that each states. -/
namespace Go.Proofs.YtfpdikohlafpiaaGreat
open Go.ChangeShapes Go.WideShapes Go.ChangeAt Go.RowKit
open Go.PlainAid Plain
set_option linter.unusedVariables false
namespace Mor
open Seqs
theorem spec_word (v : Value) (xs : List Int) (n : Int) (w : World) (h : Lies (Value.int .i64) w v xs) :
    Calls Tryz.prog 104 #[v, .int .i64 n] w fun e w' => e = .returned (.bool (wordB xs n)) ∧ w = w' := by
  obtain ⟨hl, a, ca, rfl, _, hc⟩ := h
  have HC := Lib.hid hc
  clear hc
  go_enter Tryz.func104, Tryz.ntmps104
  go_wp2
  go_loop [5] (fun i' => ∃ i : Nat, i ≤ xs.length ∧ i' = .int .i64 i ∧ Hid (∀ (j : Nat) (x : Int), j < i → xs[j]? = some x → 0 ≤ x ∧ x < n)) (fun i' => xs.length - (intOf i').toNat)
  case atStart => exact ⟨0, Nat.zero_le _, rfl, fun j x h => by omega⟩
  case round =>
    obtain ⟨i, hi, rfl, HI⟩ := hrel
    by_cases hlt : i < xs.length
    · obtain ⟨x, hx⟩ : ∃ x, xs[i]? = some x := ⟨_, List.getElem?_eq_getElem hlt⟩
      obtain ⟨q, r, rfl, hc2⟩ := HC.out i _ hx
      have HX := Lib.hid hx
      clear hx
      by_cases hx0 : x < 0
      · have hd := decide_eq_true hx0
        have HE := Lib.hid (not_word_at (n := n) HX.out (.inl hx0))
        go_wp2
        go_ret
        exact ⟨ret_b HE.out.symm, rfl⟩
      · have hd := decide_eq_false hx0
        by_cases hx1 : n ≤ x
        · have hd1 := decide_eq_true hx1
          have HE := Lib.hid (not_word_at (n := n) HX.out (.inr hx1))
          go_wp2
          go_ret
          exact ⟨ret_b HE.out.symm, rfl⟩
        · have hd1 := decide_eq_false hx1
          have HN : Hid (∀ (j : Nat) (x : Int), j < i + 1 → xs[j]? = some x → 0 ≤ x ∧ x < n) := fun j y hj hy => by
            by_cases e : j = i
            · subst e
              obtain rfl := Option.some.inj (HX.out.symm.trans hy)
              omega
            · exact HI.out j y (by omega) hy
          go_wp2
          go_round
          case rel => exact ⟨i + 1, by omega, by go_num, HN⟩
          case measure => simp [intOf]; omega
    · have HA : Hid (∀ x ∈ xs, 0 ≤ x ∧ x < n) := all_at fun j x hx => HI.out j x (by have := (List.getElem?_eq_some_iff.1 hx).1; omega) hx
      clear HI HC
      by_cases hn : 1 ≤ n ∧ n ≤ 16
      · obtain ⟨hn1, hn2⟩ := hn
        by_cases hlen : xs.length ≤ 400
        · have HE := Lib.hid (wordB_yes ⟨hn1, hn2, hlen, HA.out⟩)
          have hd := decide_eq_true (show (xs.length : Int) ≤ 400 by omega)
          go_wp2_with fail
          refine (l1In_yes _ _ _ _ hn1 hn2).mono ?_
          rintro e w' ⟨rfl, rfl⟩
          go_wp2
          go_ret
          exact ⟨ret_b HE.out.symm, rfl⟩
        · have HE := Lib.hid (wordB_no (xs := xs) (n := n) fun h => hlen h.2.2.1)
          have hd := decide_eq_false (show ¬ (xs.length : Int) ≤ 400 by omega)
          go_wp2_with fail
          refine (l1In_yes _ _ _ _ hn1 hn2).mono ?_
          rintro e w' ⟨rfl, rfl⟩
          go_wp2
          go_ret
          exact ⟨ret_b HE.out.symm, rfl⟩
      · have HE := Lib.hid (wordB_no (xs := xs) (n := n) fun h => hn ⟨h.1, h.2.1⟩)
        have HNO : Hid (n < 1 ∨ 16 < n) := by show _ ∨ _; omega
        clear hn
        go_wp2_with fail
        refine (l1In_no _ _ _ _ HNO.out).mono ?_
        rintro e w' ⟨rfl, rfl⟩
        go_wp2
        go_ret
        exact ⟨ret_b HE.out.symm, rfl⟩
/-- Where a test holds first, -1 where it never does. -/
def firstAt (p : Int → Bool) (xs : List Int) : Int := if xs.any p = true then (xs.findIdx p : Int) else -1
theorem first_yes {p : Int → Bool} {xs : List Int} {i : Nat} {x : Int} (hx : xs[i]? = some x) (h : p x = true) (hb : ∀ (j : Nat) (y : Int), j < i → xs[j]? = some y → p y = false) : firstAt p xs = (i : Int) := by
  obtain ⟨hi, hxi⟩ := List.getElem?_eq_some_iff.1 hx
  have : xs.any p = true := List.any_eq_true.2 ⟨x, List.mem_of_getElem? hx, h⟩
  rw [firstAt, if_pos this, (List.findIdx_eq hi).2 ⟨by rw [hxi]; exact h, fun j hj => by rw [hb j _ hj (List.getElem?_eq_getElem (by omega))]⟩]
theorem first_no {p : Int → Bool} {xs : List Int} (h : ∀ (j : Nat) (y : Int), xs[j]? = some y → p y = false) : firstAt p xs = -1 := by
  have : ¬ xs.any p = true := fun ha => by
    obtain ⟨x, hx, hp⟩ := List.any_eq_true.1 ha
    obtain ⟨j, hj⟩ := List.getElem?_of_mem hx
    rw [h j x hj] at hp; cases hp
  rw [firstAt, if_neg this]
theorem first_ge (p : Int → Bool) (xs : List Int) : decide (0 ≤ firstAt p xs) = xs.any p := by
  unfold firstAt
  split
  · rename_i h; rw [h]; simp
  · rename_i h; rw [Bool.eq_false_iff.2 h]; decide
theorem word_any {xs : List Int} {n : Int} (h1 : 1 ≤ n) (h2 : n ≤ 16) (h3 : xs.length ≤ 400) : (!xs.any fun x => (decide (x < 0) || decide (n ≤ x))) = wordB xs n := by
  unfold wordB
  rw [Bool.eq_iff_iff, Bool.not_eq_true', decide_eq_true_iff, Bool.eq_false_iff, ne_eq, List.any_eq_true]
  constructor
  · intro h
    refine ⟨h1, h2, h3, fun x hx => Classical.byContradiction fun hn => h ⟨x, hx, by simp; omega⟩⟩
  · rintro h ⟨x, hx, hd⟩
    have := h.2.2.2 x hx
    simp at hd
    omega
end Mor
end Go.Proofs.YtfpdikohlafpiaaGreat
/- Contracts of IsMorphism and IsUniform, of the model and of the program. No conditions beyond those that each states. -/
namespace Go.Proofs.YtfpdikohlafpiaaGreat
open Go.ChangeShapes Go.WideShapes Go.ChangeAt Go.RowKit
open Go.PlainAid Plain
set_option linter.unusedVariables false
namespace Mor
open Seqs
theorem rows_at {w : World} {a : Option Addr} {n c : Nat} {rows : List (List Int)} {i : Nat} {r : List Int} (h : LiesR w (.slice a n c) rows) (hr : rows[i]? = some r) : ∃ b off ua uc, a = some ⟨b, off, none⟩ ∧ w.cell? ⟨b, off + i, none⟩ = some (.slice ua r.length uc) ∧ Lies (Value.int .i64) w (.slice ua r.length uc) r := by
  obtain ⟨a', c', hv, _, hc⟩ := h.row
  injection hv with e1 e2 e3
  subst e1
  obtain ⟨b, off, u, h1, h2, h3⟩ := hc i r hr
  obtain ⟨_, ua, uc, rfl, _⟩ := id h3
  exact ⟨b, off, ua, uc, h1, h2, h3⟩
theorem rows_drewN {w : World} {v : Value} {rows : List (List Int)} (h : LiesR w v rows) (n : Nat) : LiesR (w.drewN n) v rows := h.below (below_drewN (Below.refl _ _) n)
theorem ends' {B : Nat} {w W W' : World} (h : ∀ n, Below B w (W.drewN n)) (he : (∃ n, W' = W.drewN n) ∨ (∃ n m, W' = (W.drewN n).drewN m) := by first | exact .inl ⟨_, rfl⟩ | exact .inr ⟨_, _, rfl⟩) : Below B w W' := by
  rcases he with ⟨n, rfl⟩ | ⟨n, m, rfl⟩
  · exact h n
  · rw [World.drewN_drewN]; exact h _
theorem rows_small {w : World} {v : Value} {rows : List (List Int)} (h : LiesR w v rows) : rows.length ≤ 9223372036854775807 := by
  obtain ⟨_, _, _, hl, _⟩ := h.row
  exact hl
theorem word_q {v : Value} {xs : List Int} {n : Int} {w : World} {c : Bool} (hc : wordB xs n = c) (h : Lies (Value.int .i64) w v xs) :
    Calls Tryz.prog 104 #[v, .int .i64 n] w fun e w' => e = .returned (.bool c) ∧ ∃ m, w' = w.drewN m :=
  (spec_word v xs n _ h).mono fun _ _ ⟨he, hw⟩ => ⟨by rw [he, hc], 0, hw.symm⟩
theorem mor_end (m : List (List Int)) (hm : ∀ (j : Nat) (r : List Int), m[j]? = some r → wordB r m.length = true ∧ r.length ≤ 8) : morB m = decide (1 ≤ m.length) := by
  by_cases h : 1 ≤ m.length
  · rw [mor_of h hm]; exact (decide_eq_true h).symm
  · rw [morB_no fun hh => h hh.1]; exact (decide_eq_false h).symm
set_option maxHeartbeats 1000000 in
theorem spec_mor (v : Value) (m : List (List Int)) (w : World) (h : LiesM w v m) :
    Calls Tryz.prog 95 #[v] w fun e w' => e = .returned (.bool (morB m)) ∧ Below w.heap.size w w' := by
  obtain ⟨an, cn, rfl⟩ := h.form
  have hn := h.rows
  have hl := rows_small hn
  clear h
  have hB : Below w.heap.size w (w.alloc (Obj.cells #[Value.slice an m.length cn] 73)) := (Below.refl _ _).alloc (Nat.le_refl _) _
  have hC := Cells1.new w 73 (.slice an m.length cn)
  go_enter Tryz.func95, Tryz.ntmps95
  go_wp2_with fail
  obtain ⟨W, hW⟩ : ∃ W, W = w.alloc (Obj.cells #[Value.slice an m.length cn] 73) := ⟨_, rfl⟩
  rw [← hW] at hB hC ⊢
  have HRW := Lib.hid (hn.below hB)
  have HB : Hid (∀ n, Below w.heap.size w (W.drewN n)) := fun n => below_drewN hB n
  have k0 := hC.c0
  clear hn hB hC hW
  obtain ⟨z, hz⟩ : ∃ z, z = w.heap.size := ⟨_, rfl⟩
  rw [← hz] at k0 ⊢
  have HZ := Lib.hid hz
  clear hz
  go_loopw [3] (fun i' wr => ∃ i : Nat, i ≤ m.length ∧ i' = .int .i64 i ∧ Hid (∀ (j : Nat) (r : List Int), j < i → m[j]? = some r → wordB r m.length = true ∧ r.length ≤ 8) ∧ ∃ n, wr = W.drewN n) (fun i' _ => m.length - (intOf i').toNat)
  case atStart => exact ⟨0, Nat.zero_le _, rfl, fun j r h => by omega, 0, rfl⟩
  case round =>
    obtain ⟨i, hi, rfl, HI, n, rfl⟩ := hrel
    by_cases hlt : i < m.length
    · obtain ⟨r, hr⟩ : ∃ r, m[i]? = some r := ⟨_, List.getElem?_eq_getElem hlt⟩
      obtain ⟨p, o, ua, uc, rfl, hx, hlx⟩ := rows_at HRW.out hr
      have HL := Lib.hid hlx
      have HR := Lib.hid hr
      clear hr hlx
      obtain ⟨c, hc⟩ : ∃ c, wordB r m.length = c := ⟨_, rfl⟩
      have HWC := Lib.hid hc
      clear hc
      cases c with
      | false =>
        have HE := Lib.hid (not_mor_at HR.out (.inl HWC.out))
        go_wp2
        go_quiet ((go_at_call 104; exact quiet_more (word_q HWC.out (Lies_drewN HL.out _))))
        go_wp2
        go_ret
        exact ⟨ret_b HE.out.symm, ends' HB.out⟩
      | true =>
        by_cases h8 : r.length ≤ 8
        · have hd := decide_eq_false (show ¬ (r.length : Int) > 8 by omega)
          have HN : Hid (∀ (j : Nat) (y : List Int), j < i + 1 → m[j]? = some y → wordB y m.length = true ∧ y.length ≤ 8) := fun j y hj hy => by
            by_cases e : j = i
            · subst e
              obtain rfl := Option.some.inj (HR.out.symm.trans hy)
              exact ⟨HWC.out, h8⟩
            · exact HI.out j y (by omega) hy
          go_wp2
          go_quiet ((go_at_call 104; exact quiet_more (word_q HWC.out (Lies_drewN HL.out _))))
          go_wp2
          go_roundw
          case rel => exact ⟨i + 1, by omega, by go_num, HN, _, rfl⟩
          case measure => simp [intOf]; omega
        · have hd := decide_eq_true (show (r.length : Int) > 8 by omega)
          have HE := Lib.hid (not_mor_at HR.out (.inr (by omega)))
          go_wp2
          go_quiet ((go_at_call 104; exact quiet_more (word_q HWC.out (Lies_drewN HL.out _))))
          go_wp2
          go_ret
          exact ⟨ret_b HE.out.symm, ends' HB.out⟩
    · have HA : Hid (∀ (j : Nat) (r : List Int), m[j]? = some r → wordB r m.length = true ∧ r.length ≤ 8) := fun j r hr => HI.out j r (by have := (List.getElem?_eq_some_iff.1 hr).1; omega) hr
      have HE := Lib.hid (mor_end m HA.out)
      clear HI
      by_cases h1 : 1 ≤ m.length ∧ m.length ≤ 16
      · obtain ⟨h2, h3⟩ := h1
        rw [decide_eq_true h2] at HE
        go_wp2_with fail
        refine (l1In_yes _ _ _ _ (by omega) (by omega)).mono ?_
        rintro e w' ⟨rfl, rfl⟩
        go_wp2
        go_ret
        exact ⟨ret_b HE.out.symm, ends' HB.out⟩
      · have HE2 : Hid (morB m = false) := morB_no fun hh => h1 ⟨hh.1, hh.2.1⟩
        have HNO : Hid ((m.length : Int) < 1 ∨ 16 < (m.length : Int)) := by show _ ∨ _; omega
        clear h1
        go_wp2_with fail
        refine (l1In_no _ _ _ _ HNO.out).mono ?_
        rintro e w' ⟨rfl, rfl⟩
        go_wp2
        go_ret
        exact ⟨ret_b HE2.out.symm, ends' HB.out⟩
end Mor
end Go.Proofs.YtfpdikohlafpiaaGreat
/- Contracts of ApplyMorphism and IterateMorphism, of the model and of the program. No conditions beyond those that each states. -/
namespace Go.Proofs.YtfpdikohlafpiaaGreat
open Go.ChangeShapes Go.WideShapes Go.ChangeAt Go.RowKit
open Go.PlainAid Plain
set_option linter.unusedVariables false
namespace Mor
open Seqs
theorem appK_no1 {m : List (List Int)} {w : List Int} (h : morB m = false) : appK m w = false := by simp [appK, h]
theorem appK_no2 {m : List (List Int)} {w : List Int} (h : wordB w m.length = false) : appK m w = false := by simp [appK, h]
theorem appK_no3 {m : List (List Int)} {w : List Int} (h : 400 < (appL m w).length) : appK m w = false := by simp [appK]; intros; omega
theorem appV_no {m : List (List Int)} {w : List Int} (h : appK m w = false) : appV m w = [] := by simp [appV, h]
theorem appV_yes {m : List (List Int)} {w : List Int} (h : appK m w = true) : appV m w = appL m w := by simp [appV, h]
/-- Both results of a call that says no. -/
theorem ik_no {m : List (List Int)} {w : List Int} {W : World} {e : Ending} {W' : World} (h : appK m w = false) (hg : GivesIK [] false W e W') : GivesIK (appV m w) (appK m w) W e W' := by rw [appV_no h, h]; exact hg
theorem ik_yes {m : List (List Int)} {w : List Int} {W : World} {e : Ending} {W' : World} (h : appK m w = true) (hg : GivesIK (appL m w) true W e W') : GivesIK (appV m w) (appK m w) W e W' := by rw [appV_yes h, h]; exact hg
theorem has_none (w : World) (base : Nat) : Has (Value.int .i64) 3 w base (.slice none 0 0) [] := World.ownsRow_nil _ _ _ _
theorem lies_el {w : World} {a : Option Addr} {n c : Nat} {xs : List Int} {i : Nat} {x : Int} (h : Lies (Value.int .i64) w (.slice a n c) xs) (hx : xs[i]? = some x) : ∃ b off, a = some ⟨b, off, none⟩ ∧ w.cell? ⟨b, off + i, none⟩ = some (.int .i64 x) := by
  obtain ⟨_, a', c', hv, _, hc⟩ := h
  injection hv with e1 e2 e3
  subst e1
  exact hc i x hx
/-- A letter of a word, its image. -/
theorem word_el {m : List (List Int)} {xs : List Int} {i : Nat} (hm : IsMor m) (hw : IsWd xs m.length) (hi : i < xs.length) : ∃ (xn : Nat) (r : List Int), xs[i]? = some (xn : Int) ∧ xn < m.length ∧ m[xn]? = some r ∧ r.length ≤ 8 ∧ appL m (xs.take (i + 1)) = appL m (xs.take i) ++ r := by
  obtain ⟨x, hx⟩ : ∃ x, xs[i]? = some x := ⟨_, List.getElem?_eq_getElem hi⟩
  have hxb := hw.2.2.2 x (List.mem_of_getElem? hx)
  obtain ⟨h1, h2, _⟩ := hm.img hxb.1 hxb.2
  have e : ((x.toNat : Nat) : Int) = x := by omega
  exact ⟨x.toNat, _, by rw [e]; exact hx, by omega, h1, h2, appL_take_succ hx⟩
theorem app_take_400 {m : List (List Int)} {xs : List Int} {i : Nat} (h : 400 < (appL m (xs.take i)).length) : 400 < (appL m xs).length := Nat.lt_of_lt_of_le h (appL_take_le m xs i)
end Mor
end Go.Proofs.YtfpdikohlafpiaaGreat
/- A struct or an array of one-cell values that lies in a block of its own, told as a list: what it holds, and what stays of it. No conditions beyond those that each fact states. -/
namespace Go.Proofs.YtfpdikohlafpiaaGreat.Plain
open Go.RowKit
set_option linter.unusedVariables false
/-- Block b holds these cells. -/
structure CellsN (w : World) (b : Nat) (t : TypeId) (l : List Value) : Prop where
  row : w.heap[b]? = some (.cells l.toArray t (0, 0))
section
variable {w w' : World} {b : Nat} {t : TypeId} {l : List Value}
theorem CellsN.at_ (h : CellsN w b t l) {i : Nat} {x : Value} (hi : l[i]? = some x) : w.cell? ⟨b, i, none⟩ = some x := by simp [World.cell?, h.row, hi]
theorem CellsN.f (h : CellsN w b t l) (o : Nat) : w.frozen? ⟨b, o, none⟩ = false := frozen_of_row w b o _ t h.row
theorem CellsN.lt (h : CellsN w b t l) : b < w.heap.size := by
  have h1 := h.row
  rw [Array.getElem?_eq_some_iff] at h1
  exact h1.1
theorem CellsN.new (w : World) (t : TypeId) (l : List Value) : CellsN (w.alloc (.cells l.toArray t)) w.heap.size t l := ⟨heap_alloc_new w _⟩
theorem CellsN.below (h : CellsN w b t l) (hb : Below w.heap.size w w') : CellsN w' b t l := ⟨(hb.block b h.lt).trans h.row⟩
theorem CellsN.of_below {B : Nat} (h : CellsN w b t l) (hb : Below B w w') (hB : b < B) : CellsN w' b t l := ⟨(hb.block b hB).trans h.row⟩
theorem CellsN.alloc (h : CellsN w b t l) (o : Obj) : CellsN (w.alloc o) b t l := h.below ((Below.refl _ _).alloc (Nat.le_refl _) _)
theorem CellsN.drew (h : CellsN w b t l) : CellsN w.drew b t l := ⟨h.row⟩
theorem CellsN.set (h : CellsN w b t l) (i : Nat) (v : Value) : CellsN (w.setCell ⟨b, i, none⟩ v) b t (l.set i v) := by
  have hlt := h.lt
  have h' : w.heap[b] = .cells l.toArray t (0, 0) := by simpa [Array.getElem?_eq_getElem hlt] using h.row
  refine ⟨?_⟩
  show (w.heap.modify b _)[b]? = _
  rw [Array.getElem?_eq_getElem (by simpa using hlt), Array.getElem_modify_self, h']
  simp
theorem CellsN.other (h : CellsN w b t l) {a : Addr} (ha : a.block ≠ b) (v : Value) : CellsN (w.setCell a v) b t l := by
  refine ⟨?_⟩
  rw [← h.row]
  simp [World.setCell, Array.getElem?_modify, ha]
theorem CellsN.grown {row : Option Nat} (h : CellsN w b t l) (hg : w.grownBy w' row) (hn : row ≠ some b) : CellsN w' b t l := ⟨(hg.block b h.lt (Ne.symm hn)).trans h.row⟩
end
end Go.Proofs.YtfpdikohlafpiaaGreat.Plain
/- Blocks that are known whole, apart by their types; such a block as a slice of the call's own. No conditions beyond those that each fact states. -/
namespace Go.Proofs.YtfpdikohlafpiaaGreat.Plain
open Go.RowKit
set_option linter.unusedVariables false
/-- Two blocks of different types are two. -/
theorem CellsN.ne {w : World} {b b' : Nat} {t t' : TypeId} {l l' : List Value} (h : CellsN w b t l) (h' : CellsN w b' t' l') (hne : t ≠ t') : b ≠ b' := fun e => by
  subst e
  have h1 := h.row
  rw [h'.row] at h1
  simp at h1
  exact hne h1.2.symm
theorem CellsN.ne3 {w : World} {b b' : Nat} {t t' : TypeId} {l : List Value} {x y z : Value} (h : CellsN w b t l) (h' : Cells3 w b' t' x y z) (hne : t ≠ t') : b ≠ b' := fun e => by
  subst e
  have h1 := h.row
  rw [h'.row] at h1
  simp at h1
  exact hne h1.2.symm
theorem CellsN.ne_has {w : World} {b base : Nat} {t t' : TypeId} {l : List Value} {α : Type} {enc : α → Value} {v : Value} {xs : List α} (h : CellsN w b t l) (h' : Has enc t' w base v xs) (hne : t ≠ t') : v.ownBlock ≠ some b := by
  rcases h'.2 with ⟨rfl, _⟩ | ⟨g, cap, cur, rfl, _, hg, _⟩
  · intro h; cases h
  · intro e
    have e1 : g = b := by simpa [Value.ownBlock] using e
    subst e1
    have h1 := h.row
    rw [hg] at h1
    simp at h1
    exact hne h1.2.symm
/-- A block that is known whole, as a slice of the call's own. -/
theorem CellsN.has {w : World} {g n base : Nat} {e : TypeId} {α : Type} {enc : α → Value} {xs : List α} (h : CellsN w g e (xs.map enc)) (hn : xs.length = n) (hb : base ≤ g) (hm : n ≤ 1000000) : Has enc e w base (.slice (some ⟨g, 0, none⟩) n n) xs := by
  subst hn
  refine ⟨by simp, .inr ⟨g, xs.length, (xs.map enc).toArray, rfl, hb, h.row, Nat.le_refl _, by unfold maxLen; omega, by simp, by rw [Nat.mul_one]; show (xs.map enc).take xs.length = _; rw [List.take_of_length_le (by simp)]⟩⟩
end Go.Proofs.YtfpdikohlafpiaaGreat.Plain
/- Contract of the model's IsGrowing. No conditions beyond those that each states. -/
namespace Go.Proofs.YtfpdikohlafpiaaGreat
open Go.ChangeShapes Go.WideShapes Go.ChangeAt Go.RowKit
open Go.PlainAid Plain
set_option linter.unusedVariables false
namespace Mor
open Seqs
/-- Does the list hold the number? -/
def inM (x : Int) (xs : List Int) : Bool := decide (x ∈ xs)
theorem inM_yes {x : Int} {xs : List Int} (h : x ∈ xs) : inM x xs = true := decide_eq_true h
theorem inM_no {x : Int} {xs : List Int} (h : x ∉ xs) : inM x xs = false := decide_eq_false h
theorem inM_at {x y : Int} {xs : List Int} {k : Nat} (h : xs[k]? = some y) (e : y = x) : inM x xs = true := inM_yes (e ▸ List.mem_of_getElem? h)
theorem inM_none {x : Int} {xs : List Int} (h : ∀ (j : Nat) (y : Int), xs[j]? = some y → ¬ y = x) : inM x xs = false := inM_no fun hm => by
  obtain ⟨j, hj⟩ := List.getElem?_of_mem hm
  exact h j x hj rfl
theorem spec_hasM (v : Value) (xs : List Int) (x : Int) (w : World) (h : Lies (Value.int .i64) w v xs) (c : Bool) (hc : inM x xs = c) :
    Calls Tryz.prog 96 #[v, .int .i64 x] w fun e w' => e = .returned (.bool c) ∧ w' = w := by
  obtain ⟨hl, a, ca, rfl, _, hca⟩ := h
  have HA := Lib.hid hca
  have HC := Lib.hid hc
  clear hca hc
  go_enter Tryz.func96, Tryz.ntmps96
  go_wp2
  go_loop [5] (fun i' => ∃ k : Nat, k ≤ xs.length ∧ i' = .int .i64 k ∧ Hid (∀ (j : Nat) (y : Int), j < k → xs[j]? = some y → ¬ y = x)) (fun i' => xs.length - (intOf i').toNat)
  case atStart => exact ⟨0, Nat.zero_le _, rfl, fun j y h => by omega⟩
  case round =>
    obtain ⟨k, hk, rfl, HI⟩ := hrel
    by_cases hlt : k < xs.length
    · obtain ⟨y, hy⟩ : ∃ y, xs[k]? = some y := ⟨_, List.getElem?_eq_getElem hlt⟩
      obtain ⟨p, o, rfl, hcl⟩ := HA.out k y hy
      have HY := Lib.hid hy
      clear hy
      by_cases he : y = x
      · have hd : (y == x) = true := by simpa using he
        have HE := Lib.hid (HC.out.symm.trans (inM_at HY.out he))
        clear he
        go_wp2
        go_ret
        exact ⟨ret_b HE.out.symm, rfl⟩
      · have hd : (y == x) = false := by simpa using he
        have HN : Hid (∀ (j : Nat) (z : Int), j < k + 1 → xs[j]? = some z → ¬ z = x) := fun j z hj hz => by
          by_cases e : j = k
          · subst e
            obtain rfl := Option.some.inj (HY.out.symm.trans hz)
            exact he
          · exact HI.out j z (by omega) hz
        clear he
        go_wp2
        go_round
        case rel => exact ⟨k + 1, by omega, by go_num, HN⟩
        case measure => simp [intOf]; omega
    · have HE := Lib.hid (HC.out.symm.trans (inM_none fun j y hj => HI.out j y (by have := (List.getElem?_eq_some_iff.1 hj).1; omega) hj))
      go_wp2
      go_ret
      exact ⟨ret_b HE.out.symm, rfl⟩
theorem hasM_quiet {v : Value} {xs : List Int} {x : Int} {w : World} {n : Nat} {c : Bool} (h : Lies (Value.int .i64) w v xs) (hc : inM x xs = c) :
    Calls Tryz.prog 96 #[v, .int .i64 x] (w.drewN n) fun e w' => e = .returned (.bool c) ∧ ∃ m, w' = w.drewN m :=
  (spec_hasM v xs x _ (h.below (below_drewN (Below.refl _ _) n)) c hc).mono fun _ _ ⟨he, hw⟩ => ⟨he, n, hw⟩
/-- A slice of ints that is not empty: its cells. -/
theorem intsM_at {w : World} {v : Value} {xs : List Int} (h : Lies (Value.int .i64) w v xs) (hp : 0 < xs.length) : ∃ q s c, v = .slice (some ⟨q, s, none⟩) xs.length c ∧ ∀ (k : Nat) (x : Int), xs[k]? = some x → w.cell? ⟨q, s + k, none⟩ = some (.int .i64 x) := by
  obtain ⟨_, a, c, rfl, _, hc⟩ := h
  obtain ⟨q, s, rfl, _⟩ := hc 0 _ (List.getElem?_eq_getElem hp)
  refine ⟨q, s, c, rfl, fun k x hx => ?_⟩
  obtain ⟨q', s', h1, h2⟩ := hc k x hx
  injection h1 with h1
  injection h1 with h1 h3
  subst h1; subst h3
  exact h2

theorem grow_no1 {m : List (List Int)} {a : Int} (h : morB m = false) : growB m a = false := by simp [growB, h]
theorem grow_no2 {m : List (List Int)} {a : Int} (h : a < 0 ∨ (m.length : Int) ≤ a) : growB m a = false := by
  have : letB m a = false := decide_eq_false (by omega)
  unfold growB
  rw [this]
  simp
theorem grow_no3 {m : List (List Int)} {n : Nat} {r : List Int} (hr : m[n]? = some r) (h : r.length < 2 ∨ ¬ r.getD 0 0 = (n : Int)) : growB m n = false := by
  have : decide (2 ≤ (img m n).length ∧ (img m n).getD 0 0 = (n : Int)) = false := by
    rw [img_at hr]
    exact decide_eq_false fun hh => by rcases h with h | h <;> omega
  unfold growB
  rw [this]
  simp
theorem grow_yes {m : List (List Int)} {n : Nat} {r : List Int} (hm : morB m = true) (hn : n < m.length) (hr : m[n]? = some r) (h2 : 2 ≤ r.length) (h0 : r.getD 0 0 = (n : Int)) : growB m n = !allVan m m.length (r.drop 1) := by
  have h1 : letB m n = true := decide_eq_true (by omega)
  have h3 : decide (2 ≤ (img m n).length ∧ (img m n).getD 0 0 = (n : Int)) = true := by rw [img_at hr]; exact decide_eq_true ⟨h2, h0⟩
  unfold growB
  rw [hm, h1, h3, img_at hr]
  simp
theorem lies_drop1 {w : World} {b off n c : Nat} {xs : List Int} (h : Lies (Value.int .i64) w (.slice (some ⟨b, off, none⟩) n c) xs) (h1 : 1 ≤ xs.length) (hc : xs.length ≤ c) : Lies (Value.int .i64) w (.slice (some ⟨b, off + 1, none⟩) (xs.length - 1) (c - 1)) (xs.drop 1) := by
  obtain ⟨hl, a', c', hv, _, hcell⟩ := h
  injection hv with e1 e2 e3
  subst e1
  refine ⟨by rw [List.length_drop]; omega, some ⟨b, off + 1, none⟩, c - 1, by rw [List.length_drop], (fun h => by simp at h), fun i x hx => ?_⟩
  rw [List.getElem?_drop] at hx
  obtain ⟨b', o', h3, h4⟩ := hcell _ x hx
  injection h3 with h3
  injection h3 with h3 h5
  subst h3; subst h5
  exact ⟨b, off + 1, rfl, by rw [show off + 1 + i = off + (1 + i) from by omega]; exact h4⟩
theorem cell_kept {w w' : World} {b o : Nat} {v : Value} (hb : Below w.heap.size w w') (h : w.cell? ⟨b, o, none⟩ = some v) : w'.cell? ⟨b, o, none⟩ = some v := (hb.cell (p := ⟨b, o, none⟩) (World.block_lt_of_cell? w _ h)).trans h
theorem lies_el' {w : World} {q s n c : Nat} {xs : List Int} {i : Nat} {x : Int} (h : Lies (Value.int .i64) w (.slice (some ⟨q, s, none⟩) n c) xs) (hx : xs[i]? = some x) : w.cell? ⟨q, s + i, none⟩ = some (.int .i64 x) := by
  obtain ⟨b, off, h1, h2⟩ := lies_el h hx
  injection h1 with h1
  injection h1 with h1 h3
  subst h1; subst h3
  exact h2
theorem dist_bd {m : List (List Int)} (hm : IsMor m) {u r : List Int} (hu : ∀ x ∈ u, 0 ≤ x ∧ x < (m.length : Int)) (hr : ∀ x ∈ r, 0 ≤ x ∧ x < (m.length : Int)) (k : Nat) : (addAll (dist (appL m u)) (r.take k)).length ≤ 16 := by
  have h1 := nodup_bounded (addAll (dist (appL m u)) (r.take k)) m.length (addAll_nodup _ _ (dist_nodup _)) fun x hx => by
    rcases (mem_addAll _ _ _).1 hx with h | h
    · exact hm.app_in hu x (mem_dist.1 h)
    · exact hr x (List.mem_of_mem_take h)
  have := hm.2.1
  omega
theorem dist_next {m : List (List Int)} {R : List Int} {i : Nat} {x : Int} (hx : R[i]? = some x) : dist (appL m (R.take (i + 1))) = addAll (dist (appL m (R.take i))) (img m x) := by
  rw [appL_take_succ hx]
  exact addAll_append _ _ _
theorem add_old {A r : List Int} {k : Nat} {x : Int} (hx : r[k]? = some x) (h : x ∈ addAll A (r.take k)) : addAll A (r.take (k + 1)) = addAll A (r.take k) := by
  obtain ⟨h1, h2⟩ := List.getElem?_eq_some_iff.1 hx
  rw [List.take_succ_eq_append_getElem h1, h2, addAll_snoc, addTo_in h]
theorem add_new {A r : List Int} {k : Nat} {x : Int} (hx : r[k]? = some x) (h : x ∉ addAll A (r.take k)) : addAll A (r.take (k + 1)) = addAll A (r.take k) ++ [x] := by
  obtain ⟨h1, h2⟩ := List.getElem?_eq_some_iff.1 hx
  rw [List.take_succ_eq_append_getElem h1, h2, addAll_snoc, addTo_new h]
set_option maxRecDepth 100000 in
set_option maxHeartbeats 2000000 in
theorem spec_grow (v : Value) (m : List (List Int)) (a : Int) (w : World) (h : OwnedM w v m) :
    Calls Tryz.prog 79 #[v, .int .i64 a] w fun e w' => e = .returned (.bool (growB m a)) ∧ Below w.heap.size w w' := by
  obtain ⟨i0, hi, hz0, hz1, hz2⟩ := info_parts Ints.infoI
  obtain ⟨an, cn, rfl⟩ := h.lies.form
  have HO := Lib.hid h
  have HM := Lib.hid h.lies
  have hml := rows_small h.lies.rows
  have HB : Hid (Below w.heap.size w (w.alloc (Obj.cells #[Value.slice an m.length cn] 73))) := (Below.refl _ _).alloc (Nat.le_refl _) _
  have HC := Lib.hid (Cells1.new w 73 (.slice an m.length cn))
  clear h
  go_enter Tryz.func79, Tryz.ntmps79
  go_wp2_with fail
  refine (spec_mor _ m _ (HM.out.below HB.out)).mono ?_
  rintro e W1 ⟨rfl, hb⟩
  have HB1 := Lib.hid (HB.out.trans (hb.mono HB.out.size))
  have HC1 := Lib.hid (HC.out.below hb)
  have k0 := HC1.out.c0
  clear hb HC HB
  obtain ⟨c, hc⟩ : ∃ c, morB m = c := ⟨_, rfl⟩
  rw [hc]
  have HMB := Lib.hid hc
  clear hc
  cases c with
  | false =>
    have HE := Lib.hid (grow_no1 (a := a) HMB.out)
    go_wp2
    go_ret
    exact ⟨ret_b HE.out.symm, HB1.out⟩
  | true =>
    by_cases ha0 : a < 0
    · have hd := decide_eq_true ha0
      have HE := Lib.hid (grow_no2 (m := m) (.inl ha0))
      go_wp2
      go_ret
      exact ⟨ret_b HE.out.symm, HB1.out⟩
    · have hd := decide_eq_false ha0
      by_cases ha1 : (m.length : Int) ≤ a
      · have hd1 := decide_eq_true ha1
        have HE := Lib.hid (grow_no2 (m := m) (.inr ha1))
        go_wp2
        go_ret
        exact ⟨ret_b HE.out.symm, HB1.out⟩
      · have hd1 := decide_eq_false ha1
        obtain ⟨n, rfl⟩ : ∃ n : Nat, a = n := ⟨a.toNat, by omega⟩
        have hn : n < m.length := by omega
        have hd1n := decide_eq_false (show ¬ m.length ≤ n by omega)
        obtain ⟨r, hr⟩ : ∃ r, m[n]? = some r := ⟨_, List.getElem?_eq_getElem hn⟩
        obtain ⟨p, o, ua, uc, rfl, hcr, hlr, huc⟩ := (HO.out.below HB1.out).row hr
        have HR := Lib.hid hr
        have HLR := Lib.hid hlr
        clear hr hlr
        by_cases h2 : r.length < 2
        · have hd2 := decide_eq_true (show (r.length : Int) < 2 by omega)
          have HE := Lib.hid (grow_no3 HR.out (.inl h2))
          go_wp2
          go_ret
          exact ⟨ret_b HE.out.symm, HB1.out⟩
        · have hd2 := decide_eq_false (show ¬ (r.length : Int) < 2 by omega)
          have h02 : 0 < r.length := by omega
          have huc1 : ¬ uc = 1 := by omega
          have h02i : (0 : Int) < (r.length : Int) := by omega
          obtain ⟨x, hx⟩ : ∃ x, r[0]? = some x := ⟨_, List.getElem?_eq_getElem h02⟩
          have HX0 : Hid (r.getD 0 0 = x) := by show _ = _; simp [List.getD, hx]
          obtain ⟨q, s, rfl, hcx⟩ := lies_el HLR.out hx
          rw [Nat.add_zero] at hcx
          clear hx
          by_cases he : x = (n : Int)
          · have hd3 : (x != (n : Int)) = false := by rw [he]; simp
            have HE := Lib.hid (grow_yes HMB.out hn HR.out (by omega) (HX0.out.trans he))
            clear he
            go_wp2
            have HD : Hid (Lies (Value.int .i64) W1 (.slice (some ⟨q, s + 1, none⟩) (r.length - 1) (uc - 1)) (r.drop 1)) := lies_drop1 HLR.out (by omega) huc
            have HMM := Lib.hid (morB_out HMB.out)
            have hm16 := HMM.out.2.1
            have HDI : Hid (∀ x ∈ r.drop 1, 0 ≤ x ∧ x < (m.length : Int)) := fun y hy => (HMM.out.2.2 r (List.mem_of_getElem? HR.out)).2 y (List.mem_of_mem_drop hy)
            have hDl : (r.drop 1).length = r.length - 1 := by rw [List.length_drop]
            obtain ⟨D, hDD⟩ : ∃ D, D = r.drop 1 := ⟨_, rfl⟩
            rw [← hDD] at HE HD HDI hDl
            rw [← hDl] at HD ⊢
            clear hd hd1 hd1n hd2 hd3 hcr hcx k0 h02 h02i huc1 huc h2 hDD hDl
            go_loopw [5, 6] (fun o' i' wr => ∃ (j : Nat) (vr : Value), j ≤ m.length + 1 ∧ i' = .int .i64 j ∧ vr = o' ∧ Hid (Lies (Value.int .i64) wr vr (rst m D j)) ∧ Hid (Cells1 wr w.heap.size 73 (.slice (some ⟨p, o, none⟩) m.length cn)) ∧ Hid (Below w.heap.size w wr)) (fun _ i' _ => m.length + 1 - (intOf i').toNat)
            case atStart => exact ⟨0, _, by omega, rfl, rfl, HD, HC1, HB1⟩
            case round =>
              obtain ⟨j, vr, hj, rfl, rfl, HLr, HCr, HBr⟩ := hrel
              by_cases hlt : j ≤ m.length
              · have hdj := decide_eq_true (show (j : Int) ≤ (m.length : Int) by omega)
                have k0 := HCr.out.c0
                obtain ⟨R, hR⟩ : ∃ R, R = rst m D j := ⟨_, rfl⟩
                have HRI : Hid (∀ x ∈ R, 0 ≤ x ∧ x < (m.length : Int)) := by show ∀ x ∈ R, _; rw [hR]; exact rst_in HMM.out HDI.out j
                have HRS : Hid (rst m D (j + 1) = dist (appL m R)) := by show _ = _; rw [hR]; rfl
                rw [← hR] at HLr
                clear hR
                obtain ⟨hRl, ra, rc, rfl, _, _⟩ := id HLr.out
                obtain ⟨W0, rfl⟩ : ∃ W : World, W = wr := ⟨_, rfl⟩
                have HN0 : Hid (Has (Value.int .i64) 3 (W0.alloc (Obj.cells #[] 3)) W0.heap.size (.slice (some ⟨W0.heap.size, 0, none⟩) 0 0) []) := has_lit0 rfl (Nat.le_refl _)
                have HW0 : Hid (Below W0.heap.size W0 (W0.alloc (Obj.cells #[] 3))) := (Below.refl _ _).alloc (Nat.le_refl _) _
                go_wp2
                clear k0 hdj
                generalize W0.alloc (Obj.cells #[] 3) = W4 at HN0 HW0 ⊢
                go_loopw [7, 8] (fun n' i' wr => ∃ (i : Nat) (vn : Value), i ≤ R.length ∧ i' = .int .i64 i ∧ vn = n' ∧ Hid (Has (Value.int .i64) 3 wr W0.heap.size vn (dist (appL m (R.take i)))) ∧ Hid (Below W0.heap.size W0 wr)) (fun _ i' _ => R.length - (intOf i').toNat)
                case atStart => exact ⟨0, _, Nat.zero_le _, rfl, rfl, HN0, HW0⟩
                case round =>
                  obtain ⟨i, vn, hi', rfl, rfl, HNr, HBi⟩ := hrel
                  by_cases hlt2 : i < R.length
                  · obtain ⟨y, hy⟩ : ∃ y, R[i]? = some y := ⟨_, List.getElem?_eq_getElem hlt2⟩
                    have hyb := HRI.out y (List.mem_of_getElem? hy)
                    obtain ⟨yn, rfl⟩ := Int.eq_ofNat_of_zero_le hyb.1
                    have hyn : yn < m.length := by omega
                    obtain ⟨hri, hri8, hriI⟩ := HMM.out.img hyb.1 hyb.2
                    have HDN := Lib.hid (dist_next (m := m) hy)
                    obtain ⟨ri, hrie⟩ : ∃ ri, ri = img m (yn : Int) := ⟨_, rfl⟩
                    rw [← hrie] at hri hri8 hriI HDN
                    rw [show ((yn : Int).toNat) = yn from by omega] at hri
                    obtain ⟨q2, s2, rfl, hcy⟩ := lies_el HLr.out hy
                    obtain ⟨p2, o2, ua2, uc2, hpo, hcr2, hlr2, _⟩ := (HO.out.below HBr.out).row hri
                    injection hpo with hpo
                    injection hpo with hpo1 hpo2
                    subst hpo1; subst hpo2
                    have HCY := Lib.hid hcy
                    have HCR := Lib.hid hcr2
                    have HLR2 := Lib.hid hlr2
                    have HRII := Lib.hid hriI
                    have hril : (ri.length : Int) ≤ 8 := by omega
                    clear hy hri hyb hriI hrie hcy hcr2 hlr2
                    obtain ⟨W5, rfl⟩ : ∃ W : World, W = wr := ⟨_, rfl⟩
                    go_wp2
                    go_loopw [7, 9] (fun n' k' wr => ∃ (k : Nat) (vn : Value), k ≤ ri.length ∧ k' = .int .i64 k ∧ vn = n' ∧ Hid (Has (Value.int .i64) 3 wr W0.heap.size vn (addAll (dist (appL m (R.take i))) (ri.take k))) ∧ Hid (Below W0.heap.size W0 wr)) (fun _ k' _ => ri.length - (intOf k').toNat)
                    case atStart => exact ⟨0, _, Nat.zero_le _, rfl, rfl, HNr, HBi⟩
                    case round =>
                      obtain ⟨k, vn, hk, rfl, rfl, HNk, HBk⟩ := hrel
                      have k0 := (HCr.out.below HBk.out).c0
                      have k1 := cell_kept HBk.out HCY.out
                      have k2 := cell_kept HBk.out HCR.out
                      by_cases hlk : k < ri.length
                      · obtain ⟨x2, hx2⟩ : ∃ x, ri[k]? = some x := ⟨_, List.getElem?_eq_getElem hlk⟩
                        have HX2 := Lib.hid hx2
                        obtain ⟨q3, s3, rfl, hcz⟩ := lies_el HLR2.out hx2
                        have HCZ := Lib.hid hcz
                        have k3 := cell_kept HBk.out HCZ.out
                        clear hx2 hcz
                        go_wp2
                        go_quiet (fail)
                        have hbd := below_drewN (Below.refl wr.heap.size wr) nq
                        have HN6 := Lib.hid (HNk.out.below hbd)
                        have HB6 := Lib.hid (HBk.out.trans (hbd.mono HBk.out.size))
                        clear hbd HNk HBk k0 k1 k2 k3
                        obtain ⟨W6, hW6⟩ : ∃ W, W = wr.drewN nq := ⟨_, rfl⟩
                        rw [← hW6] at HN6 HB6 ⊢
                        clear hW6
                        have k0 := (HCr.out.below HB6.out).c0
                        have k1 := cell_kept HB6.out HCY.out
                        have k2 := cell_kept HB6.out HCR.out
                        have k3 := cell_kept HB6.out HCZ.out
                        obtain ⟨AL, hAL⟩ : ∃ AL, AL = addAll (dist (appL m (R.take i))) (ri.take k) := ⟨_, rfl⟩
                        have HAL := Lib.hid hAL
                        have HA16 : Hid (AL.length ≤ 16) := by show _ ≤ _; rw [hAL]; exact dist_bd HMM.out (fun y hy => HRI.out y (List.mem_of_mem_take hy)) HRII.out k
                        rw [← hAL] at HN6
                        clear hAL
                        by_cases hin : x2 ∈ AL
                        · have HE : Hid (addAll (dist (appL m (R.take i))) (ri.take (k + 1)) = AL) := by show _ = _; rw [add_old HX2.out (by rw [← HAL.out]; exact hin), HAL.out]
                          have HI := Lib.hid (inM_yes hin)
                          clear hin
                          go_wp2
                          go_quiet ((go_at_call 96; exact hasM_quiet HN6.out.lies HI.out))
                          have hbd := below_drewN (Below.refl W6.heap.size W6) nq
                          have HN7 : Hid (Has (Value.int .i64) 3 (W6.drewN nq) W0.heap.size vn (addAll (dist (appL m (R.take i))) (ri.take (k + 1)))) := by show Has _ _ _ _ _ _; rw [HE.out]; exact HN6.out.below hbd
                          have HB7 := Lib.hid (HB6.out.trans (hbd.mono HB6.out.size))
                          clear hbd
                          go_wp2
                          go_roundw
                          case rel => exact ⟨k + 1, vn, by omega, by go_num, rfl, HN7, HB7⟩
                          case measure => simp [intOf]; omega
                        · have HE : Hid (addAll (dist (appL m (R.take i))) (ri.take (k + 1)) = AL ++ [x2]) := by show _ = _; rw [add_new HX2.out (by rw [← HAL.out]; exact hin), HAL.out]
                          have HI := Lib.hid (inM_no hin)
                          clear hin
                          go_wp2
                          go_quiet ((go_at_call 96; exact hasM_quiet HN6.out.lies HI.out))
                          have hbd := below_drewN (Below.refl W6.heap.size W6) nq
                          have HN7 := Lib.hid (HN6.out.below hbd)
                          have HB7 := Lib.hid (HB6.out.trans (hbd.mono HB6.out.size))
                          clear hbd HN6 HB6 k0 k1 k2 k3
                          go_wp2_with fail
                          obtain ⟨W7, hW7⟩ : ∃ W, W = W6.drewN nq := ⟨_, rfl⟩
                          rw [← hW7] at HN7 HB7 ⊢
                          clear hW7
                          have k0 := (HCr.out.below HB7.out).c0
                          have k1 := cell_kept HB7.out HCY.out
                          have k2 := cell_kept HB7.out HCR.out
                          have k3 := cell_kept HB7.out HCZ.out
                          have hal := HA16.out
                          have HZ7 : Hid (W0.heap.size ≤ W7.heap.size) := HB7.out.size
                          go_region_law
                            ((refine step_append_list (enc := Value.int .i64) (e := 3) rfl (.tmp 91) (.tmp 103) 24 rfl W0.heap.size i0 (.int .i64 0) 8 Tryz.underlying24 hi hz0 hz1 hz2 rfl vn AL rfl (by repeat (first | with_reducible exact HN7.out | with_reducible apply has_drew | with_reducible apply has_alloc)) (Value.slice (some ⟨_, 0, none⟩) 1 1) [x2] rfl (by repeat (first | with_reducible apply lies_drew | (with_reducible refine lies_lit1 (enc := Value.int .i64) _ rfl) | with_reducible apply lies_alloc)) (fun _ _ => rfl) (by simp only [List.length_cons, List.length_nil]; omega) (by simp only [List.length_cons, List.length_nil]; omega) (by have := HZ7.out; simp; omega) ?_; intro vo w1 ho hg; refine with_fact (T := W7.grownBy w1 vn.ownBlock) ?_ ?_; (focus (first | exact grown_alloc (grown_drew hg) | exact grown_alloc hg)); intro hg1))
                          all_goals
                            have HN8 : Hid (Has (Value.int .i64) 3 w1 W0.heap.size vo (addAll (dist (appL m (R.take i))) (ri.take (k + 1)))) := by
                              show Has _ _ _ _ _ _
                              rw [HE.out]
                              exact ho
                            have HB8 := Lib.hid (HN7.out.frame HB7.out (Nat.le_refl _) hg1)
                            clear hg hg1 ho k0 k1 k2 k3
                            go_wp2
                            go_roundw
                            case rel => exact ⟨k + 1, vo, by omega, by go_num, rfl, HN8, HB8⟩
                            case measure => simp [intOf]; omega
                      · go_wp2
                        go_quiet (fail)
                        have hbd := below_drewN (Below.refl wr.heap.size wr) nq
                        have HN6 : Hid (Has (Value.int .i64) 3 (wr.drewN nq) W0.heap.size vn (dist (appL m (R.take (i + 1))))) := by
                          show Has _ _ _ _ _ _
                          have h1 := HNk.out.below hbd
                          have hk8 : k = ri.length := by omega
                          rw [hk8, List.take_length] at h1
                          rw [HDN.out]
                          exact h1
                        have HB6 := Lib.hid (HBk.out.trans (hbd.mono HBk.out.size))
                        clear hbd HNk HBk k0 k1 k2
                        go_wp2
                        go_roundw
                        case rel =>
                          exact ⟨i + 1, vn, by omega, by go_num, rfl, HN6, HB6⟩
                        case measure => simp [intOf]; omega
                  · have HL9 : Hid (Lies (Value.int .i64) wr vn (rst m D (j + 1))) := by
                      show Lies _ _ _ _
                      have h1 := HNr.out.lies
                      rw [List.take_of_length_le (by omega)] at h1
                      rw [HRS.out]
                      exact h1
                    have HC9 := Lib.hid (HCr.out.below HBi.out)
                    have HB9 := Lib.hid (HBr.out.trans (HBi.out.mono HBr.out.size))
                    clear HNr HBi
                    go_wp2
                    go_roundw
                    case rel => exact ⟨j + 1, vn, by omega, by go_num, rfl, HL9, HC9, HB9⟩
                    case measure => simp [intOf]; omega
              · have hdj := decide_eq_false (show ¬ (j : Int) ≤ (m.length : Int) by omega)
                have k0 := HCr.out.c0
                obtain rfl : j = m.length + 1 := by omega
                have HEN : Hid (growB m n = decide (0 < (rst m D (m.length + 1)).length)) := HE.out.trans (rst_end HMM.out HDI.out).symm
                obtain ⟨hRl, ra, rc, rfl, _, _⟩ := id HLr.out
                go_wp2
                go_ret
                exact ⟨ret_b HEN.out.symm, HBr.out⟩
          · have hd3 : (x != (n : Int)) = true := by simpa using he
            have HE := Lib.hid (grow_no3 HR.out (.inr (by rw [HX0.out]; exact he)))
            clear he
            go_wp2
            go_ret
            exact ⟨ret_b HE.out.symm, HB1.out⟩
end Mor
end Go.Proofs.YtfpdikohlafpiaaGreat
/- Contract of FixedPrefix of the model. No conditions beyond those that each states. -/
namespace Go.Proofs.YtfpdikohlafpiaaGreat
open Go.ChangeShapes Go.WideShapes Go.ChangeAt Go.RowKit
open Go.PlainAid Plain
set_option linter.unusedVariables false
namespace Mor
open Seqs
theorem fixK_no1 {m : List (List Int)} {a n : Int} (h : growB m a = false) : fixK m a n = false := by simp [fixK, h]
theorem fixK_no2 {m : List (List Int)} {a n : Int} (h : n < 0 ∨ 256 < n) : fixK m a n = false := by
  have : decide (0 ≤ n ∧ n ≤ 256) = false := decide_eq_false (by omega)
  simp [fixK, this]
theorem fix_no {m : List (List Int)} {a n : Int} {W : World} {e : Ending} {W' : World} (h : fixK m a n = false) (hg : GivesIK [] false W e W') : GivesIK (fixV m a n) (fixK m a n) W e W' := by simp only [fixV, h]; exact hg
theorem fix_yes {m : List (List Int)} {a : Int} {n j : Nat} {W : World} {e : Ending} {W' : World} (h : growB m a = true) (hn : n ≤ 256) (hj : n ≤ (fxL m a j).length) (hg : GivesIK ((fxL m a j).take n) true W e W') : GivesIK (fixV m a n) (fixK m a n) W e W' := by
  have e1 : fixK m a n = true := by simp [fixK, h]; omega
  have e2 : fixV m a n = (fxL m a j).take n := by
    simp only [fixV, e1, if_true, Int.toNat_natCast]
    exact fx_take (by have := ((grows_of h).fx n).1; omega) hj
  rw [e1, e2]
  exact hg
theorem has_take {w : World} {base n k c : Nat} {a : Option Addr} {xs : List Int} (h : Has (Value.int .i64) 3 w base (.slice a n c) xs) (hk : k ≤ xs.length) : Has (Value.int .i64) 3 w base (.slice a k c) (xs.take k) := by
  have hl : (xs.take k).length = k := by rw [List.length_take]; omega
  show World.ownsRow _ _ _ _ _ _ _
  rw [hl]
  rcases h.2 with ⟨hv, hn⟩ | ⟨g, cap, cur, hv, hb, hg, hnc, hcm, hcs, ht⟩
  · injection hv with e1 e2 e3
    subst e1; subst e3
    obtain rfl : k = 0 := by omega
    exact World.ownsRow_nil _ _ _ _
  · injection hv with e1 e2 e3
    subst e1; subst e3
    refine ⟨by rw [List.length_map, hl, Nat.mul_one], .inr ⟨g, c, cur, rfl, hb, hg, by omega, hcm, hcs, ?_⟩⟩
    rw [Nat.mul_one] at ht ⊢
    rw [List.map_take, ← ht, List.take_take, Nat.min_eq_left hk]
theorem zeros_copy (ys : List Int) (n : Nat) (h : n ≤ ys.length) : (List.replicate n (0 : Int)).take 0 ++ (ys.take n ++ (List.replicate n (0 : Int)).drop (0 + n)) = ys.take n := by
  rw [List.take_zero, List.nil_append, Nat.zero_add, List.drop_of_length_le (by simp), List.append_nil]
set_option maxRecDepth 100000 in
set_option maxHeartbeats 2000000 in
theorem spec_fix (v : Value) (m : List (List Int)) (a n : Int) (w : World) (h : OwnedM w v m) :
    Calls Tryz.prog 69 #[v, .int .i64 a, .int .i64 n] w (GivesIK (fixV m a n) (fixK m a n) w) := by
  obtain ⟨i0, hi, hz0, hz1, hz2⟩ := info_parts Ints.infoI
  obtain ⟨an, cn, rfl⟩ := h.lies.form
  have HO := Lib.hid h
  have HM := Lib.hid h.lies
  have HB : Hid (Below w.heap.size w (w.alloc (Obj.cells #[Value.slice an m.length cn] 73))) := (Below.refl _ _).alloc (Nat.le_refl _) _
  have HC := Lib.hid (Cells1.new w 73 (.slice an m.length cn))
  clear h
  go_enter Tryz.func69, Tryz.ntmps69
  go_wp2_with fail
  refine (spec_grow _ m a _ (HO.out.below HB.out)).mono ?_
  rintro e W1 ⟨rfl, hb⟩
  have HB1 := Lib.hid (HB.out.trans (hb.mono HB.out.size))
  have HC1 := Lib.hid (HC.out.below hb)
  have HZ1 : Hid (w.heap.size + 1 ≤ W1.heap.size) := by have := HC1.out.lt; exact this
  have k0 := HC1.out.c0
  clear hb HC HB
  obtain ⟨c, hc⟩ : ∃ c, growB m a = c := ⟨_, rfl⟩
  rw [hc]
  have HGB := Lib.hid hc
  clear hc
  cases c with
  | false =>
    go_wp2
    go_ret2
    exact fix_no (fixK_no1 HGB.out) ⟨_, rfl, has_lit0 rfl HB1.out.size, HB1.out.alloc HB1.out.size _⟩
  | true =>
    by_cases hn : 0 ≤ n ∧ n ≤ 256
    case neg =>
      have HNO : Hid (n < 0 ∨ 256 < n) := by show _ ∨ _; omega
      clear hn
      go_wp2_with fail
      refine (l1In_no _ _ _ _ HNO.out).mono ?_
      rintro e w' ⟨rfl, rfl⟩
      go_wp2
      go_ret2
      exact fix_no (fixK_no2 HNO.out) ⟨_, rfl, has_lit0 rfl HB1.out.size, HB1.out.alloc HB1.out.size _⟩
    case pos =>
      obtain ⟨hn0, hn1⟩ := hn
      obtain ⟨N, rfl⟩ := Int.eq_ofNat_of_zero_le hn0
      have hN : N ≤ 256 := by omega
      have HGR := Lib.hid (grows_of HGB.out)
      obtain ⟨x0, hx0, hx1, hx2, hx3, hx4⟩ := HGR.out.fx_first
      obtain rfl := hx0
      go_wp2_with fail
      refine (l1In_yes _ _ _ _ hn0 hn1).mono ?_
      rintro e w' ⟨rfl, rfl⟩
      obtain ⟨p, o, ua, uc, rfl, hcr, hlr⟩ := rows_at (HM.out.rows.below HB1.out) hx2
      have hB2 : Below W1.heap.size W1 (W1.alloc (Obj.cells #[] 3)) := (Below.refl _ _).alloc (Nat.le_refl _) _
      have HO2 : Hid (Has (Value.int .i64) 3 (W1.alloc (Obj.cells #[] 3)) (w.heap.size + 1) (.slice (some ⟨W1.heap.size, 0, none⟩) 0 0) []) := has_lit0 rfl HZ1.out
      have HB2 := Lib.hid (HB1.out.trans (hB2.mono HB1.out.size))
      have HC2 := Lib.hid (HC1.out.below hB2)
      have HLR := Lib.hid (hlr.below hB2)
      have HZ2 : Hid (w.heap.size + 1 ≤ (W1.alloc (Obj.cells #[] 3)).heap.size) := Nat.le_trans HZ1.out hB2.size
      have k02 := HC2.out.c0
      have hcr2 := cell_kept hB2 hcr
      clear hx2 hlr hB2
      go_wp2_with (refine append_lies (enc := (Value.int .i64)) (e := 3) _ rfl _ _ 24 rfl (w.heap.size + 1) i0 (.int .i64 0) 8 Tryz.underlying24 hi hz0 hz1 hz2 rfl (.slice (some ⟨W1.heap.size, 0, none⟩) 0 0) [] rfl HO2.out (.slice ua _ uc) _ rfl HLR.out (fun _ => rfl) (by simp only [List.length_nil]; omega) (by simp only [List.length_nil]; omega) HZ2.out ?_; intro v' w1 ho hg; have HO3 := Lib.hid ho; have HC3 := Lib.hid (HC2.out.grown hg (fun e => by have := HO2.out.lt _ e; omega)); have HB3 := Lib.hid (HO2.out.frame HB2.out (by omega) hg); have HZ3 := Lib.hid (Nat.le_trans HZ2.out hg.size); clear hg ho)
      have HO4 : Hid (Has (Value.int .i64) 3 w1 (w.heap.size + 1) v' (fxL m (x0 : Int) 0)) := HO3.out
      clear HO3 k0 hcr k02 hcr2
      go_loopw [8, 9] (fun o' i' wr => ∃ (j : Nat) (vo : Value), i' = .int .i64 ((j : Int) + 1) ∧ vo = o' ∧ j ≤ 256 ∧ Hid (Has (Value.int .i64) 3 wr (w.heap.size + 1) vo (fxL m (x0 : Int) j)) ∧ Hid (Cells1 wr w.heap.size 73 (.slice (some ⟨p, o, none⟩) m.length cn)) ∧ Hid (Below w.heap.size w wr)) (fun _ i' _ => 300 - (intOf i').toNat)
      case atStart => exact ⟨0, v', rfl, rfl, by omega, HO4, HC3, HB3⟩
      case round =>
        obtain ⟨j, vo, rfl, rfl, hj, HOr, HCr, HBr⟩ := hrel
        have hfx := (HGR.out.fx j).1
        obtain ⟨oa, oc, rfl, hog⟩ := HOr.out.form
        obtain ⟨og, rfl⟩ := hog (by omega)
        have k0 := HCr.out.c0
        have HZr : Hid (w.heap.size + 1 ≤ wr.heap.size) := HCr.out.lt
        by_cases hlt : j + 1 < N ∧ (fxL m (x0 : Int) j).length < N
        · obtain ⟨hl1, hl2⟩ := hlt
          have hd := decide_eq_true (show (j : Int) + 1 < (N : Int) by omega)
          have hd1 := decide_eq_true (show ((fxL m (x0 : Int) j).length : Int) < (N : Int) by omega)
          have hdn := decide_eq_true hl2
          obtain ⟨xn, r, hxi, hxn, hr, hr8, hT⟩ := HGR.out.fx_next j
          have hcx : wr.cell? ⟨og, j + 1, none⟩ = some (.int .i64 xn) := by
            have h1 := lies_el' HOr.out.lies hxi
            rwa [Nat.zero_add] at h1
          obtain ⟨p2, o2, ua2, uc2, hpo, hcr2, hlr2⟩ := rows_at (HM.out.rows.below HBr.out) hr
          injection hpo with hpo
          injection hpo with hpo1 hpo2
          subst hpo1; subst hpo2
          have HT := Lib.hid hT
          have hj0 : (0 : Int) ≤ (j : Int) + 1 := by omega
          have hj1 : (j : Int) + 1 < ((fxL m (x0 : Int) j).length : Int) := by omega
          have hjt : ((j : Int) + 1).toNat = j + 1 := by omega
          have HLR2 := Lib.hid (hlr2.below (below_drew' _))
          have HO5 := Lib.hid (HOr.out.below (below_drew' _))
          have HC5 := Lib.hid (HCr.out.below (below_drew' _))
          have HB5 := Lib.hid (HBr.out.trans ((below_drew' _).mono HBr.out.size))
          have HZ5 : Hid (w.heap.size + 1 ≤ wr.drew.heap.size) := HZr.out
          clear hxi hr hT hlr2 HOr HBr HCr
          go_wp2
          go_still_tail 9, (by kernel_rfl)
          change wpList _ _ _ _ _ wr.drew
          generalize wr.drew = W2 at HLR2 HO5 HC5 HB5 HZ5 ⊢
          clear k0 hcx hcr2 HZr hd hd1 hdn hj0 hj1 hjt
          obtain ⟨L, hL⟩ : ∃ L, L = fxL m (x0 : Int) j := ⟨_, rfl⟩
          rw [← hL] at HO5 HT hl2 hfx ⊢
          clear hL
          go_wp2_with (refine append_lies (enc := (Value.int .i64)) (e := 3) _ rfl _ _ 24 rfl (w.heap.size + 1) i0 (.int .i64 0) 8 Tryz.underlying24 hi hz0 hz1 hz2 rfl (.slice (some ⟨og, 0, none⟩) L.length oc) L rfl HO5.out (.slice ua2 r.length uc2) r rfl HLR2.out (fun _ => rfl) (by omega) (by omega) HZ5.out ?_; intro v' w1 ho hg; have HO6 := Lib.hid ho; have HC6 := Lib.hid (HC5.out.grown hg (fun e => by have := HO5.out.lt _ e; omega)); have HB6 := Lib.hid (HO5.out.frame HB5.out (by omega) hg); clear hg ho)
          have HO7 : Hid (Has (Value.int .i64) 3 w1 (w.heap.size + 1) v' (fxL m (x0 : Int) (j + 1))) := by
            show Has _ _ _ _ _ _
            rw [HT.out]
            exact HO6.out
          go_roundw
          case rel => exact ⟨j + 1, v', by go_num, rfl, by omega, HO7, HC6, HB6⟩
          case measure => simp [intOf]; omega
        · have hNL : N ≤ (fxL m (x0 : Int) j).length := by omega
          have hdN := decide_eq_false (show ¬ ((fxL m (x0 : Int) j).length : Int) < (N : Int) by omega)
          have hdN2 := decide_eq_false (show ¬ (fxL m (x0 : Int) j).length < N by omega)
          have hcap : (N : Int) ≤ (oc : Int) := by have := HOr.out.cap; omega
          have hcapn : N ≤ oc := by omega
          have HF := Lib.hid (has_take HOr.out hNL)
          by_cases hl1 : j + 1 < N
          · have hd := decide_eq_true (show (j : Int) + 1 < (N : Int) by omega)
            go_wp2
            go_ret2
            exact fix_yes HGB.out hN hNL ⟨_, rfl, HF.out.mono (by omega), HBr.out⟩
          · have hd := decide_eq_false (show ¬ (j : Int) + 1 < (N : Int) by omega)
            go_wp2
            go_ret2
            exact fix_yes HGB.out hN hNL ⟨_, rfl, HF.out.mono (by omega), HBr.out⟩
end Mor
end Go.Proofs.YtfpdikohlafpiaaGreat
/- Contracts of IsSequence, of the model. No conditions beyond those that each states. -/
namespace Go.Proofs.YtfpdikohlafpiaaGreat
open Go.ChangeShapes Go.WideShapes Go.ChangeAt Go.RowKit
open Go.PlainAid Plain
set_option linter.unusedVariables false
namespace Seqs
theorem ends {B : Nat} {w W W' : World} (h : ∀ n, Below B w (W.drewN n)) (he : (∃ n, W' = W.drewN n) ∨ (∃ n m, W' = (W.drewN n).drewN m) := by first | exact .inl ⟨_, rfl⟩ | exact .inr ⟨_, _, rfl⟩) : Below B w W' := by
  rcases he with ⟨n, rfl⟩ | ⟨n, m, rfl⟩
  · exact h n
  · rw [World.drewN_drewN]; exact h _
set_option maxHeartbeats 1000000 in
theorem spec_is (v : Value) (b : Int) (rows : List (List Int)) (out : List Int) (w : World) (h : LiesS w v b rows out) :
    Calls Tryz.prog 77 #[v] w fun e w' => e = .returned (.bool (seqB b rows out)) ∧ Below w.heap.size w w' := by
  obtain ⟨vn, vo, rfl, hn, ho⟩ := h
  have hB : Below w.heap.size w (w.alloc (Obj.cells #[Value.int .i64 b, vn, vo] 69)) := (Below.refl _ _).alloc (Nat.le_refl _) _
  have hC := Cells3.new w 69 (.int .i64 b) vn vo
  go_enter Tryz.func77, Tryz.ntmps77
  go_wp2_with fail
  obtain ⟨W, hW⟩ : ∃ W, W = w.alloc (Obj.cells #[Value.int .i64 b, vn, vo] 69) := ⟨_, rfl⟩
  rw [← hW] at hB hC ⊢
  obtain ⟨a, ca, rfl, hl, hc⟩ := (hn.below hB).row
  obtain ⟨hlo, ao, co, rfl, _, hco⟩ := ho.below hB
  have HC := Lib.hid hc
  have HO := Lib.hid hco
  have HB : Hid (∀ n, Below w.heap.size w (W.drewN n)) := fun n => below_drewN hB n
  have k0 := hC.c0
  have k1 := hC.c1
  have k2 := hC.c2
  clear hc hco hB hC hW hn ho
  obtain ⟨z, hz⟩ : ∃ z, z = w.heap.size := ⟨_, rfl⟩
  rw [← hz] at k0 k1 k2 ⊢
  have HZ := Lib.hid hz
  clear hz
  go_loopw [3] (fun i' wr => ∃ i : Nat, i ≤ rows.length ∧ i' = .int .i64 i ∧ Hid (∀ (j : Nat) (r : List Int), j < i → rows[j]? = some r → (r.length : Int) = b ∧ ∀ (k : Nat) (x : Int), r[k]? = some x → 0 ≤ x ∧ x < (rows.length : Int)) ∧ ∃ n, wr = W.drewN n) (fun i' _ => rows.length - (intOf i').toNat)
  case atStart => exact ⟨0, Nat.zero_le _, rfl, fun j r h => by omega, 0, rfl⟩
  case round =>
    obtain ⟨i, hi, rfl, HI, n, rfl⟩ := hrel
    by_cases hlt : i < rows.length
    · obtain ⟨r, hr⟩ : ∃ r, rows[i]? = some r := ⟨_, List.getElem?_eq_getElem hlt⟩
      obtain ⟨p, o, u, rfl, hx, hlx⟩ := HC.out i r hr
      obtain ⟨hrl, a', ca', rfl, _, hcr⟩ := hlx
      have HX := Lib.hid hcr
      have HR := Lib.hid hr
      clear hcr hr
      by_cases hb : (r.length : Int) = b
      · have HBE := Lib.hid hb
        have hd0 : ((r.length : Int) != b) = false := by rw [hb]; simp
        clear hb
        go_wp2
        go_quiet (fail)
        go_wp2
        go_loopw [4] (fun k' wr => ∃ k : Nat, k ≤ r.length ∧ k' = .int .i64 k ∧ Hid (∀ (j : Nat) (x : Int), j < k → r[j]? = some x → 0 ≤ x ∧ x < (rows.length : Int)) ∧ ∃ n, wr = W.drewN n) (fun k' _ => r.length - (intOf k').toNat)
        case atStart => exact ⟨0, Nat.zero_le _, rfl, fun j x h => by omega, _, World.drewN_drewN _ _ _⟩
        case round =>
          obtain ⟨k, hk, rfl, HK, m, rfl⟩ := hrel
          by_cases hlk : k < r.length
          · obtain ⟨x, hrx⟩ : ∃ x, r[k]? = some x := ⟨_, List.getElem?_eq_getElem hlk⟩
            obtain ⟨q, s, rfl, hcx⟩ := HX.out k x hrx
            have HXX := Lib.hid hrx
            clear hrx
            by_cases hx0 : x < 0
            · have hd := decide_eq_true hx0
              have HE := Lib.hid (not_seq_cell (b := b) (out := out) HR.out HXX.out (.inl hx0))
              go_wp2
              go_quiet (fail)
              go_wp2
              go_ret
              exact ⟨ret_b HE.out.symm, ends HB.out⟩
            · by_cases hx1 : (rows.length : Int) ≤ x
              · have hd := decide_eq_false hx0
                have hd1 := decide_eq_true hx1
                have HE := Lib.hid (not_seq_cell (b := b) (out := out) HR.out HXX.out (.inr hx1))
                go_wp2
                go_quiet (fail)
                go_wp2
                go_ret
                exact ⟨ret_b HE.out.symm, ends HB.out⟩
              · have hd := decide_eq_false hx0
                have hd1 := decide_eq_false hx1
                have HN : Hid (∀ (j : Nat) (x : Int), j < k + 1 → r[j]? = some x → 0 ≤ x ∧ x < (rows.length : Int)) := fun j y hj hy => by
                  by_cases e : j = k
                  · subst e
                    obtain rfl := Option.some.inj (HXX.out.symm.trans hy)
                    omega
                  · exact HK.out j y (by omega) hy
                go_wp2
                go_quiet (fail)
                go_wp2
                go_roundw
                case rel => exact ⟨k + 1, by omega, by go_num, HN, _, rfl⟩
                case measure => simp [intOf]; omega
          · have HN : Hid (∀ (j : Nat) (r : List Int), j < i + 1 → rows[j]? = some r → (r.length : Int) = b ∧ ∀ (k : Nat) (x : Int), r[k]? = some x → 0 ≤ x ∧ x < (rows.length : Int)) := fun j y hj hy => by
              by_cases e : j = i
              · subst e
                obtain rfl := Option.some.inj (HR.out.symm.trans hy)
                exact ⟨HBE.out, fun k' x hx => HK.out k' x (by have := (List.getElem?_eq_some_iff.1 hx).1; omega) hx⟩
              · exact HI.out j y (by omega) hy
            go_wp2
            go_roundw
            case rel => exact ⟨i + 1, by omega, by go_num, HN, _, rfl⟩
            case measure => simp [intOf]; omega
      · have HE := Lib.hid (not_seq_row (out := out) HR.out hb)
        have hd0 : ((r.length : Int) != b) = true := by simpa using hb
        clear hb
        go_wp2
        go_quiet (fail)
        go_wp2
        go_ret
        exact ⟨ret_b HE.out.symm, ends HB.out⟩
    · have HRR : Hid (∀ (j : Nat) (r : List Int), rows[j]? = some r → (r.length : Int) = b ∧ ∀ (k : Nat) (x : Int), r[k]? = some x → 0 ≤ x ∧ x < (rows.length : Int)) := fun j r hr => HI.out j r (by have := (List.getElem?_eq_some_iff.1 hr).1; omega) hr
      clear HI HC
      go_wp2
      go_loopw [5] (fun i' wr => ∃ i : Nat, i ≤ out.length ∧ i' = .int .i64 i ∧ Hid (∀ (j : Nat) (x : Int), j < i → out[j]? = some x → 0 ≤ x ∧ x ≤ 3) ∧ ∃ n, wr = W.drewN n) (fun i' _ => out.length - (intOf i').toNat)
      case atStart => exact ⟨0, Nat.zero_le _, rfl, fun j r h => by omega, _, rfl⟩
      case round =>
        obtain ⟨i, hi, rfl, HI, n, rfl⟩ := hrel
        by_cases hlt : i < out.length
        · obtain ⟨x, hox⟩ : ∃ x, out[i]? = some x := ⟨_, List.getElem?_eq_getElem hlt⟩
          obtain ⟨q, s, rfl, hcx⟩ := HO.out i x hox
          have HXX := Lib.hid hox
          clear hox
          by_cases hin : 0 ≤ x ∧ x ≤ 3
          · obtain ⟨hx0, hx3⟩ := hin
            have HN : Hid (∀ (j : Nat) (x : Int), j < i + 1 → out[j]? = some x → 0 ≤ x ∧ x ≤ 3) := fun j y hj hy => by
              by_cases e : j = i
              · subst e
                obtain rfl := Option.some.inj (HXX.out.symm.trans hy)
                omega
              · exact HI.out j y (by omega) hy
            go_wp2_with fail
            refine (l1In_yes _ _ _ _ hx0 hx3).mono ?_
            rintro e w' ⟨rfl, rfl⟩
            go_wp2
            go_roundw
            case rel => exact ⟨i + 1, by omega, by go_num, HN, _, rfl⟩
            case measure => simp [intOf]; omega
          · have hno : x < 0 ∨ 3 < x := by omega
            have HE := Lib.hid (not_seq_out (b := b) (rows := rows) HXX.out hno)
            have HNO := Lib.hid hno
            clear hin hno
            go_wp2_with fail
            refine (l1In_no _ _ _ _ HNO.out).mono ?_
            rintro e w' ⟨rfl, rfl⟩
            go_wp2
            go_ret
            exact ⟨ret_b HE.out.symm, ends HB.out⟩
        · have HOO : Hid (∀ (j : Nat) (x : Int), out[j]? = some x → 0 ≤ x ∧ x ≤ 3) := fun j r hr => HI.out j r (by have := (List.getElem?_eq_some_iff.1 hr).1; omega) hr
          clear HI HO
          by_cases hb : 2 ≤ b ∧ b ≤ 4
          · obtain ⟨hb1, hb2⟩ := hb
            by_cases hlen : 1 ≤ rows.length ∧ rows.length ≤ 16
            · obtain ⟨hl1, hl2⟩ := hlen
              by_cases heq : out.length = rows.length
              · have HE := Lib.hid (seqB_yes (isSeq_of hb1 hb2 hl1 hl2 heq HRR.out HOO.out))
                have hd : ((out.length : Int) == (rows.length : Int)) = true := by rw [heq]; simp
                clear heq
                go_wp2_with fail
                refine (l1In_yes _ _ _ _ hb1 hb2).mono ?_
                rintro e w' ⟨rfl, rfl⟩
                go_wp2_with fail
                refine (l1In_yes _ _ _ _ (by omega) (by omega)).mono ?_
                rintro e w' ⟨rfl, rfl⟩
                go_wp2
                go_ret
                exact ⟨ret_b HE.out.symm, ends HB.out⟩
              · have HE := Lib.hid (seqB_no (b := b) fun h => heq h.2.2.2.2.1)
                have hd : ((out.length : Int) == (rows.length : Int)) = false := by simp; omega
                clear heq
                go_wp2_with fail
                refine (l1In_yes _ _ _ _ hb1 hb2).mono ?_
                rintro e w' ⟨rfl, rfl⟩
                go_wp2_with fail
                refine (l1In_yes _ _ _ _ (by omega) (by omega)).mono ?_
                rintro e w' ⟨rfl, rfl⟩
                go_wp2
                go_ret
                exact ⟨ret_b HE.out.symm, ends HB.out⟩
            · have HE := Lib.hid (seqB_no (b := b) (out := out) fun h => hlen ⟨h.2.2.1, h.2.2.2.1⟩)
              have hno : (rows.length : Int) < 1 ∨ 16 < (rows.length : Int) := by omega
              have HNO := Lib.hid hno
              clear hlen hno
              go_wp2_with fail
              refine (l1In_yes _ _ _ _ hb1 hb2).mono ?_
              rintro e w' ⟨rfl, rfl⟩
              go_wp2_with fail
              refine (l1In_no _ _ _ _ HNO.out).mono ?_
              rintro e w' ⟨rfl, rfl⟩
              go_wp2
              go_ret
              exact ⟨ret_b HE.out.symm, ends HB.out⟩
          · have HE := Lib.hid (seqB_no (rows := rows) (out := out) fun h => hb ⟨h.1, h.2.1⟩)
            have hno : b < 2 ∨ 4 < b := by omega
            have HNO := Lib.hid hno
            clear hb hno
            go_wp2_with fail
            refine (l1In_no _ _ _ _ HNO.out).mono ?_
            rintro e w' ⟨rfl, rfl⟩
            go_wp2
            go_ret
            exact ⟨ret_b HE.out.symm, ends HB.out⟩
end Seqs
end Go.Proofs.YtfpdikohlafpiaaGreat
/- Contracts of IsSequence, of the program. No conditions beyond those that each states. -/
namespace Go.Proofs.YtfpdikohlafpiaaGreat
open Go.ChangeShapes Go.WideShapes Go.ChangeAt Go.RowKit
open Go.PlainAid Plain
set_option linter.unusedVariables false
namespace Seqs
end Seqs
end Go.Proofs.YtfpdikohlafpiaaGreat
/- Contracts of DigitSum, AreDigits, ValueOf, PadDigits and ReverseDigits, of the program and of the model. No conditions beyond those that each states. -/
namespace Go.Proofs.YtfpdikohlafpiaaGreat
open Go.ChangeShapes Go.WideShapes Go.ChangeAt Go.RowKit
open Go.PlainAid Plain
set_option linter.unusedVariables false
namespace Digits
open Ints

theorem ret_b {a b : Bool} (h : a = b) : Ending.returned (.bool a) = Ending.returned (.bool b) := by rw [h]
theorem spec_are (v : Value) (xs : List Int) (b : Int) (w : World) (h : Lies (Value.int .i64) w v xs) :
    Calls Tryz.prog 103 #[v, .int .i64 b] w fun e w' => e = .returned (.bool (areD b xs)) ∧ w = w' := by
  obtain ⟨hl, a, ca, rfl, _, hc⟩ := h
  have HC := Lib.hid hc
  clear hc
  go_enter Tryz.func103, Tryz.ntmps103
  go_wp2
  go_loop [5] (fun i' => ∃ i : Nat, i ≤ xs.length ∧ i' = .int .i64 i ∧ Hid (∀ j, (hj : j < xs.length) → j < i → 0 ≤ xs[j] ∧ xs[j] < b)) (fun i' => xs.length - (intOf i').toNat)
  case atStart => exact ⟨0, Nat.zero_le _, rfl, fun j hj h => by omega⟩
  case round =>
    obtain ⟨i, hi, rfl, HI⟩ := hrel
    by_cases hlt : i < xs.length
    · obtain ⟨q, r, rfl, hc2⟩ := HC.out i _ (List.getElem?_eq_getElem hlt)
      obtain ⟨x, hx⟩ : ∃ x, x = xs[i] := ⟨_, rfl⟩
      have HX := Lib.hid hx
      rw [← hx] at hc2
      clear hx
      by_cases h0 : x < 0
      · have HE := Lib.hid (areD_at (b := b) i hlt (by rw [← HX.out]; exact .inl h0))
        have hd := decide_eq_true h0
        go_wp2
        go_ret
        exact ⟨ret_b HE.out.symm, rfl⟩
      · by_cases h1 : b ≤ x
        · have HE := Lib.hid (areD_at (b := b) i hlt (by rw [← HX.out]; exact .inr h1))
          have hd := decide_eq_false h0
          have hd1 := decide_eq_true h1
          go_wp2
          go_ret
          exact ⟨ret_b HE.out.symm, rfl⟩
        · have HN : Hid (∀ j, (hj : j < xs.length) → j < i + 1 → 0 ≤ xs[j] ∧ xs[j] < b) := fun j hj h => by
            by_cases e : j = i
            · subst e; rw [← HX.out]; omega
            · exact HI.out j hj (by omega)
          have hd := decide_eq_false h0
          have hd1 := decide_eq_false h1
          go_wp2
          go_round
          case rel => exact ⟨i + 1, by omega, by go_num, HN⟩
          case measure => simp [intOf]; omega
    · by_cases hb : 2 ≤ b ∧ b ≤ 4
      · obtain ⟨hb1, hb2⟩ := hb
        by_cases h16 : xs.length ≤ 16
        · have HE := Lib.hid (areD_yes hb1 hb2 h16 (mem_of_all (fun j hj => HI.out j hj (by omega))))
          have hd := decide_eq_true (show (xs.length : Int) ≤ 16 by omega)
          go_wp2_with (go_at_call 41; refine (l1In_yes _ _ _ _ hb1 hb2).mono ?_; rintro e w' ⟨rfl, rfl⟩)
          go_ret
          exact ⟨ret_b HE.out.symm, rfl⟩
        · have HE := Lib.hid (areD_long (b := b) (xs := xs) (by omega))
          have hd := decide_eq_false (show ¬ (xs.length : Int) ≤ 16 by omega)
          go_wp2_with (go_at_call 41; refine (l1In_yes _ _ _ _ hb1 hb2).mono ?_; rintro e w' ⟨rfl, rfl⟩)
          go_ret
          exact ⟨ret_b HE.out.symm, rfl⟩
      · have hb3 : b < 2 ∨ 4 < b := by omega
        have HE := Lib.hid (areD_base xs hb3)
        have HB := Lib.hid hb3
        clear hb hb3
        go_wp2_with (go_at_call 41; refine (l1In_no _ _ _ _ HB.out).mono ?_; rintro e w' ⟨rfl, rfl⟩)
        go_ret
        exact ⟨ret_b HE.out.symm, rfl⟩
/-- The number of some digits, -1 where they are none. -/
def valV (b : Int) (xs : List Int) : Int := if areD b xs = true then valD b.toNat xs else -1
theorem valV_yes {b : Nat} {xs : List Int} (h : areD b xs = true) : valV b xs = valD b xs := by rw [valV, if_pos h]; rfl
theorem valV_no {b : Int} {xs : List Int} (h : areD b xs = false) : valV b xs = -1 := by rw [valV, if_neg (by simp [h])]
theorem val_bounds {b : Nat} {xs : List Int} (h : areD b xs = true) (i : Nat) (hi : i < xs.length) : (0 ≤ valD b (xs.take i) ∧ valD b (xs.take i) ≤ 4294967296) ∧ (0 ≤ valD b (xs.take i) * (b : Int) ∧ valD b (xs.take i) * (b : Int) ≤ 4294967296) ∧ 0 ≤ xs[i] ∧ xs[i] ≤ 4 := by
  obtain ⟨h1, h2, h3, h4⟩ := areD_out h
  have ha := valD_bd b (by omega) i xs (by omega) h4
  have hp := pow_bd b i (by omega) (by omega) (by omega)
  have hb := valD_bd b (by omega) (i + 1) xs (by omega) h4
  have hq := pow_bd b (i + 1) (by omega) (by omega) (by omega)
  have hx := h4 xs[i] (List.getElem_mem _)
  rw [List.take_succ_eq_append_getElem hi, valD_snoc] at hb
  have : 0 ≤ valD b (xs.take i) * (b : Int) := Int.mul_nonneg ha.1 (by omega)
  omega
end Digits
end Go.Proofs.YtfpdikohlafpiaaGreat
/- Contracts of IsSteady, StateAfter and TermAt, of the program and of the model. No conditions beyond those that each states. -/
namespace Go.Proofs.YtfpdikohlafpiaaGreat
open Go.ChangeShapes Go.WideShapes Go.ChangeAt Go.RowKit
open Go.PlainAid Plain
set_option linter.unusedVariables false
namespace Seqs
theorem IsSeq.first {b : Int} {rows : List (List Int)} {out : List Int} (h : IsSeq b rows out) : ∃ r, rows[0]? = some r ∧ r[0]? = some (nextS rows 0 0) := by
  obtain ⟨r, h1, h2, _⟩ := h.next (s := 0) (d := 0) (Int.le_refl _) (by have := h.2.2.1; omega) (Int.le_refl _) (by have := h.1; omega)
  exact ⟨r, h1, h2⟩
end Seqs
end Go.Proofs.YtfpdikohlafpiaaGreat
