/- Several texts of this proof, one behind the other: each says ahead of it what it shows and under which conditions. -/
import Derived.WalkKit
import Derived.Lib.Hide
import Derived.PlainAid
import Derived.Laws.BitsLemmas
import Derived.Laws.BytesArg
import Derived.OwnWalk
import Derived.Deep.RegionLaw
import Derived.Deep.QuietTactic
import Derived.Lib.OthersKept
import Derived.WalkSmall
import Derived.Below
import Derived.Laws.CopyOwn
import Derived.Laws.AppendOwnNone
import Derived.Test.YtdgfecjakmdheaaRows
import Derived.ProofKit
import Derived.OpenShut
import Derived.BigQuiet
import Derived.IntWalk
import Derived.Outline
import Derived.OneCell
import Derived.Deep.RegionHeld3
import Derived.ShutString
/- Plain facts on lists without repetition: how many elements they can have, an element put behind a list that lacks it, the different elements of a list and their numbers. No conditions beyond those that each fact states. -/
namespace Go.Proofs.Ytdgfecjakmdheaa.Plain
set_option linter.unusedVariables false
/-! ### lists without repetition -/
theorem nodup_sub_len {α : Type} [DecidableEq α] : ∀ (l m : List α), l.Nodup → (∀ x ∈ l, x ∈ m) → l.length ≤ m.length
  | [], _, _, _ => Nat.zero_le _
  | a :: l, m, hn, hs => by
    have ha : a ∈ m := hs a (by simp)
    rw [List.nodup_cons] at hn
    have h1 := nodup_sub_len l (m.erase a) hn.2 (fun x hx => (List.mem_erase_of_ne (fun e => hn.1 (by rw [← e]; exact hx))).2 (hs x (by simp [hx])))
    rw [List.length_erase_of_mem ha] at h1
    have : 0 < m.length := List.length_pos_of_mem ha
    simp
    omega
theorem nodup_of_sub_len {α : Type} [DecidableEq α] : ∀ (l m : List α), l.Nodup → (∀ x ∈ l, x ∈ m) → m.length ≤ l.length → m.Nodup
  | [], m, _, _, hl => by
    have : m = [] := List.eq_nil_of_length_eq_zero (by simpa using hl)
    subst this
    exact List.nodup_nil
  | a :: l, m, hn, hs, hl => by
    have ha : a ∈ m := hs a (by simp)
    have hn' := hn
    rw [List.nodup_cons] at hn
    have hs' : ∀ x ∈ l, x ∈ m.erase a := fun x hx => (List.mem_erase_of_ne (fun e => hn.1 (by rw [← e]; exact hx))).2 (hs x (by simp [hx]))
    have hle : (m.erase a).length = m.length - 1 := List.length_erase_of_mem ha
    have h0 : 0 < m.length := List.length_pos_of_mem ha
    have hl' : m.length ≤ l.length + 1 := by simpa using hl
    have h1 := nodup_of_sub_len l (m.erase a) hn.2 hs' (by omega)
    have hna : a ∉ m.erase a := fun h2 => by
      have h3 := nodup_sub_len (a :: l) (m.erase a) hn' (fun x hx => by
        rcases List.mem_cons.1 hx with rfl | hx
        · exact h2
        · exact hs' x hx)
      simp at h3
      omega
    exact (List.perm_cons_erase ha).nodup_iff.2 (List.nodup_cons.2 ⟨hna, h1⟩)
theorem nodup_bounded (l : List Int) (N : Nat) (hn : l.Nodup) (hb : ∀ x ∈ l, 0 ≤ x ∧ x < N) : l.length ≤ N := by
  have h := nodup_sub_len l ((List.range N).map (fun n : Nat => (n : Int))) hn (fun x hx => by
    have := hb x hx
    exact List.mem_map.2 ⟨x.toNat, List.mem_range.2 (by omega), by omega⟩)
  simpa using h

/-! ### an element is put behind a list that lacks it -/
section
variable {α : Type} [DecidableEq α]
def addTo (l : List α) (x : α) : List α := if x ∈ l then l else l ++ [x]
def addAll (l xs : List α) : List α := xs.foldl addTo l
theorem addTo_in {l : List α} {x : α} (h : x ∈ l) : addTo l x = l := if_pos h
theorem addTo_new {l : List α} {x : α} (h : x ∉ l) : addTo l x = l ++ [x] := if_neg h
theorem addTo_nodup {l : List α} (h : l.Nodup) (x : α) : (addTo l x).Nodup := by
  unfold addTo
  split
  · exact h
  · rename_i hx
    rw [List.nodup_append]
    exact ⟨h, by simp, by simp; exact fun a ha e => hx (e ▸ ha)⟩
theorem mem_addTo {l : List α} {x y : α} : y ∈ addTo l x ↔ y ∈ l ∨ y = x := by
  unfold addTo
  split
  · rename_i h
    exact ⟨.inl, fun h1 => h1.elim id (fun e => e ▸ h)⟩
  · simp
theorem addTo_prefix (l : List α) (x : α) : l <+: addTo l x := by
  unfold addTo
  split
  · exact List.prefix_refl _
  · exact List.prefix_append _ _
theorem addAll_nil (l : List α) : addAll l [] = l := rfl
theorem addAll_cons (l : List α) (x : α) (xs : List α) : addAll l (x :: xs) = addAll (addTo l x) xs := rfl
theorem addAll_snoc (l xs : List α) (x : α) : addAll l (xs ++ [x]) = addTo (addAll l xs) x := by simp [addAll]
theorem addAll_nodup : ∀ (xs : List α) (l : List α), l.Nodup → (addAll l xs).Nodup
  | [], _, h => h
  | x :: xs, l, h => addAll_nodup xs _ (addTo_nodup h x)
theorem mem_addAll : ∀ (xs l : List α) (y : α), y ∈ addAll l xs ↔ y ∈ l ∨ y ∈ xs
  | [], l, y => by simp [addAll]
  | x :: xs, l, y => by
    rw [addAll_cons, mem_addAll xs, mem_addTo, List.mem_cons]
    constructor
    · rintro ((h | h) | h)
      · exact .inl h
      · exact .inr (.inl h)
      · exact .inr (.inr h)
    · rintro (h | h | h)
      · exact .inl (.inl h)
      · exact .inl (.inr h)
      · exact .inr h
theorem addAll_prefix : ∀ (xs l : List α), l <+: addAll l xs
  | [], _ => List.prefix_refl _
  | x :: xs, l => (addTo_prefix l x).trans (addAll_prefix xs _)
theorem addAll_get {l xs : List α} {i : Nat} {s : α} (h : l[i]? = some s) : (addAll l xs)[i]? = some s := by
  obtain ⟨t, ht⟩ := addAll_prefix xs l
  have hi := (List.getElem?_eq_some_iff.1 h).1
  rw [← ht, List.getElem?_append_left hi]
  exact h
theorem addAll_of_sub : ∀ (xs l : List α), (∀ x ∈ xs, x ∈ l) → addAll l xs = l
  | [], _, _ => rfl
  | x :: xs, l, h => by
    rw [addAll_cons, addTo_in (h x (by simp))]
    exact addAll_of_sub xs l fun y hy => h y (by simp [hy])
theorem addAll_append (l xs ys : List α) : addAll l (xs ++ ys) = addAll (addAll l xs) ys := by simp [addAll]
/-- An element's first place. -/
def ix (l : List α) (x : α) : Nat := l.idxOf x
/-- The first place of an element stays while the list grows behind. -/
theorem idxOf_prefix {l m : List α} (h : l <+: m) {x : α} (hx : x ∈ l) : ix m x = ix l x := by
  obtain ⟨t, rfl⟩ := h
  rw [ix, List.idxOf_append, if_pos hx]
  rfl
theorem idxOf_lt {l : List α} {x : α} (h : x ∈ l) : ix l x < l.length := List.idxOf_lt_length_of_mem h
theorem get_idxOf {l : List α} {x : α} (h : x ∈ l) : l[ix l x]? = some x := by
  rw [List.getElem?_eq_getElem (idxOf_lt h)]
  exact congrArg some (List.getElem_idxOf (idxOf_lt h))
theorem idxOf_inj {l : List α} {x y : α} (hx : x ∈ l) (hy : y ∈ l) (h : ix l x = ix l y) : x = y := by
  have h1 := get_idxOf hx
  rw [h, get_idxOf hy] at h1
  exact (Option.some.inj h1).symm
theorem idxOf_get {l : List α} (hn : l.Nodup) {i : Nat} {x : α} (h : l[i]? = some x) : ix l x = i := by
  obtain ⟨hi, rfl⟩ := List.getElem?_eq_some_iff.1 h
  have h1 : l[i] ∈ l := List.getElem_mem _
  have h2 := get_idxOf h1
  obtain ⟨h3, h4⟩ := List.getElem?_eq_some_iff.1 h2
  have hp := List.pairwise_iff_getElem.1 hn
  rcases Nat.lt_trichotomy (ix l l[i]) i with h5 | h5 | h5
  · exact absurd h4 (hp _ _ h3 hi h5)
  · exact h5
  · exact absurd h4.symm (hp _ _ hi h3 h5)
/-- The different elements, as they first come. -/
def dist (keys : List α) : List α := addAll [] keys
theorem dist_nodup (keys : List α) : (dist keys).Nodup := addAll_nodup keys _ List.nodup_nil
theorem mem_dist {keys : List α} {x : α} : x ∈ dist keys ↔ x ∈ keys := by simp [dist, mem_addAll]
theorem dist_snoc (keys : List α) (x : α) : dist (keys ++ [x]) = addTo (dist keys) x := addAll_snoc _ _ _
theorem dist_prefix (keys ys : List α) : dist keys <+: dist (keys ++ ys) := by
  rw [dist, dist, addAll_append]
  exact addAll_prefix _ _
/-- Each key's number, by the order in which they first come. -/
def numb (keys : List α) : List Int := keys.map fun k => (ix (dist keys) k : Int)
theorem numb_len (keys : List α) : (numb keys).length = keys.length := by simp [numb]
theorem numb_get {keys : List α} {i : Nat} {k : α} (h : keys[i]? = some k) : (numb keys)[i]? = some (ix (dist keys) k : Int) := by simp [numb, h]
theorem numb_snoc (keys : List α) (k : α) : numb (keys ++ [k]) = numb keys ++ [(ix (addTo (dist keys) k) k : Int)] := by
  rw [numb, dist_snoc, List.map_append]
  congr 1
  apply List.map_congr_left
  intro x hx
  rw [idxOf_prefix (addTo_prefix _ _) (mem_dist.2 hx)]
theorem numb_new {keys : List α} {k : α} (h : k ∉ keys) : numb (keys ++ [k]) = numb keys ++ [((dist keys).length : Int)] := by
  rw [numb_snoc, addTo_new (fun h1 => h (mem_dist.1 h1)), ix, List.idxOf_append, if_neg (fun h1 => h (mem_dist.1 h1))]
  simp
theorem numb_old {keys : List α} {k : α} (h : k ∈ keys) : numb (keys ++ [k]) = numb keys ++ [(ix (dist keys) k : Int)] := by
  rw [numb_snoc, addTo_in (mem_dist.2 h)]
theorem numb_bd {keys : List α} {c : Int} (h : c ∈ numb keys) : 0 ≤ c ∧ c < (dist keys).length := by
  obtain ⟨k, hk, rfl⟩ := List.mem_map.1 h
  have := idxOf_lt (mem_dist.2 hk)
  omega
theorem numb_eq_iff {keys : List α} {i j : Nat} {k k' : α} (h : keys[i]? = some k) (h' : keys[j]? = some k') : (numb keys)[i]? = (numb keys)[j]? ↔ k = k' := by
  rw [numb_get h, numb_get h']
  constructor
  · intro e
    have e1 : ix (dist keys) k = ix (dist keys) k' := by injection e with e; omega
    exact idxOf_inj (mem_dist.2 (List.mem_of_getElem? h)) (mem_dist.2 (List.mem_of_getElem? h')) e1
  · rintro rfl; rfl
end
theorem mem_map_inj {α β : Type} {f : α → β} {l : List α} {x : α} (hf : ∀ a b, a ∈ l → f a = f b → b = x → a = b) : f x ∈ l.map f ↔ x ∈ l := by
  constructor
  · intro h
    obtain ⟨a, ha, e⟩ := List.mem_map.1 h
    exact (hf a x ha e rfl) ▸ ha
  · exact fun h => List.mem_map.2 ⟨x, h, rfl⟩
section
variable {α β : Type} [DecidableEq α] [DecidableEq β]
theorem addAll_map (f : α → β) (S : List α) (hf : ∀ a ∈ S, ∀ b ∈ S, f a = f b → a = b) : ∀ (xs l : List α), (∀ x ∈ l, x ∈ S) → (∀ x ∈ xs, x ∈ S) → addAll (l.map f) (xs.map f) = (addAll l xs).map f
  | [], _, _, _ => rfl
  | x :: xs, l, hl, hx => by
    have hxS := hx x (by simp)
    have hm : f x ∈ l.map f ↔ x ∈ l := mem_map_inj (fun a b ha e eb => by subst eb; exact hf a (hl a ha) b hxS e)
    have e1 : addTo (l.map f) (f x) = (addTo l x).map f := by
      by_cases h : x ∈ l
      · rw [addTo_in h, addTo_in (hm.2 h)]
      · rw [addTo_new h, addTo_new (fun h1 => h (hm.1 h1))]
        simp
    rw [List.map_cons, addAll_cons, e1, addAll_cons]
    exact addAll_map f S hf xs _ (fun y hy => by rcases mem_addTo.1 hy with h | rfl; exact hl y h; exact hxS) (fun y hy => hx y (by simp [hy]))
theorem dist_map (f : α → β) (keys : List α) (hf : ∀ a ∈ keys, ∀ b ∈ keys, f a = f b → a = b) : dist (keys.map f) = (dist keys).map f :=
  addAll_map f keys hf keys [] (by simp) (fun _ h => h)
theorem idxOf_map (f : α → β) : ∀ (l : List α) (x : α), (∀ a ∈ l, f a = f x → a = x) → ix (l.map f) (f x) = ix l x
  | [], _, _ => rfl
  | a :: l, x, h => by
    rw [ix, ix, List.map_cons, List.idxOf_cons, List.idxOf_cons]
    have ih := idxOf_map f l x (fun b hb => h b (by simp [hb]))
    by_cases e : a = x
    · subst e
      simp
    · have e2 : f a ≠ f x := fun e2 => e (h a (by simp) e2)
      have b1 : (f a == f x) = false := by simpa using e2
      have b2 : (a == x) = false := by simpa using e
      have ih' : List.idxOf (f x) (l.map f) = List.idxOf x l := ih
      rw [b1, b2, ih']
theorem numb_map (f : α → β) (keys : List α) (hf : ∀ a ∈ keys, ∀ b ∈ keys, f a = f b → a = b) : numb (keys.map f) = numb keys := by
  unfold numb
  rw [dist_map f keys hf, List.map_map]
  apply List.map_congr_left
  intro k hk
  show (ix ((dist keys).map f) (f k) : Int) = _
  rw [idxOf_map f _ k (fun a ha e => hf a (mem_dist.1 ha) k hk e)]
/-- Equal partitions have equal numbers. -/
theorem numb_same (keys : List α) (keys' : List β) (hl : keys.length = keys'.length) (h : ∀ (i j : Nat), i < keys.length → j < keys.length → (keys[i]? = keys[j]? ↔ keys'[i]? = keys'[j]?)) : numb keys = numb keys' := by
  cases keys' with
  | nil =>
    have : keys = [] := List.eq_nil_of_length_eq_zero (by simpa using hl)
    subst this; rfl
  | cons k0 ks0 =>
    obtain ⟨ks', hks⟩ : ∃ ks', ks' = k0 :: ks0 := ⟨_, rfl⟩
    rw [← hks] at hl h ⊢
    have e1 : ks' = keys.map (fun k => ks'.getD (ix keys k) k0) := by
      apply List.ext_getElem?
      intro i
      rw [List.getElem?_map]
      by_cases hi : i < keys.length
      · obtain ⟨k, hk⟩ : ∃ k, keys[i]? = some k := ⟨_, List.getElem?_eq_getElem hi⟩
        have hm := List.mem_of_getElem? hk
        have hj := idxOf_lt hm
        have h2 := (h (ix keys k) i hj hi).1 (by rw [get_idxOf hm, hk])
        rw [hk, Option.map_some, List.getD_eq_getElem?_getD, h2, List.getElem?_eq_getElem (by omega)]
        rfl
      · rw [List.getElem?_eq_none (by omega), List.getElem?_eq_none (by omega)]
        rfl
    have e2 : numb keys = numb (keys.map (fun k => ks'.getD (ix keys k) k0)) := (numb_map _ keys (fun a ha b hb e => by
      have ja := idxOf_lt ha
      have jb := idxOf_lt hb
      rw [List.getD_eq_getElem?_getD, List.getD_eq_getElem?_getD, List.getElem?_eq_getElem (show ix keys a < ks'.length by omega), List.getElem?_eq_getElem (show ix keys b < ks'.length by omega)] at e
      have h2 := (h (ix keys a) (ix keys b) ja jb).2 (by
        rw [List.getElem?_eq_getElem (show ix keys a < ks'.length by omega), List.getElem?_eq_getElem (show ix keys b < ks'.length by omega)]
        exact congrArg some e)
      rw [get_idxOf ha, get_idxOf hb] at h2
      exact Option.some.inj h2)).symm
    rw [← e1] at e2
    exact e2
end
end Go.Proofs.Ytdgfecjakmdheaa.Plain
/- Plain facts on the digits of a number: the digits, the number of some digits, padding with zeros, sums of digits. No conditions beyond those that each fact states. -/
namespace Go.Proofs.Ytdgfecjakmdheaa.Plain

theorem pow_bd (b i : Nat) (h1 : 2 ≤ b) (h2 : b ≤ 4) (hi : i ≤ 16) : 1 ≤ b ^ i ∧ b ^ i ≤ 4294967296 := by
  refine ⟨Nat.pow_pos (by omega), ?_⟩
  have h3 : b ^ i ≤ 4 ^ i := Nat.pow_le_pow_left h2 i
  have h4 : 4 ^ i ≤ 4 ^ 16 := Nat.pow_le_pow_right (by omega) hi
  have h5 : (4 : Nat) ^ 16 = 4294967296 := by decide
  omega

/-- The digits of n, the lowest one first, at most f of them. -/
def lows (b : Nat) : Nat → Nat → List Int
  | 0, _ => []
  | f + 1, n => if n = 0 then [] else ((n % b : Nat) : Int) :: lows b f (n / b)
/-- The digits of n, the highest one first. -/
def digs (n b : Nat) : List Int := (lows b 16 n).reverse
theorem lows_zero (b f : Nat) : lows b f 0 = [] := by cases f <;> simp [lows]
theorem lows_succ (b f n : Nat) (h : 0 < n) : lows b (f + 1) n = ((n % b : Nat) : Int) :: lows b f (n / b) := by rw [lows, if_neg (by omega)]
/-- Where the taking of n's digits stands: cs are taken (the lowest one first), m is left. -/
def DigitsAt (n b m : Nat) (cs : List Int) : Prop := ∃ f : Nat, cs.length + f = 16 ∧ m < b ^ f ∧ cs ++ lows b f m = lows b 16 n
theorem digits_start (n b : Nat) (h : n < b ^ 16) : DigitsAt n b n [] := ⟨16, rfl, h, rfl⟩
theorem digits_bd {n b m : Nat} {cs : List Int} (h : DigitsAt n b m cs) (h1 : 2 ≤ b) (h2 : b ≤ 4) : m ≤ 4294967295 ∧ cs.length ≤ 16 := by
  obtain ⟨f, hl, hm, _⟩ := h
  have := pow_bd b f h1 h2 (by omega)
  omega
theorem digits_step {n b m : Nat} {cs : List Int} (h : DigitsAt n b m cs) (hm : 0 < m) : DigitsAt n b (m / b) (cs ++ [((m % b : Nat) : Int)]) ∧ cs.length + 1 ≤ 16 := by
  obtain ⟨f, hl, h1, he⟩ := h
  cases f with
  | zero => simp at h1; omega
  | succ f =>
    refine ⟨⟨f, by simp; omega, ?_, ?_⟩, by omega⟩
    · rw [Nat.div_lt_iff_lt_mul (by rcases Nat.eq_zero_or_pos b with rfl | h; · simp at h1
                                    · exact h)]
      rw [Nat.pow_succ] at h1
      exact h1
    · rw [← he, lows_succ b f m hm]
      simp
theorem digits_end {n b : Nat} {cs : List Int} (h : DigitsAt n b 0 cs) : cs = lows b 16 n := by
  obtain ⟨f, _, _, he⟩ := h
  rw [← he, lows_zero, List.append_nil]
theorem lows_len (b : Nat) : ∀ f n, (lows b f n).length ≤ f
  | 0, n => by simp [lows]
  | f + 1, n => by
    rw [lows]
    split
    · simp
    · have := lows_len b f (n / b)
      simp
      omega
theorem digs_len (n b : Nat) : (digs n b).length ≤ 16 := by have := lows_len b 16 n; simp [digs]; omega
theorem lows_mem (b : Nat) (h : 2 ≤ b) : ∀ f n, ∀ x ∈ lows b f n, 0 ≤ x ∧ x < b
  | 0, n, x, hx => by simp [lows] at hx
  | f + 1, n, x, hx => by
    rw [lows] at hx
    split at hx
    · cases hx
    · simp only [List.mem_cons] at hx
      rcases hx with rfl | hx
      · have := Nat.mod_lt n (show 0 < b by omega)
        omega
      · exact lows_mem b h f _ x hx
theorem digs_mem (n b : Nat) (h : 2 ≤ b) : ∀ x ∈ digs n b, 0 ≤ x ∧ x < b := fun x hx => lows_mem b h 16 n x (by simpa [digs] using hx)

/-- The number of some digits. -/
def valD (b : Nat) (xs : List Int) : Int := xs.foldl (fun n d => n * b + d) 0
theorem valD_snoc (b : Nat) (xs : List Int) (d : Int) : valD b (xs ++ [d]) = valD b xs * b + d := by simp [valD]
theorem valD_lows (b : Nat) : ∀ f n, n < b ^ f → valD b (lows b f n).reverse = n
  | 0, n, h => by simp at h; subst h; rfl
  | f + 1, n, h => by
    rcases Nat.eq_zero_or_pos n with rfl | hn
    · rw [lows_zero]; rfl
    · have hb : 0 < b := by
        rcases Nat.eq_zero_or_pos b with rfl | hb
        · simp at h
        · exact hb
      rw [Nat.pow_succ] at h
      rw [lows_succ b f n hn, List.reverse_cons, valD_snoc, valD_lows b f (n / b) ((Nat.div_lt_iff_lt_mul hb).2 h)]
      have := Nat.div_add_mod n b
      have h2 : ((n / b : Nat) : Int) * b = ((b * (n / b) : Nat) : Int) := by rw [Int.natCast_mul, Int.mul_comm]
      rw [h2]
      omega
theorem valD_digs (n b : Nat) (h : n < b ^ 16) : valD b (digs n b) = n := valD_lows b 16 n h
theorem valD_zeros (b k : Nat) (xs : List Int) : valD b (List.replicate k 0 ++ xs) = valD b xs := by
  have h : ∀ k : Nat, (List.replicate k (0 : Int)).foldl (fun n d : Int => n * b + d) 0 = 0 := by
    intro k
    induction k with
    | zero => rfl
    | succ k ih => rw [List.replicate_succ, List.foldl_cons, Int.zero_mul, Int.zero_add, ih]
  rw [valD, List.foldl_append, h]
  rfl
theorem valD_bd (b : Nat) (hb : 2 ≤ b) : ∀ (k : Nat) (xs : List Int), k ≤ xs.length → (∀ x ∈ xs, 0 ≤ x ∧ x < b) → 0 ≤ valD b (xs.take k) ∧ valD b (xs.take k) < ((b ^ k : Nat) : Int)
  | 0, xs, _, _ => by simp [valD]
  | k + 1, xs, hk, h => by
    have ih := valD_bd b hb k xs (by omega) h
    have hx := h xs[k] (List.getElem_mem _)
    rw [List.take_succ_eq_append_getElem (by omega), valD_snoc, Nat.pow_succ]
    have h1 : 0 ≤ valD b (xs.take k) * (b : Int) := Int.mul_nonneg ih.1 (by omega)
    have h2 : (valD b (xs.take k) + 1) * (b : Int) ≤ ((b ^ k : Nat) : Int) * (b : Int) := Int.mul_le_mul_of_nonneg_right (by omega) (by omega)
    rw [Int.add_mul, Int.one_mul] at h2
    rw [Int.natCast_mul]
    omega
/-- The sum of a list. -/
def sumD (xs : List Int) : Int := xs.foldl (fun n d => n + d) 0
theorem sumD_snoc (xs : List Int) (d : Int) : sumD (xs ++ [d]) = sumD xs + d := by simp [sumD]
theorem sumD_bd (b : Nat) : ∀ (k : Nat) (xs : List Int), k ≤ xs.length → (∀ x ∈ xs, 0 ≤ x ∧ x < b) → 0 ≤ sumD (xs.take k) ∧ sumD (xs.take k) ≤ k * b
  | 0, xs, _, _ => by simp [sumD]
  | k + 1, xs, hk, h => by
    have ih := sumD_bd b k xs (by omega) h
    have hx := h xs[k] (List.getElem_mem _)
    rw [List.take_succ_eq_append_getElem (by omega), sumD_snoc]
    have : ((k + 1 : Nat) : Int) * (b : Int) = (k : Int) * b + b := by rw [Int.natCast_add, Int.add_mul]; simp
    omega
theorem sum_mod (b : Nat) (hb : 2 ≤ b) : ∀ f n, n < b ^ f → ∃ q : Int, (n : Int) - sumD (lows b f n).reverse = q * ((b : Int) - 1)
  | 0, n, h => ⟨0, by simp at h; subst h; simp [lows, sumD]⟩
  | f + 1, n, h => by
    rcases Nat.eq_zero_or_pos n with rfl | hn
    · exact ⟨0, by rw [lows_zero]; simp [sumD]⟩
    · rw [Nat.pow_succ] at h
      obtain ⟨q, hq⟩ := sum_mod b hb f (n / b) ((Nat.div_lt_iff_lt_mul (by omega)).2 h)
      refine ⟨q + ((n / b : Nat) : Int), ?_⟩
      rw [lows_succ b f n hn, List.reverse_cons, sumD_snoc, Int.add_mul, ← hq, Int.mul_sub, Int.mul_one]
      have := Nat.div_add_mod n b
      have h2 : ((n / b : Nat) : Int) * b = ((b * (n / b) : Nat) : Int) := by rw [Int.natCast_mul, Int.mul_comm]
      rw [h2]
      omega
/-- No digits begin with a zero. -/
theorem lows_last (b : Nat) (hb : 2 ≤ b) : ∀ f n, n < b ^ f → 0 < n → ∃ x cs, lows b f n = cs ++ [x] ∧ x ≠ 0
  | 0, n, h, hn => by simp at h; omega
  | f + 1, n, h, hn => by
    rw [Nat.pow_succ] at h
    rw [lows_succ b f n hn]
    rcases Nat.eq_zero_or_pos (n / b) with h0 | h0
    · refine ⟨((n % b : Nat) : Int), [], by rw [h0, lows_zero]; rfl, ?_⟩
      have : n < b := by
        rcases Nat.div_eq_zero_iff.1 h0 with h | h <;> omega
      rw [Nat.mod_eq_of_lt this]
      omega
    · obtain ⟨x, cs, he, hx⟩ := lows_last b hb f (n / b) ((Nat.div_lt_iff_lt_mul (by omega)).2 h) h0
      exact ⟨x, _ :: cs, by rw [he]; rfl, hx⟩
theorem digs_head (n b : Nat) (hb : 2 ≤ b) (h : n < b ^ 16) : digs n b = [] ∨ ∃ x cs, digs n b = x :: cs ∧ x ≠ 0 := by
  rcases Nat.eq_zero_or_pos n with rfl | hn
  · exact .inl (by simp [digs, lows_zero])
  · obtain ⟨x, cs, he, hx⟩ := lows_last b hb 16 n h hn
    exact .inr ⟨x, cs.reverse, by simp [digs, he], hx⟩

/-- Whether xs are digits of base b. -/
def areD (b : Int) (xs : List Int) : Bool := decide (2 ≤ b ∧ b ≤ 4 ∧ xs.length ≤ 16 ∧ ∀ x ∈ xs, 0 ≤ x ∧ x < b)
theorem areD_yes {b : Int} {xs : List Int} (h0 : 2 ≤ b) (h1 : b ≤ 4) (h2 : xs.length ≤ 16) (h3 : ∀ x ∈ xs, 0 ≤ x ∧ x < b) : areD b xs = true := decide_eq_true ⟨h0, h1, h2, h3⟩
theorem areD_base {b : Int} (xs : List Int) (h : b < 2 ∨ 4 < b) : areD b xs = false := decide_eq_false (fun h' => by omega)
theorem areD_long {b : Int} {xs : List Int} (h : 16 < xs.length) : areD b xs = false := decide_eq_false (fun h' => by omega)
theorem areD_at {b : Int} {xs : List Int} (k : Nat) (hk : k < xs.length) (h : xs[k] < 0 ∨ b ≤ xs[k]) : areD b xs = false := decide_eq_false (fun h' => by
  have := h'.2.2.2 xs[k] (List.getElem_mem _)
  omega)
theorem areD_out {b : Int} {xs : List Int} (h : areD b xs = true) : 2 ≤ b ∧ b ≤ 4 ∧ xs.length ≤ 16 ∧ ∀ x ∈ xs, 0 ≤ x ∧ x < b := of_decide_eq_true h
theorem mem_of_all {p : Int → Prop} {xs : List Int} (h : ∀ i, (hi : i < xs.length) → p xs[i]) : ∀ x ∈ xs, p x := fun x hx => by
  obtain ⟨i, hi, rfl⟩ := List.getElem_of_mem hx
  exact h i hi
/-- xs with zeros before it up to w numbers. -/
def padD (w : Int) (xs : List Int) : List Int := if w ≤ xs.length ∨ 16 < w then xs else List.replicate (w.toNat - xs.length) 0 ++ xs
end Go.Proofs.Ytdgfecjakmdheaa.Plain
/- Plain facts on sequences as lists: which ones are valid, the state and the term that they lead to, the steady form. No conditions beyond those that each fact states. -/
namespace Go.Proofs.Ytdgfecjakmdheaa.Plain

/-- A valid sequence. -/
def IsSeq (b : Int) (rows : List (List Int)) (out : List Int) : Prop :=
  2 ≤ b ∧ b ≤ 4 ∧ 1 ≤ rows.length ∧ rows.length ≤ 16 ∧ out.length = rows.length ∧ (∀ r ∈ rows, (r.length : Int) = b ∧ ∀ x ∈ r, 0 ≤ x ∧ x < (rows.length : Int)) ∧ ∀ x ∈ out, 0 ≤ x ∧ x ≤ 3
instance (b : Int) (rows : List (List Int)) (out : List Int) : Decidable (IsSeq b rows out) := by unfold IsSeq; infer_instance
def seqB (b : Int) (rows : List (List Int)) (out : List Int) : Bool := decide (IsSeq b rows out)
theorem seqB_yes {b : Int} {rows : List (List Int)} {out : List Int} (h : IsSeq b rows out) : seqB b rows out = true := decide_eq_true h
theorem seqB_no {b : Int} {rows : List (List Int)} {out : List Int} (h : ¬ IsSeq b rows out) : seqB b rows out = false := decide_eq_false h
theorem seqB_out {b : Int} {rows : List (List Int)} {out : List Int} (h : seqB b rows out = true) : IsSeq b rows out := of_decide_eq_true h

/-- Row and term i are those of a valid sequence. -/
def RowOK (b : Int) (n : Nat) (r : List Int) (o : Int) : Prop := (r.length : Int) = b ∧ (∀ x ∈ r, 0 ≤ x ∧ x < (n : Int)) ∧ 0 ≤ o ∧ o ≤ 3
instance (b : Int) (n : Nat) (r : List Int) (o : Int) : Decidable (RowOK b n r o) := by unfold RowOK; infer_instance
def rowB (b : Int) (n : Nat) (r : List Int) (o : Int) : Bool := decide (RowOK b n r o)
theorem IsSeq.rowOK {b : Int} {rows : List (List Int)} {out : List Int} (h : IsSeq b rows out) {i : Nat} {r : List Int} {o : Int} (hr : rows[i]? = some r) (ho : out[i]? = some o) : RowOK b rows.length r o := by
  obtain ⟨_, _, _, _, _, h1, h2⟩ := h
  have h3 := h1 r (List.mem_of_getElem? hr)
  have h4 := h2 o (List.mem_of_getElem? ho)
  exact ⟨h3.1, h3.2, h4⟩
theorem isSeq_of {b : Int} {rows : List (List Int)} {out : List Int} (h1 : 2 ≤ b) (h2 : b ≤ 4) (h3 : 1 ≤ rows.length) (h4 : rows.length ≤ 16) (h5 : out.length = rows.length)
    (h6 : ∀ (i : Nat) (r : List Int), rows[i]? = some r → (r.length : Int) = b ∧ ∀ (k : Nat) (x : Int), r[k]? = some x → 0 ≤ x ∧ x < (rows.length : Int)) (h7 : ∀ (i : Nat) (o : Int), out[i]? = some o → 0 ≤ o ∧ o ≤ 3) : IsSeq b rows out := by
  refine ⟨h1, h2, h3, h4, h5, fun r hr => ?_, fun o ho => ?_⟩
  · obtain ⟨i, hi⟩ := List.getElem?_of_mem hr
    refine ⟨(h6 i r hi).1, fun x hx => ?_⟩
    obtain ⟨k, hk⟩ := List.getElem?_of_mem hx
    exact (h6 i r hi).2 k x hk
  · obtain ⟨i, hi⟩ := List.getElem?_of_mem ho
    exact h7 i o hi
theorem not_seq_row {b : Int} {rows : List (List Int)} {out : List Int} {i : Nat} {r : List Int} (hr : rows[i]? = some r) (h : ¬ (r.length : Int) = b) : seqB b rows out = false :=
  seqB_no fun hs => h (hs.2.2.2.2.2.1 r (List.mem_of_getElem? hr)).1
theorem not_seq_cell {b : Int} {rows : List (List Int)} {out : List Int} {i k : Nat} {r : List Int} {x : Int} (hr : rows[i]? = some r) (hx : r[k]? = some x) (h : x < 0 ∨ (rows.length : Int) ≤ x) : seqB b rows out = false :=
  seqB_no fun hs => by
    have := (hs.2.2.2.2.2.1 r (List.mem_of_getElem? hr)).2 x (List.mem_of_getElem? hx)
    omega
theorem not_seq_out {b : Int} {rows : List (List Int)} {out : List Int} {i : Nat} {o : Int} (ho : out[i]? = some o) (h : o < 0 ∨ 3 < o) : seqB b rows out = false :=
  seqB_no fun hs => by
    have := hs.2.2.2.2.2.2 o (List.mem_of_getElem? ho)
    omega
theorem rowB_yes {b : Int} {n : Nat} {r : List Int} {o : Int} (h1 : (r.length : Int) = b) (h2 : ∀ (k : Nat) (x : Int), r[k]? = some x → 0 ≤ x ∧ x < (n : Int)) (h3 : 0 ≤ o) (h4 : o ≤ 3) : rowB b n r o = true :=
  decide_eq_true ⟨h1, fun x hx => by
    obtain ⟨k, hk⟩ := List.getElem?_of_mem hx
    exact h2 k x hk, h3, h4⟩
theorem rowB_len {b : Int} {n : Nat} {r : List Int} {o : Int} (h : ¬ (r.length : Int) = b) : rowB b n r o = false := decide_eq_false fun hs => h hs.1
theorem rowB_out {b : Int} {n : Nat} {r : List Int} {o : Int} (h : o < 0 ∨ 3 < o) : rowB b n r o = false := decide_eq_false fun hs => by have := hs.2.2; omega
theorem rowB_cell {b : Int} {n : Nat} {r : List Int} {o : Int} {k : Nat} {x : Int} (hx : r[k]? = some x) (h : x < 0 ∨ (n : Int) ≤ x) : rowB b n r o = false := decide_eq_false fun hs => by
  have := hs.2.1 x (List.mem_of_getElem? hx)
  omega
theorem rowB_seq {b : Int} {rows : List (List Int)} {out : List Int} {i : Nat} {r : List Int} {o : Int} (hr : rows[i]? = some r) (ho : out[i]? = some o) (h : rowB b rows.length r o = false) : seqB b rows out = false :=
  seqB_no fun hs => by
    have h1 : rowB b rows.length r o = true := decide_eq_true (hs.rowOK hr ho)
    rw [h1] at h
    cases h
theorem seq_rows {b : Int} {rows : List (List Int)} {out : List Int} (h1 : 2 ≤ b) (h2 : b ≤ 4) (h3 : 1 ≤ rows.length) (h4 : rows.length ≤ 16) (h5 : out.length = rows.length)
    (h : ∀ (i : Nat) (r : List Int) (o : Int), rows[i]? = some r → out[i]? = some o → rowB b rows.length r o = true) : seqB b rows out = true := by
  refine seqB_yes (isSeq_of h1 h2 h3 h4 h5 (fun i r hr => ?_) (fun i o ho => ?_))
  · obtain ⟨o, ho⟩ : ∃ o, out[i]? = some o := ⟨_, List.getElem?_eq_getElem (by rw [h5]; exact (List.getElem?_eq_some_iff.1 hr).1)⟩
    have := of_decide_eq_true (h i r o hr ho)
    exact ⟨this.1, fun k x hx => this.2.1 x (List.mem_of_getElem? hx)⟩
  · obtain ⟨r, hr⟩ : ∃ r, rows[i]? = some r := ⟨_, List.getElem?_eq_getElem (by rw [← h5]; exact (List.getElem?_eq_some_iff.1 ho).1)⟩
    exact (of_decide_eq_true (h i r o hr ho)).2.2
/-- The next state. -/
def nextS (rows : List (List Int)) (s d : Int) : Int := (rows.getD s.toNat []).getD d.toNat 0
def afterS (rows : List (List Int)) (ds : List Int) : Int := ds.foldl (nextS rows) 0
theorem afterS_snoc (rows : List (List Int)) (ds : List Int) (d : Int) : afterS rows (ds ++ [d]) = nextS rows (afterS rows ds) d := by simp [afterS]
theorem IsSeq.row {b : Int} {rows : List (List Int)} {out : List Int} (h : IsSeq b rows out) {s : Int} (h0 : 0 ≤ s) (h1 : s < rows.length) :
    ∃ r, rows[s.toNat]? = some r ∧ rows.getD s.toNat [] = r ∧ (r.length : Int) = b ∧ ∀ x ∈ r, 0 ≤ x ∧ x < (rows.length : Int) := by
  have hs : s.toNat < rows.length := by omega
  obtain ⟨ha, hb⟩ := h.2.2.2.2.2.1 rows[s.toNat] (List.getElem_mem _)
  exact ⟨rows[s.toNat], List.getElem?_eq_getElem hs, by simp [List.getD, hs], ha, hb⟩
theorem IsSeq.next {b : Int} {rows : List (List Int)} {out : List Int} (h : IsSeq b rows out) {s d : Int} (h0 : 0 ≤ s) (h1 : s < rows.length) (h2 : 0 ≤ d) (h3 : d < b) :
    ∃ r, rows[s.toNat]? = some r ∧ r[d.toNat]? = some (nextS rows s d) ∧ 0 ≤ nextS rows s d ∧ nextS rows s d < rows.length := by
  obtain ⟨r, e1, e2, hl, hm⟩ := h.row h0 h1
  have hd : d.toNat < r.length := by omega
  have e3 : nextS rows s d = r[d.toNat] := by rw [nextS, e2]; simp [List.getD, hd]
  obtain ⟨ha, hb⟩ := hm r[d.toNat] (List.getElem_mem _)
  exact ⟨r, e1, by rw [e3]; exact List.getElem?_eq_getElem hd, by rw [e3]; exact ha, by rw [e3]; exact hb⟩
theorem IsSeq.after {b : Int} {rows : List (List Int)} {out : List Int} (h : IsSeq b rows out) : ∀ (ds : List Int), (∀ d ∈ ds, 0 ≤ d ∧ d < b) → 0 ≤ afterS rows ds ∧ afterS rows ds < rows.length := by
  have key : ∀ (ds : List Int) (s : Int), 0 ≤ s → s < rows.length → (∀ d ∈ ds, 0 ≤ d ∧ d < b) → 0 ≤ ds.foldl (nextS rows) s ∧ ds.foldl (nextS rows) s < rows.length := by
    intro ds
    induction ds with
    | nil => intro s h0 h1 _; exact ⟨h0, h1⟩
    | cons d ds ih =>
      intro s h0 h1 hd
      obtain ⟨ha, hb⟩ := hd d (by simp)
      obtain ⟨_, _, _, hc, he⟩ := h.next h0 h1 ha hb
      exact ih _ hc he fun x hx => hd x (by simp [hx])
  have h1 := h.2.2.1
  exact fun ds hd => key ds 0 (Int.le_refl _) (by omega) hd
theorem IsSeq.after_step {b : Int} {rows : List (List Int)} {out : List Int} (h : IsSeq b rows out) {ds : List Int} (hd : ∀ d ∈ ds, 0 ≤ d ∧ d < b) {i sn : Nat} (hi : i < ds.length) (hs : (sn : Int) = afterS rows (ds.take i)) :
    ∃ dn yn : Nat, ds[i]? = some (dn : Int) ∧ sn < rows.length ∧ yn < rows.length ∧ (yn : Int) = afterS rows (ds.take (i + 1)) ∧ ∃ r, rows[sn]? = some r ∧ r[dn]? = some (yn : Int) := by
  have h1 := h.after (ds.take i) fun d hd' => hd d (List.mem_of_mem_take hd')
  have hx := hd ds[i] (List.getElem_mem _)
  rw [← hs] at h1
  obtain ⟨r, e1, e2, e3, e4⟩ := h.next (s := sn) (d := ds[i]) h1.1 h1.2 hx.1 hx.2
  refine ⟨ds[i].toNat, (nextS rows sn ds[i]).toNat, ?_, by omega, by omega, ?_, r, ?_, ?_⟩
  · rw [List.getElem?_eq_getElem hi, show ((ds[i].toNat : Nat) : Int) = ds[i] from by omega]
  · rw [List.take_succ_eq_append_getElem hi, afterS_snoc, ← hs]
    omega
  · simpa using e1
  · rw [e2, show (((nextS rows sn ds[i]).toNat : Nat) : Int) = nextS rows sn ds[i] from by omega]
/-- The state after some digits, -1 where sequence or digits are not valid. -/
def afterV (b : Int) (rows : List (List Int)) (out : List Int) (ar : Bool) (ds : List Int) : Int := if seqB b rows out = true ∧ ar = true then afterS rows ds else -1
/-- The term n. -/
def termS (b : Int) (rows : List (List Int)) (out : List Int) (n : Int) : Int := out.getD (afterS rows (digs n.toNat b.toNat)).toNat 0
theorem IsSeq.term_at {b : Int} {rows : List (List Int)} {out : List Int} (h : IsSeq b rows out) {ds : List Int} (hd : ∀ d ∈ ds, 0 ≤ d ∧ d < b) : ∃ sn : Nat, (sn : Int) = afterS rows ds ∧ sn < out.length ∧ out[sn]? = some (out.getD (afterS rows ds).toNat 0) := by
  have h1 := h.after ds hd
  have h2 := h.2.2.2.2.1
  refine ⟨(afterS rows ds).toNat, by omega, by omega, ?_⟩
  rw [List.getD_eq_getElem?_getD, List.getElem?_eq_getElem (by omega)]
  rfl
/-- The steady form. -/
def steadyB (b : Int) (rows : List (List Int)) (out : List Int) : Bool := seqB b rows out && decide (nextS rows 0 0 = 0)
def raise (r : List Int) : List Int := r.map (· + 1)
def steadyRows (rows : List (List Int)) : List (List Int) := (0 :: raise ((rows.getD 0 []).drop 1)) :: rows.map raise
def steadyOut (out : List Int) : List Int := out.getD 0 0 :: out
end Go.Proofs.Ytdgfecjakmdheaa.Plain
/- Plain facts on minimal forms: the states that are reached, the classes of states that no digits tell apart, the merged sequence, the minimal form. No conditions beyond those that each fact states. -/
namespace Go.Proofs.Ytdgfecjakmdheaa.Plain
set_option linter.unusedVariables false
/-! ### the states that are reached -/
def rowOf (rows : List (List Int)) (s : Int) : List Int := rows.getD s.toNat []
/-- What a search has found when it has looked at i states. -/
def reachI (rows : List (List Int)) : Nat → List Int
  | 0 => [0]
  | i + 1 => match (reachI rows i)[i]? with
    | some s => addAll (reachI rows i) (rowOf rows s)
    | none => reachI rows i
theorem reachI_step {rows : List (List Int)} {i : Nat} {s : Int} (h : (reachI rows i)[i]? = some s) : reachI rows (i + 1) = addAll (reachI rows i) (rowOf rows s) := by
  rw [reachI, h]
theorem reachI_stop {rows : List (List Int)} {i : Nat} (h : (reachI rows i).length ≤ i) : reachI rows (i + 1) = reachI rows i := by
  rw [reachI, List.getElem?_eq_none h]
theorem reachI_over {rows : List (List Int)} {i : Nat} (h : (reachI rows i).length ≤ i) : ∀ j, i ≤ j → reachI rows j = reachI rows i := by
  intro j hj
  obtain ⟨d, rfl⟩ := Nat.le.dest hj
  induction d with
  | zero => rfl
  | succ d ih =>
    have ih := ih (by omega)
    rw [← Nat.add_assoc, reachI_stop (by rw [ih]; omega), ih]
/-- All next states are states. -/
def Closed (rows : List (List Int)) : Prop := 0 < rows.length ∧ ∀ r ∈ rows, ∀ x ∈ r, 0 ≤ x ∧ x < (rows.length : Int)
theorem IsSeq.closed {b : Int} {rows : List (List Int)} {out : List Int} (h : IsSeq b rows out) : Closed rows := ⟨h.2.2.1, fun r hr x hx => (h.2.2.2.2.2.1 r hr).2 x hx⟩
theorem rowOf_mem {rows : List (List Int)} {s : Int} (h0 : 0 ≤ s) (h1 : s < rows.length) : rowOf rows s ∈ rows := by
  have h2 : s.toNat < rows.length := by omega
  rw [rowOf, List.getD_eq_getElem?_getD, List.getElem?_eq_getElem h2]
  exact List.getElem_mem _
theorem rowOf_get {rows : List (List Int)} {s : Int} (h0 : 0 ≤ s) (h1 : s < rows.length) : rows[s.toNat]? = some (rowOf rows s) := by
  have h2 : s.toNat < rows.length := by omega
  rw [rowOf, List.getD_eq_getElem?_getD, List.getElem?_eq_getElem h2]
  rfl
theorem reachI_ok {rows : List (List Int)} (hc : Closed rows) : ∀ i, (reachI rows i).Nodup ∧ ∀ x ∈ reachI rows i, 0 ≤ x ∧ x < (rows.length : Int)
  | 0 => ⟨by simp [reachI], fun x hx => by
      have : x = 0 := by simpa [reachI] using hx
      have := hc.1
      omega⟩
  | i + 1 => by
    obtain ⟨h1, h2⟩ := reachI_ok hc i
    cases hs : (reachI rows i)[i]? with
    | none =>
      rw [reachI, hs]
      exact ⟨h1, h2⟩
    | some s =>
      rw [reachI_step hs]
      have h3 := h2 s (List.mem_of_getElem? hs)
      refine ⟨addAll_nodup _ _ h1, fun x hx => ?_⟩
      rcases (mem_addAll _ _ _).1 hx with h | h
      · exact h2 x h
      · exact hc.2 _ (rowOf_mem h3.1 h3.2) x h
theorem reachI_len {rows : List (List Int)} (hc : Closed rows) (i : Nat) : (reachI rows i).length ≤ rows.length := nodup_bounded _ _ (reachI_ok hc i).1 (reachI_ok hc i).2
theorem reachI_prefix_succ (rows : List (List Int)) (i : Nat) : reachI rows i <+: reachI rows (i + 1) := by
  cases hs : (reachI rows i)[i]? with
  | none => rw [reachI, hs]; exact List.prefix_refl _
  | some s => rw [reachI_step hs]; exact addAll_prefix _ _
theorem reachI_prefix (rows : List (List Int)) {i j : Nat} (h : i ≤ j) : reachI rows i <+: reachI rows j := by
  obtain ⟨d, rfl⟩ := Nat.le.dest h
  induction d with
  | zero => exact List.prefix_refl _
  | succ d ih => exact (ih (by omega)).trans (reachI_prefix_succ rows _)
/-- All that is reached. -/
def reached (rows : List (List Int)) : List Int := reachI rows rows.length
theorem reachI_end {rows : List (List Int)} (hc : Closed rows) {i : Nat} (h : (reachI rows i).length ≤ i) : reachI rows i = reached rows := by
  have h1 := reachI_over h
  have h2 : (reachI rows rows.length).length ≤ rows.length := reachI_len hc _
  rcases Nat.le_total i rows.length with h3 | h3
  · exact (h1 _ h3).symm
  · exact reachI_over h2 i h3
theorem reached_len {rows : List (List Int)} (hc : Closed rows) : (reached rows).length ≤ rows.length := reachI_len hc _
theorem reachI_sub {rows : List (List Int)} (hc : Closed rows) (i : Nat) : reachI rows i <+: reached rows := by
  rcases Nat.le_total i rows.length with h3 | h3
  · exact reachI_prefix rows h3
  · rw [reachI_over (reachI_len hc _) i h3]; exact List.prefix_refl _
theorem reached_zero (rows : List (List Int)) : (reached rows)[0]? = some 0 := by
  obtain ⟨t, ht⟩ := reachI_prefix rows (Nat.zero_le rows.length)
  rw [reached, ← ht]
  rfl
/-- What is reached is closed. -/
theorem reached_next {rows : List (List Int)} (hc : Closed rows) {s x : Int} (hs : s ∈ reached rows) (hx : x ∈ rowOf rows s) : x ∈ reached rows := by
  obtain ⟨i, hi⟩ := List.getElem?_of_mem hs
  have hl : i < rows.length := Nat.lt_of_lt_of_le (List.getElem?_eq_some_iff.1 hi).1 (reached_len hc)
  have h1 : (reachI rows i)[i]? = some s ∨ (reachI rows i).length ≤ i := by
    rcases Nat.lt_or_ge i (reachI rows i).length with h2 | h2
    · left
      obtain ⟨t, ht⟩ := reachI_sub hc i
      rw [← ht, List.getElem?_append_left h2] at hi
      exact hi
    · exact .inr h2
  rcases h1 with h1 | h1
  · obtain ⟨t, ht⟩ := reachI_sub hc (i + 1)
    rw [← ht, reachI_step h1]
    simp [mem_addAll, hx]
  · have h2 := reachI_end hc h1
    rw [h2] at h1
    have := (List.getElem?_eq_some_iff.1 hi).1
    omega
def reachV (b : Int) (rows : List (List Int)) (out : List Int) : List Int := if seqB b rows out = true then reached rows else []
/-! ### the classes -/
/-- What tells a state: its term and the classes of its next states. -/
def keyC (rows : List (List Int)) (out cls : List Int) (s : Nat) : List Int := out.getD s 0 :: (rows.getD s []).map fun x => cls.getD x.toNat 0
def keysOf (rows : List (List Int)) (out cls : List Int) : List (List Int) := (List.range rows.length).map (keyC rows out cls)
/-- The keys of round k, the classes behind it. -/
def keysR (rows : List (List Int)) (out : List Int) : Nat → List (List Int)
  | 0 => List.replicate rows.length []
  | k + 1 => keysOf rows out (numb (keysR rows out k))
def clsR (rows : List (List Int)) (out : List Int) (k : Nat) : List Int := numb (keysR rows out k)
theorem keysR_len (rows : List (List Int)) (out : List Int) : ∀ k, (keysR rows out k).length = rows.length
  | 0 => by simp [keysR]
  | k + 1 => by simp [keysR, keysOf]
theorem clsR_len (rows : List (List Int)) (out : List Int) (k : Nat) : (clsR rows out k).length = rows.length := by rw [clsR, numb_len, keysR_len]
theorem keysR_get (rows : List (List Int)) (out : List Int) (k : Nat) {i : Nat} (h : i < rows.length) : (keysR rows out (k + 1))[i]? = some (keyC rows out (clsR rows out k) i) := by
  simp [keysR, keysOf, clsR, h]
theorem addAll_rep {α : Type} [DecidableEq α] (x : α) (l : List α) : ∀ n, addAll (x :: l) (List.replicate n x) = x :: l
  | 0 => rfl
  | n + 1 => by
    rw [List.replicate_succ, addAll_cons, addTo_in (by simp)]
    exact addAll_rep x l n
theorem dist_rep {α : Type} [DecidableEq α] (x : α) (n : Nat) : dist (List.replicate (n + 1) x) = [x] := by
  rw [dist, List.replicate_succ, addAll_cons, addTo_new (by simp)]
  exact addAll_rep x [] n
theorem numb_rep {α : Type} [DecidableEq α] (x : α) (n : Nat) : numb (List.replicate n x) = List.replicate n 0 := by
  cases n with
  | zero => rfl
  | succ n =>
    rw [numb, dist_rep]
    simp [ix]
theorem clsR_zero (rows : List (List Int)) (out : List Int) : clsR rows out 0 = List.replicate rows.length 0 := numb_rep _ _
/-- How many classes there are in round k. -/
def cntR (rows : List (List Int)) (out : List Int) (k : Nat) : Nat := (dist (keysR rows out k)).length
theorem cntR_zero {rows : List (List Int)} (out : List Int) (h : 0 < rows.length) : cntR rows out 0 = 1 := by
  obtain ⟨n, hn⟩ : ∃ n, rows.length = n + 1 := ⟨rows.length - 1, by omega⟩
  rw [cntR, keysR, hn, dist_rep]
  rfl
theorem dist_le {α : Type} [DecidableEq α] (keys : List α) : (dist keys).length ≤ keys.length := nodup_sub_len _ _ (dist_nodup _) (fun x hx => mem_dist.1 hx)
theorem cntR_le (rows : List (List Int)) (out : List Int) (k : Nat) : cntR rows out k ≤ rows.length := by
  have := dist_le (keysR rows out k)
  rw [keysR_len] at this
  exact this
/-- Rows of states. -/
structure Auto (rows : List (List Int)) (out : List Int) (n : Nat) : Prop where
  closed : Closed rows
  width : ∀ r ∈ rows, r.length = n
  terms : out.length = rows.length
theorem IsSeq.auto {b : Int} {rows : List (List Int)} {out : List Int} (h : IsSeq b rows out) : Auto rows out b.toNat := ⟨h.closed, fun r hr => by have := (h.2.2.2.2.2.1 r hr).1; omega, h.2.2.2.2.1⟩
theorem keyC_iff {rows : List (List Int)} {out cls : List Int} {n : Nat} (A : Auto rows out n) {i j : Nat} (hi : i < rows.length) (hj : j < rows.length) :
    keyC rows out cls i = keyC rows out cls j ↔ out.getD i 0 = out.getD j 0 ∧ ∀ d < n, cls.getD ((rows.getD i []).getD d 0).toNat 0 = cls.getD ((rows.getD j []).getD d 0).toNat 0 := by
  have w : ∀ i < rows.length, (rows.getD i []).length = n := fun i hi => by
    rw [List.getD_eq_getElem?_getD, List.getElem?_eq_getElem hi]
    exact A.width _ (List.getElem_mem _)
  have wi := w i hi
  have wj := w j hj
  have g : ∀ (l : List Int), l.length = n → ∀ d < n, (l.map fun x => cls.getD x.toNat 0)[d]? = some (cls.getD (l.getD d 0).toNat 0) := fun l hl d hd => by
    have hd' : d < l.length := by omega
    rw [List.getElem?_map, show l.getD d 0 = l[d] by simp [List.getD_eq_getElem?_getD, hd'], List.getElem?_eq_getElem hd']
    rfl
  unfold keyC
  rw [List.cons.injEq]
  refine and_congr_right fun _ => ⟨fun h d hd => ?_, fun h => ?_⟩
  · have h1 := g _ wi d hd
    rw [h, g _ wj d hd] at h1
    exact (Option.some.inj h1).symm
  · apply List.ext_getElem?
    intro d
    rcases Nat.lt_or_ge d n with hd | hd
    · rw [g _ wi d hd, g _ wj d hd, h d hd]
    · rw [List.getElem?_eq_none (by simp only [List.length_map]; omega), List.getElem?_eq_none (by simp only [List.length_map]; omega)]
theorem cls_iff {rows : List (List Int)} {out : List Int} {k i j : Nat} (hi : i < rows.length) (hj : j < rows.length) :
    (clsR rows out (k + 1)).getD i 0 = (clsR rows out (k + 1)).getD j 0 ↔ keyC rows out (clsR rows out k) i = keyC rows out (clsR rows out k) j := by
  have h1 := keysR_get rows out k hi
  have h2 := keysR_get rows out k hj
  have h3 := numb_eq_iff h1 h2
  rw [← h3, List.getD_eq_getElem?_getD, List.getD_eq_getElem?_getD]
  show ((numb (keysR rows out (k + 1)))[i]?).getD 0 = ((numb (keysR rows out (k + 1)))[j]?).getD 0 ↔ _
  rw [numb_get h1, numb_get h2]
  simp
theorem next_lt {rows : List (List Int)} {out : List Int} {n : Nat} (A : Auto rows out n) {i d : Nat} (hi : i < rows.length) (hd : d < n) : 0 ≤ (rows.getD i []).getD d 0 ∧ ((rows.getD i []).getD d 0).toNat < rows.length := by
  have h1 : rows.getD i [] ∈ rows := by
    rw [List.getD_eq_getElem?_getD, List.getElem?_eq_getElem hi]
    exact List.getElem_mem _
  have h2 := A.width _ h1
  have h3 : (rows.getD i []).getD d 0 ∈ rows.getD i [] := by
    rw [List.getD_eq_getElem?_getD (l := rows.getD i []), List.getElem?_eq_getElem (by omega)]
    exact List.getElem_mem _
  have := A.closed.2 _ h1 _ h3
  omega
/-- Each round divides the classes of the round before. -/
theorem refines {rows : List (List Int)} {out : List Int} {n : Nat} (A : Auto rows out n) : ∀ (k : Nat) {i j : Nat}, i < rows.length → j < rows.length → (clsR rows out (k + 1)).getD i 0 = (clsR rows out (k + 1)).getD j 0 → (clsR rows out k).getD i 0 = (clsR rows out k).getD j 0
  | 0, i, j, hi, hj, _ => by
    rw [clsR_zero]
    simp [List.getD_eq_getElem?_getD, hi, hj]
  | k + 1, i, j, hi, hj, h => by
    rw [cls_iff hi hj, keyC_iff A hi hj] at h ⊢
    exact ⟨h.1, fun d hd => refines A k (next_lt A hi hd).2 (next_lt A hj hd).2 (h.2 d hd)⟩
/-- As many classes as before: the same ones. -/
theorem stable {rows : List (List Int)} {out : List Int} {n : Nat} (A : Auto rows out n) {k : Nat} (h : cntR rows out (k + 1) = cntR rows out k) : clsR rows out (k + 1) = clsR rows out k := by
  have hpos : 0 < rows.length := A.closed.1
  -- the classes of round k as a function of those of round k + 1
  have hl1 := keysR_len rows out (k + 1)
  have hl0 := keysR_len rows out k
  let D1 := dist (keysR rows out (k + 1))
  let D0 := dist (keysR rows out k)
  let g : List Int → List Int := fun x => (keysR rows out k).getD (ix (keysR rows out (k + 1)) x) []
  have gk : ∀ i, i < rows.length → ∀ x, (keysR rows out (k + 1))[i]? = some x → (keysR rows out k)[i]? = some (g x) := fun i hi x hx => by
    have hm := List.mem_of_getElem? hx
    have hj := idxOf_lt hm
    rw [hl1] at hj
    have h1 : (clsR rows out (k + 1)).getD (ix (keysR rows out (k + 1)) x) 0 = (clsR rows out (k + 1)).getD i 0 := by
      rw [List.getD_eq_getElem?_getD, List.getD_eq_getElem?_getD]
      show ((numb _)[_]?).getD 0 = ((numb _)[_]?).getD 0
      rw [numb_get hx, numb_get (get_idxOf hm)]
    have h2 := refines A k hj hi h1
    obtain ⟨y, hy⟩ : ∃ y, (keysR rows out k)[i]? = some y := ⟨_, List.getElem?_eq_getElem (by omega)⟩
    obtain ⟨z, hz⟩ : ∃ z, (keysR rows out k)[ix (keysR rows out (k + 1)) x]? = some z := ⟨_, List.getElem?_eq_getElem (by omega)⟩
    have h3 : (numb (keysR rows out k))[ix (keysR rows out (k + 1)) x]? = (numb (keysR rows out k))[i]? := by
      rw [List.getD_eq_getElem?_getD, List.getD_eq_getElem?_getD] at h2
      rw [numb_get hz, numb_get hy]
      have h4 : ((numb (keysR rows out k))[ix (keysR rows out (k + 1)) x]?).getD 0 = ((numb (keysR rows out k))[i]?).getD 0 := h2
      rw [numb_get hz, numb_get hy] at h4
      exact congrArg some h4
    have h5 := (numb_eq_iff hz hy).1 h3
    show _ = some ((keysR rows out k).getD _ [])
    rw [List.getD_eq_getElem?_getD, hz, hy, h5]
    rfl
  have hsub : ∀ y ∈ D0, y ∈ D1.map g := fun y hy => by
    obtain ⟨i, hi⟩ := List.getElem?_of_mem (mem_dist.1 hy)
    have hi' : i < rows.length := by have := (List.getElem?_eq_some_iff.1 hi).1; omega
    obtain ⟨x, hx⟩ : ∃ x, (keysR rows out (k + 1))[i]? = some x := ⟨_, List.getElem?_eq_getElem (by omega)⟩
    have := gk i hi' x hx
    rw [hi] at this
    exact List.mem_map.2 ⟨x, mem_dist.2 (List.mem_of_getElem? hx), (Option.some.inj this).symm⟩
  have hnd : (D1.map g).Nodup := nodup_of_sub_len D0 _ (dist_nodup _) hsub (by
    have h1 : D1.length = D0.length := h
    rw [List.length_map]
    omega)
  have ginj : ∀ x ∈ D1, ∀ x' ∈ D1, g x = g x' → x = x' := fun x hx x' hx' e => by
    obtain ⟨i, hi⟩ := List.getElem?_of_mem hx
    obtain ⟨j, hj⟩ := List.getElem?_of_mem hx'
    have h1 : (D1.map g)[i]? = some (g x) := by rw [List.getElem?_map, hi]; rfl
    have h2 : (D1.map g)[j]? = some (g x) := by rw [List.getElem?_map, hj, e]; rfl
    have := (idxOf_get hnd h1).symm.trans (idxOf_get hnd h2)
    subst this
    rw [hi] at hj
    exact Option.some.inj hj
  refine numb_same _ _ (by omega) fun i j hi hj => ?_
  rw [hl1] at hi hj
  obtain ⟨x, hx⟩ : ∃ x, (keysR rows out (k + 1))[i]? = some x := ⟨_, List.getElem?_eq_getElem (by omega)⟩
  obtain ⟨y, hy⟩ : ∃ y, (keysR rows out (k + 1))[j]? = some y := ⟨_, List.getElem?_eq_getElem (by omega)⟩
  rw [hx, hy, gk i hi x hx, gk j hj y hy]
  constructor
  · intro e; rw [Option.some.inj e]
  · intro e
    rw [ginj x (mem_dist.2 (List.mem_of_getElem? hx)) y (mem_dist.2 (List.mem_of_getElem? hy)) (Option.some.inj e)]
theorem cnt_up {rows : List (List Int)} {out : List Int} {n : Nat} (A : Auto rows out n) (k : Nat) : cntR rows out k ≤ cntR rows out (k + 1) := by
  refine Nat.le_trans (nodup_sub_len (dist (keysR rows out k)) ((dist (keysR rows out (k + 1))).map fun x => (keysR rows out k).getD (ix (keysR rows out (k + 1)) x) []) (dist_nodup _) fun y hy => ?_) (by simp [cntR])
  have hl1 := keysR_len rows out (k + 1)
  have hl0 := keysR_len rows out k
  obtain ⟨i, hi⟩ := List.getElem?_of_mem (mem_dist.1 hy)
  have hi' : i < rows.length := by have := (List.getElem?_eq_some_iff.1 hi).1; omega
  obtain ⟨x, hx⟩ : ∃ x, (keysR rows out (k + 1))[i]? = some x := ⟨_, List.getElem?_eq_getElem (by omega)⟩
  have hm := List.mem_of_getElem? hx
  have hj := idxOf_lt hm
  rw [hl1] at hj
  have h1 : (clsR rows out (k + 1)).getD (ix (keysR rows out (k + 1)) x) 0 = (clsR rows out (k + 1)).getD i 0 := by
    rw [List.getD_eq_getElem?_getD, List.getD_eq_getElem?_getD]
    show ((numb _)[_]?).getD 0 = ((numb _)[_]?).getD 0
    rw [numb_get hx, numb_get (get_idxOf hm)]
  have h2 := refines A k hj hi' h1
  obtain ⟨z, hz⟩ : ∃ z, (keysR rows out k)[ix (keysR rows out (k + 1)) x]? = some z := ⟨_, List.getElem?_eq_getElem (by omega)⟩
  rw [List.getD_eq_getElem?_getD, List.getD_eq_getElem?_getD] at h2
  have h4 : ((numb (keysR rows out k))[ix (keysR rows out (k + 1)) x]?).getD 0 = ((numb (keysR rows out k))[i]?).getD 0 := h2
  rw [numb_get hz, numb_get hi] at h4
  have h5 := (numb_eq_iff hz hi).1 (by rw [numb_get hz, numb_get hi]; exact congrArg some h4)
  refine List.mem_map.2 ⟨x, mem_dist.2 hm, ?_⟩
  rw [List.getD_eq_getElem?_getD, hz, h5]
  rfl
theorem stable_on {rows : List (List Int)} {out : List Int} {k : Nat} (h : clsR rows out (k + 1) = clsR rows out k) : ∀ j, k ≤ j → clsR rows out j = clsR rows out k := by
  intro j hj
  obtain ⟨d, rfl⟩ := Nat.le.dest hj
  induction d with
  | zero => rfl
  | succ d ih =>
    have ih := ih (by omega)
    have e : keysR rows out (k + d + 1) = keysR rows out (k + 1) := by
      show keysOf rows out (clsR rows out (k + d)) = keysOf rows out (clsR rows out k)
      rw [ih]
    show numb (keysR rows out (k + d + 1)) = _
    rw [e]
    exact h
/-- The classes of the states. -/
def classes (rows : List (List Int)) (out : List Int) : List Int := clsR rows out (rows.length + 1)
theorem classes_at {rows : List (List Int)} {out : List Int} {n : Nat} (A : Auto rows out n) {k : Nat} (hk : k ≤ rows.length + 1) (h : cntR rows out (k + 1) = cntR rows out k) : clsR rows out (k + 1) = classes rows out ∧ clsR rows out k = classes rows out := by
  have h1 := stable A h
  have h2 := stable_on h1 (rows.length + 1) hk
  exact ⟨h1.trans h2.symm, h2.symm⟩
/-- The rounds come to an end. -/
theorem stops {rows : List (List Int)} {out : List Int} {n : Nat} (A : Auto rows out n) (k : Nat) (h : ∀ j < k, cntR rows out (j + 1) ≠ cntR rows out j) : k + 1 ≤ cntR rows out k := by
  induction k with
  | zero => rw [cntR_zero out A.closed.1]; omega
  | succ k ih =>
    have h1 := ih (fun j hj => h j (by omega))
    have h2 := cnt_up A (out := out) k
    have h3 := h k (by omega)
    omega
theorem stops_le {rows : List (List Int)} {out : List Int} {n : Nat} (A : Auto rows out n) (k : Nat) (h : ∀ j < k, cntR rows out (j + 1) ≠ cntR rows out j) : k < rows.length := by
  have := stops A k h
  have := cntR_le rows out k
  omega
theorem classes_fix {rows : List (List Int)} {out : List Int} {n : Nat} (A : Auto rows out n) : clsR rows out (rows.length + 2) = classes rows out ∧ clsR rows out rows.length = classes rows out := by
  have : ∃ j < rows.length, cntR rows out (j + 1) = cntR rows out j := by
    refine Classical.byContradiction fun hn => ?_
    have := stops_le A rows.length (fun j hj e => hn ⟨j, hj, e⟩)
    omega
  obtain ⟨j, hj, e⟩ := this
  have h1 := stable A e
  have h2 := stable_on h1
  refine ⟨(h2 _ (by omega)).trans (h2 (rows.length + 1) (by omega)).symm, (h2 _ (by omega)).trans (h2 (rows.length + 1) (by omega)).symm⟩
/-! ### the model's way to the classes -/
/-- The model's key: the state's class and those of its next states. -/
def keyM (rows : List (List Int)) (cls : List Int) (s : Nat) : List Int := cls.getD s 0 :: (rows.getD s []).map fun x => cls.getD x.toNat 0
def clsM (rows : List (List Int)) (out : List Int) : Nat → List Int
  | 0 => numb (out.map fun o => [o])
  | k + 1 => numb ((List.range rows.length).map (keyM rows (clsM rows out k)))
theorem clsM_eq {rows : List (List Int)} {out : List Int} {n : Nat} (A : Auto rows out n) : ∀ k, clsM rows out k = clsR rows out (k + 1)
  | 0 => by
    refine numb_same _ _ (by rw [List.length_map, keysR_len, A.terms]) fun i j hi hj => ?_
    rw [List.length_map, A.terms] at hi hj
    have z : ∀ x : Nat, (clsR rows out 0).getD x 0 = 0 := fun x => by
      rw [clsR_zero, List.getD_eq_getElem?_getD, List.getElem?_replicate]
      split <;> rfl
    have o : ∀ i < rows.length, (out.map fun o => [o])[i]? = some [out.getD i 0] := fun i hi => by
      rw [List.getElem?_map, List.getD_eq_getElem?_getD, List.getElem?_eq_getElem (by rw [A.terms]; exact hi)]
      rfl
    rw [o i hi, o j hj, keysR_get rows out 0 hi, keysR_get rows out 0 hj, Option.some.injEq, Option.some.injEq, keyC_iff A hi hj]
    simp only [z, List.cons.injEq, and_true, implies_true]
  | k + 1 => by
    have ih := clsM_eq A k
    rw [clsM, ih]
    refine numb_same _ _ (by rw [keysR_len]; simp) fun i j hi hj => ?_
    rw [List.length_map, List.length_range] at hi hj
    have o : ∀ i < rows.length, ((List.range rows.length).map (keyM rows (clsR rows out (k + 1))))[i]? = some (keyM rows (clsR rows out (k + 1)) i) := fun i hi => by simp [hi]
    rw [o i hi, o j hj, keysR_get rows out (k + 1) hi, keysR_get rows out (k + 1) hj, Option.some.injEq, Option.some.injEq, keyC_iff A hi hj]
    have A' : Auto rows (clsR rows out (k + 1)) n := ⟨A.closed, A.width, clsR_len _ _ _⟩
    have h0 : keyM rows (clsR rows out (k + 1)) i = keyM rows (clsR rows out (k + 1)) j ↔ _ := keyC_iff (cls := clsR rows out (k + 1)) A' hi hj
    rw [h0]
    refine and_congr_left fun h2 => ⟨fun h1 => ?_, fun h1 => ?_⟩
    · rw [cls_iff hi hj, keyC_iff A hi hj] at h1
      exact h1.1
    · rw [cls_iff hi hj, keyC_iff A hi hj]
      exact ⟨h1, fun d hd => refines A k (next_lt A hi hd).2 (next_lt A hj hd).2 (h2 d hd)⟩
theorem clsM_end {rows : List (List Int)} {out : List Int} {n : Nat} (A : Auto rows out n) : clsM rows out rows.length = classes rows out := clsM_eq A _
def classV (b : Int) (rows : List (List Int)) (out : List Int) : List Int := if seqB b rows out = true then classes rows out else []
/-! ### the merged sequence and the minimal form -/
/-- The keys of the classes, in the order of their numbers. -/
def keysQ (rows : List (List Int)) (out : List Int) : List (List Int) := dist (keysOf rows out (classes rows out))
def rowsQ (rows : List (List Int)) (out : List Int) : List (List Int) := (keysQ rows out).map List.tail
def outQ (rows : List (List Int)) (out : List Int) : List Int := (keysQ rows out).map fun k => k.headD 0
theorem keysR_fix {rows : List (List Int)} {out : List Int} {n : Nat} (A : Auto rows out n) : numb (keysOf rows out (classes rows out)) = classes rows out := (classes_fix A).1
theorem keysQ_at {rows : List (List Int)} {out : List Int} {n : Nat} (A : Auto rows out n) {k : Nat} (hk : k ≤ rows.length + 1) (h : cntR rows out (k + 1) = cntR rows out k) : dist (keysR rows out (k + 1)) = keysQ rows out := by
  show dist (keysOf rows out (clsR rows out k)) = _
  rw [(classes_at A hk h).2]
  rfl
theorem keysQ_len (rows : List (List Int)) (out : List Int) : (keysQ rows out).length ≤ rows.length := by
  have := dist_le (keysOf rows out (classes rows out))
  simpa [keysQ, keysOf] using this
theorem classes_len (rows : List (List Int)) (out : List Int) : (classes rows out).length = rows.length := clsR_len _ _ _
/-- A state's class is the place of its key. -/
theorem class_at {rows : List (List Int)} {out : List Int} {n : Nat} (A : Auto rows out n) {s : Nat} (hs : s < rows.length) :
    (classes rows out).getD s 0 = (ix (keysQ rows out) (keyC rows out (classes rows out) s) : Int) ∧ (keysQ rows out)[((classes rows out).getD s 0).toNat]? = some (keyC rows out (classes rows out) s) := by
  have h1 : (keysOf rows out (classes rows out))[s]? = some (keyC rows out (classes rows out) s) := by simp [keysOf, hs]
  have h2 := numb_get h1
  rw [keysR_fix A] at h2
  have h3 : (classes rows out).getD s 0 = (ix (keysQ rows out) (keyC rows out (classes rows out) s) : Int) := by
    rw [List.getD_eq_getElem?_getD, h2]
    rfl
  refine ⟨h3, ?_⟩
  rw [h3]
  exact get_idxOf (mem_dist.2 (List.mem_of_getElem? h1))
theorem class_lt {rows : List (List Int)} {out : List Int} {n : Nat} (A : Auto rows out n) {s : Nat} (hs : s < rows.length) : 0 ≤ (classes rows out).getD s 0 ∧ (classes rows out).getD s 0 < (rowsQ rows out).length := by
  have h := (class_at A hs).2
  have h1 := (List.getElem?_eq_some_iff.1 h).1
  have h2 := (class_at A hs).1
  simp only [rowsQ, List.length_map]
  omega
/-- The row and the term of a state's class. -/
theorem rowsQ_at {rows : List (List Int)} {out : List Int} {n : Nat} (A : Auto rows out n) {s : Nat} (hs : s < rows.length) :
    rowOf (rowsQ rows out) ((classes rows out).getD s 0) = (rows.getD s []).map (fun x => (classes rows out).getD x.toNat 0) ∧ (outQ rows out).getD ((classes rows out).getD s 0).toNat 0 = out.getD s 0 := by
  have h := (class_at A hs).2
  constructor
  · rw [rowOf, rowsQ, List.getD_eq_getElem?_getD, List.getElem?_map, h]
    rfl
  · rw [outQ, List.getD_eq_getElem?_getD (l := List.map _ _), List.getElem?_map, h]
    rfl
theorem keysQ_mem {rows : List (List Int)} {out k : List Int} (h : k ∈ keysQ rows out) : ∃ s < rows.length, k = keyC rows out (classes rows out) s := by
  have h1 := mem_dist.1 h
  simp only [keysOf, List.mem_map, List.mem_range] at h1
  obtain ⟨s, hs, rfl⟩ := h1
  exact ⟨s, hs, rfl⟩
theorem class_zero {rows : List (List Int)} {out : List Int} {n : Nat} (A : Auto rows out n) : (classes rows out).getD 0 0 = 0 := by
  have h := (class_at A A.closed.1).1
  rw [h]
  have h1 : (keysOf rows out (classes rows out))[0]? = some (keyC rows out (classes rows out) 0) := by simp [keysOf, A.closed.1]
  obtain ⟨t, ht⟩ : ∃ t, keysOf rows out (classes rows out) = [keyC rows out (classes rows out) 0] ++ t := by
    cases hk : keysOf rows out (classes rows out) with
    | nil => rw [hk] at h1; simp at h1
    | cons a l =>
      rw [hk] at h1
      simp at h1
      exact ⟨l, by rw [h1]; rfl⟩
  have h2 : ix (keysQ rows out) (keyC rows out (classes rows out) 0) = ix (dist [keyC rows out (classes rows out) 0]) (keyC rows out (classes rows out) 0) := by
    rw [keysQ, ht]
    exact idxOf_prefix (dist_prefix _ _) (mem_dist.2 (by simp))
  rw [h2]
  simp [dist, addAll, addTo, ix]
/-- The merged sequence. -/
theorem rowsQ_auto {rows : List (List Int)} {out : List Int} {n : Nat} (A : Auto rows out n) : Auto (rowsQ rows out) (outQ rows out) n := by
  have hrow : ∀ r ∈ rowsQ rows out, ∃ s < rows.length, r = (rows.getD s []).map fun x => (classes rows out).getD x.toNat 0 := fun r hr => by
    obtain ⟨k, hk, rfl⟩ := List.mem_map.1 hr
    obtain ⟨s, hs, rfl⟩ := keysQ_mem hk
    exact ⟨s, hs, rfl⟩
  have hget : ∀ s < rows.length, rows.getD s [] ∈ rows := fun s hs => by
    rw [List.getD_eq_getElem?_getD, List.getElem?_eq_getElem hs]
    exact List.getElem_mem _
  refine ⟨⟨?_, fun r hr x hx => ?_⟩, fun r hr => ?_, by simp [outQ, rowsQ]⟩
  · have := class_lt A A.closed.1
    omega
  · obtain ⟨s, hs, rfl⟩ := hrow r hr
    obtain ⟨y, hy, rfl⟩ := List.mem_map.1 hx
    have := A.closed.2 _ (hget s hs) y hy
    exact class_lt A (by omega)
  · obtain ⟨s, hs, rfl⟩ := hrow r hr
    rw [List.length_map]
    exact A.width _ (hget s hs)
/-- The states of the minimal form as classes; its rows; its terms. -/
def minS (rows : List (List Int)) (out : List Int) : List Int := reached (rowsQ rows out)
def minRow (Q : List (List Int)) (L : List Int) (s : Int) : List Int := (rowOf Q s).map fun x => (ix L x : Int)
def searchR (Q : List (List Int)) : List (List Int) := (reached Q).map (minRow Q (reached Q))
def searchO (Q : List (List Int)) (o : List Int) : List Int := (reached Q).map fun s => o.getD s.toNat 0
def minR (rows : List (List Int)) (out : List Int) : List (List Int) := searchR (rowsQ rows out)
def minO (rows : List (List Int)) (out : List Int) : List Int := searchO (rowsQ rows out) (outQ rows out)
theorem searchR_auto {Q : List (List Int)} {o : List Int} {n : Nat} (A : Auto Q o n) : Auto (searchR Q) (searchO Q o) n := by
  have hz := reached_zero Q
  have hm : ∀ r ∈ searchR Q, ∃ s ∈ reached Q, r = minRow Q (reached Q) s := fun r hr => by
    obtain ⟨s, hs, rfl⟩ := List.mem_map.1 hr
    exact ⟨s, hs, rfl⟩
  have hb : ∀ s ∈ reached Q, 0 ≤ s ∧ s < Q.length := (reachI_ok A.closed _).2
  refine ⟨⟨?_, fun r hr x hx => ?_⟩, fun r hr => ?_, by simp [searchO, searchR]⟩
  · rw [searchR, List.length_map]
    exact (List.getElem?_eq_some_iff.1 hz).1
  · obtain ⟨s, hs, rfl⟩ := hm r hr
    obtain ⟨y, hy, rfl⟩ := List.mem_map.1 hx
    have h1 := idxOf_lt (reached_next A.closed hs hy)
    rw [searchR, List.length_map]
    omega
  · obtain ⟨s, hs, rfl⟩ := hm r hr
    rw [minRow, List.length_map]
    exact A.width _ (rowOf_mem (hb s hs).1 (hb s hs).2)
theorem searchO_mem {Q : List (List Int)} {o : List Int} {n : Nat} (A : Auto Q o n) : ∀ x ∈ searchO Q o, x ∈ o := fun x hx => by
  obtain ⟨s, hs, rfl⟩ := List.mem_map.1 hx
  have hb := (reachI_ok A.closed _).2 s hs
  rw [List.getD_eq_getElem?_getD, List.getElem?_eq_getElem (show s.toNat < o.length by rw [A.terms]; omega)]
  exact List.getElem_mem _
theorem outQ_mem {rows : List (List Int)} {out : List Int} {n : Nat} (A : Auto rows out n) : ∀ x ∈ outQ rows out, x ∈ out := fun x hx => by
  obtain ⟨k, hk, rfl⟩ := List.mem_map.1 hx
  obtain ⟨s, hs, rfl⟩ := keysQ_mem hk
  show out.getD s 0 ∈ out
  rw [List.getD_eq_getElem?_getD, List.getElem?_eq_getElem (show s < out.length by rw [A.terms]; omega)]
  exact List.getElem_mem _
theorem rowsQ_len (rows : List (List Int)) (out : List Int) : (rowsQ rows out).length ≤ rows.length := by
  rw [rowsQ, List.length_map]
  exact keysQ_len rows out
theorem searchR_len {Q : List (List Int)} (hc : Closed Q) : (searchR Q).length ≤ Q.length := by
  rw [searchR, List.length_map]
  exact reached_len hc
theorem isSeq_of_auto {b : Int} {rows : List (List Int)} {out : List Int} {n : Nat} (A : Auto rows out n) (hn : (n : Int) = b) (h2 : 2 ≤ b) (h4 : b ≤ 4) (hl : rows.length ≤ 16) (ho : ∀ x ∈ out, 0 ≤ x ∧ x ≤ 3) : IsSeq b rows out :=
  ⟨h2, h4, A.closed.1, hl, A.terms, fun r hr => ⟨by rw [A.width r hr]; exact hn, A.closed.2 r hr⟩, ho⟩
theorem IsSeq.merged {b : Int} {rows : List (List Int)} {out : List Int} (h : IsSeq b rows out) : IsSeq b (rowsQ rows out) (outQ rows out) := by
  have A := h.auto
  refine isSeq_of_auto (rowsQ_auto A) ?_ h.1 h.2.1 (Nat.le_trans (rowsQ_len _ _) h.2.2.2.1) fun x hx => h.2.2.2.2.2.2 x (outQ_mem A x hx)
  have := h.1
  omega
theorem IsSeq.searched {b : Int} {rows : List (List Int)} {out : List Int} (h : IsSeq b rows out) : IsSeq b (searchR rows) (searchO rows out) := by
  have A := h.auto
  refine isSeq_of_auto (searchR_auto A) ?_ h.1 h.2.1 (Nat.le_trans (searchR_len A.closed) h.2.2.2.1) fun x hx => h.2.2.2.2.2.2 x (searchO_mem A x hx)
  have := h.1
  omega
theorem IsSeq.minimal {b : Int} {rows : List (List Int)} {out : List Int} (h : IsSeq b rows out) : IsSeq b (minR rows out) (minO rows out) := h.merged.searched
end Go.Proofs.Ytdgfecjakmdheaa.Plain
/- Plain facts on numbers and bytes that the proofs of this folder share: the number that the first bytes of a string encode, and 'or' of numbers whose bits do not meet. No conditions beyond those that each fact states. -/
namespace Go.Proofs.Ytdgfecjakmdheaa.Plain
open Go.PlainAid

theorem wraps_i64 (n : Int) (h₀ : 0 ≤ n) (h₁ : n < 2 ^ 63) : IntKind.i64.wrap n = n := by rw [IntKind.wrap_i64]; omega
theorem or8 (x y : Int) (h₀ : 0 ≤ x) (hx : x ≤ 9007199254740991) (hy₀ : 0 ≤ y) (hy : y ≤ 255) : bits .or .i64 (x * 256) y = x * 256 + y :=
  bits_join .i64 63 (by decide) wraps_i64 8 (x * 256) y (by omega) (by omega) (by omega) hy₀ (by omega) (by omega)

/-- The number that the first k bytes of s encode, the most significant one first. -/
def pv (s : ByteArray) : Nat → Int
  | 0 => 0
  | k + 1 => pv s k * 256 + bt s k
theorem pv_succ (s : ByteArray) (k : Nat) : pv s (k + 1) = pv s k * 256 + bt s k := rfl
theorem pv_bd (s : ByteArray) : ∀ k : Nat, 0 ≤ pv s k ∧ pv s k < 256 ^ k
  | 0 => ⟨Int.le_refl _, by show (0 : Int) < 1; omega⟩
  | k + 1 => by
    have ih := pv_bd s k
    have h1 := bt_nonneg s k
    have h2 := bt_le s k
    rw [pv_succ, Int.pow_succ]
    omega
theorem pow_le (k : Nat) (h : k ≤ 6) : (256 : Int) ^ k ≤ 281474976710656 := by
  have : k = 0 ∨ k = 1 ∨ k = 2 ∨ k = 3 ∨ k = 4 ∨ k = 5 ∨ k = 6 := by omega
  rcases this with rfl | rfl | rfl | rfl | rfl | rfl | rfl <;> decide
theorem pv_small (s : ByteArray) (k : Nat) (h : k ≤ 6) : 0 ≤ pv s k ∧ pv s k ≤ 281474976710655 := by
  have := pv_bd s k
  have := pow_le k h
  omega

/-- string(b) of a slice that the call owns. -/
theorem convert_owned {P : Program} (w : World) (src e dst : TypeId) (hs : P.underlying src = some (.slice e)) (he : P.underlying e = some (.int .u8)) (hd : P.underlying dst = some .string)
    (base : Nat) (v : Value) (n : Nat) (xs : List Int) (hown : w.ownsRow base e 1 v n (xs.map (Value.int .u8))) : (convert src dst v).run P w = .ok (.string (strOfNums xs)) w := by
  have hl : xs.length = n := by simpa using hown.1
  rcases hown.2 with ⟨rfl, rfl⟩ | ⟨g, cap, cur, rfl, _⟩
  · obtain rfl : xs = [] := List.eq_nil_of_length_eq_zero hl
    exact run_convert_bytes_nil w src e hs he 0 0 dst hd
  · refine run_convert_bytes_arg w src e hs he g 0 n cap xs hl (fun i hi => ?_) dst hd
    rw [Nat.zero_add, hown.cellAt i (by omega)]
    simp [List.getElem?_eq_getElem (show i < xs.length by omega)]

/-- The bytes of a varint: seven bits a byte, the lowest first, at most f + 1 of them. -/
def vb : Nat → Int → List Int
  | 0, n => [n]
  | f + 1, n => if n < 128 then [n] else (n % 128 + 128) :: vb f (n / 128)
theorem vb_last (f : Nat) (n : Int) (h : n < 128) : vb f n = [n] := by
  cases f with
  | zero => rfl
  | succ f => rw [vb, if_pos h]
theorem vb_step (f : Nat) (n : Int) (h : 128 ≤ n) : vb (f + 1) n = (n % 128 + 128) :: vb f (n / 128) := by rw [vb, if_neg (by omega)]
/-- Where the writing of n's varint stands: cs is written, m is left, f bytes may still come. -/
def VarintAt (n m : Int) (cs : List Int) : Prop := ∃ f : Nat, cs.length + f = 7 ∧ 0 ≤ m ∧ m < 128 ^ f ∧ cs ++ vb f m = vb 7 n
theorem varint_start (n : Int) (h0 : 0 ≤ n) (h1 : n ≤ 562949953421311) : VarintAt n n [] :=
  ⟨7, rfl, h0, by have : (128 : Int) ^ 7 = 562949953421312 := by decide
                  omega, rfl⟩
theorem varint_bd {n m : Int} {cs : List Int} (h : VarintAt n m cs) : 0 ≤ m ∧ m ≤ 562949953421311 ∧ cs.length ≤ 7 := by
  obtain ⟨f, hl, h0, h1, _⟩ := h
  have hp : (128 : Int) ^ f ≤ 128 ^ 7 := by
    have : f = 0 ∨ f = 1 ∨ f = 2 ∨ f = 3 ∨ f = 4 ∨ f = 5 ∨ f = 6 ∨ f = 7 := by omega
    rcases this with rfl | rfl | rfl | rfl | rfl | rfl | rfl | rfl <;> decide
  have : (128 : Int) ^ 7 = 562949953421312 := by decide
  omega
theorem varint_step {n m : Int} {cs : List Int} (h : VarintAt n m cs) (hm : 128 ≤ m) : VarintAt n (m / 128) (cs ++ [m % 128 + 128]) := by
  obtain ⟨f, hl, h0, h1, he⟩ := h
  cases f with
  | zero => simp at h1; omega
  | succ f =>
    rw [Int.pow_succ] at h1
    refine ⟨f, by simp; omega, by omega, by omega, ?_⟩
    rw [← he, vb_step f m hm]
    simp
theorem varint_end {n m : Int} {cs : List Int} (h : VarintAt n m cs) (hm : m < 128) : cs ++ [m] = vb 7 n := by
  obtain ⟨f, _, _, _, he⟩ := h
  rw [← he, vb_last f m hm]
end Go.Proofs.Ytdgfecjakmdheaa.Plain
/- Small laws for walks: append of new values onto a slice that the call owns, told with what stays below; a slice that the call owns as a list. No conditions beyond those that each states. -/
namespace Go.Proofs.Ytdgfecjakmdheaa.Plain
open Go.RowKit

theorem addr_add (g j : Nat) : (⟨g, 0, none⟩ : Addr).add j = ⟨g, j, none⟩ := by unfold Addr.add; split <;> simp_all

/-- 'out = append(out, x, ..)' of values that lie in a block which the statement has just laid. -/
theorem append_new {P : Program} (w0 wr : World) {ops : Array Oper} {rest : List Oper} {o : Oper} {a : Act} {Q : Exit → Act → World → Prop} (hgd : o.guard = none) (s x : Operand) (t : TypeId)
    (ho : o.op = .call { callee := .builtin .append, args := #[s, x], argTypes := #[t, t] })
    (base : Nat) (e : TypeId) (i : TypeInfo) (z : Value) (bytes : Nat) (ht : P.underlying t = some (.slice e)) (hi : P.info? e = some i) (hz : i.zero = some z)
    (hsize : i.size = 1) (hby : i.bytes = bytes) (hzs : z.cells.size = 1)
    (v : Value) (n : Nat) (xs : List Value) (hs : a.eval s = v) (hown : wr.ownsRow base e 1 v n xs)
    (news : List Value) (c : Nat) (hx : a.eval x = .slice (some ⟨wr.heap.size, 0, none⟩) news.length c) (h1 : ∀ u ∈ news, u.oneCell' = true)
    (hbytes : (n + news.length) * bytes ≤ 140737488355328) (h63 : n + news.length ≤ 9223372036854775807) (hbel : Below w0.heap.size w0 wr) (hbase : w0.heap.size ≤ base) (hb2 : base ≤ wr.heap.size)
    (h : ∀ v' w', w'.ownsRow base e 1 v' (n + news.length) (xs ++ news) → Below w0.heap.size w0 w' → wpList P ops Q rest (a.put o.dst v') w') :
    wpList P ops Q (o :: rest) a (wr.alloc (.cells news.toArray e)) := by
  refine wpList_append_own _ hgd s x t ho base e i z 1 bytes ht hi hz hsize hby hzs (by decide) v n xs hs (hown.alloc _) ⟨wr.heap.size, 0, none⟩ news.length c news hx (by omega) ?_ h1 (by unfold maxLen; omega) hbytes (by simp; omega) ?_
  · intro j u hj
    rw [addr_add, cell_of_row _ wr.heap.size j news.toArray e (0, 0) (heap_alloc_new wr _)]
    simpa using hj
  · intro v' w' hown' hgrow _
    have hsz := hbel.size
    refine h v' w' hown' ((hbel.alloc hsz _).grown hgrow (by simp; omega) ?_)
    intro k hk
    have := (hown.alloc (.cells news.toArray e)).lt k hk
    omega

/-- The same, told with what may have changed: new blocks, and the slice's own block. -/
theorem append_grown {P : Program} (wr : World) {ops : Array Oper} {rest : List Oper} {o : Oper} {a : Act} {Q : Exit → Act → World → Prop} (hgd : o.guard = none) (s x : Operand) (t : TypeId)
    (ho : o.op = .call { callee := .builtin .append, args := #[s, x], argTypes := #[t, t] })
    (base : Nat) (e : TypeId) (i : TypeInfo) (z : Value) (bytes : Nat) (ht : P.underlying t = some (.slice e)) (hi : P.info? e = some i) (hz : i.zero = some z)
    (hsize : i.size = 1) (hby : i.bytes = bytes) (hzs : z.cells.size = 1)
    (v : Value) (n : Nat) (xs : List Value) (hs : a.eval s = v) (hown : wr.ownsRow base e 1 v n xs)
    (news : List Value) (c : Nat) (hx : a.eval x = .slice (some ⟨wr.heap.size, 0, none⟩) news.length c) (h1 : ∀ u ∈ news, u.oneCell' = true)
    (hbytes : (n + news.length) * bytes ≤ 140737488355328) (h63 : n + news.length ≤ 9223372036854775807) (hb2 : base ≤ wr.heap.size)
    (h : ∀ v' w', w'.ownsRow base e 1 v' (n + news.length) (xs ++ news) → wr.grownBy w' v.ownBlock → wpList P ops Q rest (a.put o.dst v') w') :
    wpList P ops Q (o :: rest) a (wr.alloc (.cells news.toArray e)) := by
  refine wpList_append_own _ hgd s x t ho base e i z 1 bytes ht hi hz hsize hby hzs (by decide) v n xs hs (hown.alloc _) ⟨wr.heap.size, 0, none⟩ news.length c news hx (by omega) ?_ h1 (by unfold maxLen; omega) hbytes (by simp; omega) ?_
  · intro j u hj
    rw [addr_add, cell_of_row _ wr.heap.size j news.toArray e (0, 0) (heap_alloc_new wr _)]
    simpa using hj
  · intro v' w' hown' hgrow _
    have hg0 := World.grownBy_alloc wr (.cells news.toArray e) v.ownBlock
    exact h v' w' hown' ⟨hgrow.os.trans hg0.os, hgrow.tape.trans hg0.tape, hgrow.output.trans hg0.output, Nat.le_trans hg0.size hgrow.size, fun k hk hne => (hgrow.block k (Nat.lt_of_lt_of_le hk hg0.size) hne).trans (hg0.block k hk hne)⟩

/-- The same inside a region that draws its order: the world is whatever it is; the new values lie in block g. -/
theorem step_append_at {P : Program} (w0 : World) {ops : Array Oper} {o : Oper} {a : Act} {wx : World} {K : Act → World → Prop} {Q : Exit → Act → World → Prop} {E : Prop}
    (hgd : o.guard = none) (s x : Operand) (t : TypeId) (hop : o.op = Op.call { callee := Callee.builtin Builtin.append, args := #[s, x], argTypes := #[t, t] })
    (base : Nat) (e : TypeId) (i : TypeInfo) (z : Value) (bytes : Nat) (ht : P.underlying t = some (.slice e)) (hi : P.info? e = some i) (hz : i.zero = some z)
    (hsize : i.size = 1) (hby : i.bytes = bytes) (hzs : z.cells.size = 1)
    (v : Value) (n : Nat) (xs : List Value) (hs : a.eval s = v) (hown : wx.ownsRow base e 1 v n xs)
    (news : List Value) (g c : Nat) (hx : a.eval x = .slice (some ⟨g, 0, none⟩) news.length c) (hnews : ∀ j u, news[j]? = some u → wx.cell? ⟨g, j, none⟩ = some u) (h1 : ∀ u ∈ news, u.oneCell' = true)
    (hbytes : (n + news.length) * bytes ≤ 140737488355328) (h63 : n + news.length ≤ 9223372036854775807) (hbel : Below w0.heap.size w0 wx) (hbase : w0.heap.size ≤ base) (hb2 : base ≤ wx.heap.size)
    (hK : ∀ v' w', w'.ownsRow base e 1 v' (n + news.length) (xs ++ news) → Below w0.heap.size w0 w' → K (a.put o.dst v') w') :
    if Region.wanted o (yielded ops a.tmps) = true then Oper.wp P o a wx K Q else E := by
  have hw : Region.wanted o (yielded ops a.tmps) = true := by simp [Region.wanted, hgd]
  rw [if_pos hw]
  refine wp_append_own _ s x t hop base e i z 1 bytes ht hi hz hsize hby hzs (by decide) v n xs hs hown ⟨g, 0, none⟩ news.length c news hx (by omega) ?_ h1 (by unfold maxLen; omega) hbytes hb2 ?_
  · intro j u hj
    rw [addr_add]
    exact hnews j u hj
  · intro v' w' hown' hgrow _
    have hsz := hbel.size
    refine hK v' w' hown' (hbel.grown hgrow hsz ?_)
    intro k hk
    have := hown.lt k hk
    omega
/-- A callee that leaves the world alone, called in a quiet region that stands behind another one. -/
theorem still_again {P : Program} {f : FuncId} {args : Array Value} {w : World} {i j : Nat} {v : Value} (c : ∀ W : World, Calls P f args W fun e w' => e = .returned v ∧ w' = W) :
    Calls P f args (w.drewN (i + j)) fun e w'' => e = .returned v ∧ ∃ m, w'' = w.drewN (i + m) :=
  (c _).mono fun _ _ ⟨he, hw⟩ => ⟨he, j, hw⟩
/-- A step of a string's iterator leaves every owned row owned. -/
theorem owns_iterAt {w : World} {base : Nat} {e : TypeId} {size : Nat} {v : Value} {n : Nat} {xs : List Value} (h : w.ownsRow base e size v n xs) {k : Nat} {s : ByteArray} {p0 : Nat} (hk : w.heap[k]? = some (.stringIter s p0)) (p : Nat) : (w.iterAt k s p).ownsRow base e size v n xs := by
  obtain ⟨h1, h2⟩ := h
  refine ⟨h1, ?_⟩
  rcases h2 with h2 | ⟨g, cap, cur, a, b, c, d⟩
  · exact .inl h2
  · have hne : g ≠ k := fun e => by rw [e, hk] at c; cases c
    exact .inr ⟨g, cap, cur, a, b, by rw [Lib.iterAt_other _ _ _ _ _ hne]; exact c, d⟩
/-- Two new values in a block that was just laid. -/
theorem two_cells (w : World) (e : TypeId) (a b : Value) : ∀ j u, [a, b][j]? = some u → (w.alloc (.cells #[a, b] e)).cell? ⟨w.heap.size, j, none⟩ = some u := by
  intro j u hj
  rw [cell_of_row _ w.heap.size j #[a, b] e (0, 0) (heap_alloc_new w _)]
  simpa using hj
theorem one_cell (w : World) (e : TypeId) (a : Value) : ∀ j u, [a][j]? = some u → (w.alloc (.cells #[a] e)).cell? ⟨w.heap.size, j, none⟩ = some u := by
  intro j u hj
  rw [cell_of_row _ w.heap.size j #[a] e (0, 0) (heap_alloc_new w _)]
  simpa using hj
end Go.Proofs.Ytdgfecjakmdheaa.Plain
/- Slices as lists: what it is that a slice value reads as a list, and that the call owns one; what stays of both from world to world. No conditions beyond those that each fact states. -/
namespace Go.Proofs.Ytdgfecjakmdheaa.Plain
open Go.RowKit

theorem addr_plus (b o j : Nat) : (⟨b, o, none⟩ : Addr).add j = ⟨b, o + j, none⟩ := by unfold Addr.add; split <;> simp_all
theorem set_mid {α : Type} (A C : List α) (b x : α) (n : Nat) (h : A.length = n) : (A ++ b :: C).set n x = A ++ x :: C := by subst h; simp
section
variable {α : Type} {enc : α → Value} {e : TypeId} {w w' : World} {base : Nat} {v : Value} {xs : List α}

/-- In w the slice v holds the list xs, an element a cell. -/
def Lies (enc : α → Value) (w : World) (v : Value) (xs : List α) : Prop :=
  xs.length ≤ 9223372036854775807 ∧ ∃ a cap, v = .slice a xs.length cap ∧ (a = none → cap = 0) ∧ ∀ i x, xs[i]? = some x → ∃ b off, a = some ⟨b, off, none⟩ ∧ w.cell? ⟨b, off + i, none⟩ = some (enc x)
/-- The slice v is the call's own, its block one from base on, and holds the list xs. -/
def Has (enc : α → Value) (e : TypeId) (w : World) (base : Nat) (v : Value) (xs : List α) : Prop := w.ownsRow base e 1 v xs.length (xs.map enc)
/-- A call that hands back a new slice with the list xs. -/
def Gives (enc : α → Value) (e : TypeId) (xs : List α) (w : World) (en : Ending) (w' : World) : Prop := ∃ v, en = .returned v ∧ Has enc e w' w.heap.size v xs ∧ Below w.heap.size w w'

theorem Has.form (h : Has enc e w base v xs) : ∃ a cap, v = .slice a xs.length cap ∧ (0 < xs.length → ∃ g, a = some ⟨g, 0, none⟩) := by
  rcases h.2 with ⟨rfl, hn⟩ | ⟨g, cap, cur, rfl, _⟩
  · exact ⟨none, 0, by rw [hn], fun h => by omega⟩
  · exact ⟨_, cap, rfl, fun _ => ⟨g, rfl⟩⟩
theorem Has.small (h : Has enc e w base v xs) : xs.length ≤ 9223372036854775807 := by
  rcases h.2 with ⟨rfl, hn⟩ | ⟨g, cap, cur, rfl, _, _, hc, hm, _⟩
  · omega
  · unfold maxLen at hm; omega
theorem Has.lies (h : Has enc e w base v xs) : Lies enc w v xs := by
  refine ⟨h.small, ?_⟩
  rcases h.2 with ⟨rfl, hn⟩ | ⟨g, cap, cur, rfl, hb, hg, hc, hm, hs, ht⟩
  · refine ⟨none, 0, by rw [hn], fun _ => rfl, fun i x hx => ?_⟩
    rw [List.eq_nil_of_length_eq_zero hn] at hx
    cases hx
  · refine ⟨_, cap, rfl, fun h => (by cases h), fun i x hx => ⟨g, 0, rfl, ?_⟩⟩
    have hi : i < xs.length := (List.getElem?_eq_some_iff.1 hx).1
    have h2 : w.ownsRow base e 1 (.slice (some ⟨g, 0, none⟩) xs.length cap) xs.length (xs.map enc) := h
    rw [Nat.zero_add, h2.cellAt i (by omega)]
    simp [hx]
theorem Lies.keep (h : Lies enc w v xs) (hk : ∀ k, v.ownBlock = some k → k < w.heap.size → w'.heap[k]? = w.heap[k]?) : Lies enc w' v xs := by
  obtain ⟨hl, a, cap, rfl, hn, hc⟩ := h
  refine ⟨hl, a, cap, rfl, hn, fun i x hx => ?_⟩
  obtain ⟨b, off, rfl, hcell⟩ := hc i x hx
  have hb : b < w.heap.size := World.block_lt_of_cell? w _ hcell
  exact ⟨b, off, rfl, by rw [← hcell]; exact World.cell?_of_block (hk b rfl hb)⟩
/-- What was there when the call began is there still. -/
theorem Lies.below (h : Lies enc w v xs) (hb : Below w.heap.size w w') : Lies enc w' v xs := h.keep fun k _ hk => hb.block k hk
theorem Lies.grown {row : Option Nat} (h : Lies enc w v xs) (hg : w.grownBy w' row) (hr : v.ownBlock = none ∨ v.ownBlock ≠ row) : Lies enc w' v xs :=
  h.keep fun k hk hlt => hg.block k hlt (by rintro rfl; simp [hk] at hr)
theorem Has.mono {base' : Nat} (h : Has enc e w base v xs) (hb : base' ≤ base) : Has enc e w base' v xs := ⟨h.1, h.2.imp id fun ⟨g, cap, cur, h1, h2, r⟩ => ⟨g, cap, cur, h1, Nat.le_trans hb h2, r⟩⟩
theorem Has.lt (h : Has enc e w base v xs) : ∀ k, v.ownBlock = some k → base ≤ k ∧ k < w.heap.size := World.ownsRow.lt h
theorem grown_of_below (hb : Below w.heap.size w w') : w.grownBy w' none := ⟨hb.os, hb.tape, hb.output, hb.size, fun k hk _ => hb.block k hk⟩
theorem below_of_grown (hb : w.grownBy w' none) : Below w.heap.size w w' := ⟨hb.os, hb.tape, hb.output, hb.size, fun k hk => hb.block k hk (by simp)⟩
theorem Has.below (h : Has enc e w base v xs) (hb : Below w.heap.size w w') : Has enc e w' base v xs := World.ownsRow.kept h (grown_of_below hb) (by cases v.ownBlock <;> simp)
theorem Has.grown {row : Option Nat} (h : Has enc e w base v xs) (hg : w.grownBy w' row) (hr : v.ownBlock = none ∨ v.ownBlock ≠ row) : Has enc e w' base v xs := World.ownsRow.kept h hg hr
/-- Two slices of the call's own that were made one behind the other share no block. -/
theorem Has.apart {β : Type} {enc' : β → Value} {e' : TypeId} {u : Value} {ys : List β} {b' : Nat} {w1 : World} (h : Has enc e w base v xs) (h' : Has enc' e' w1 b' u ys) (hb : w.heap.size ≤ b') :
    (u.ownBlock = none ∨ u.ownBlock ≠ v.ownBlock) ∧ (v.ownBlock = none ∨ v.ownBlock ≠ u.ownBlock) := by
  have h1 := h.lt
  have h2 := h'.lt
  cases hv : v.ownBlock with
  | none => exact ⟨by cases hu : u.ownBlock <;> simp, .inl rfl⟩
  | some p =>
    cases hu : u.ownBlock with
    | none => exact ⟨.inl rfl, .inr (by simp)⟩
    | some q =>
      have := h1 p hv
      have := h2 q hu
      exact ⟨.inr (by simp; omega), .inr (by simp; omega)⟩
theorem grown_trans' {w2 : World} {r : Option Nat} (h : w.grownBy w' r) (k : w'.grownBy w2 r) : w.grownBy w2 r :=
  ⟨k.os.trans h.os, k.tape.trans h.tape, k.output.trans h.output, Nat.le_trans h.size k.size, fun i hi hne => (k.block i (Nat.lt_of_lt_of_le hi h.size) hne).trans (h.block i hi hne)⟩
/-- What is written into a slice of the call's own touches nothing below. -/
theorem Has.frame {w0 : World} (h : Has enc e w base v xs) (hb : Below w0.heap.size w0 w) (hB : w0.heap.size ≤ base) (hg : w.grownBy w' v.ownBlock) : Below w0.heap.size w0 w' :=
  hb.grown hg hb.size (fun k hk => Nat.le_trans hB (h.lt k hk).1)
/-- 'append(v, u...)', v a slice of the call's own, u any slice. -/
theorem append_lies {P : Program} (w : World) {ops : Array Oper} {rest : List Oper} {o : Oper} {a : Act} {Q : Exit → Act → World → Prop} (hgd : o.guard = none) (s x : Operand) (t : TypeId)
    (ho : o.op = .call { callee := .builtin .append, args := #[s, x], argTypes := #[t, t] })
    (base : Nat) (i : TypeInfo) (z : Value) (bytes : Nat) (ht : P.underlying t = some (.slice e)) (hi : P.info? e = some i) (hz : i.zero = some z)
    (hsize : i.size = 1) (hby : i.bytes = bytes) (hzs : z.cells.size = 1)
    (v : Value) (xs : List α) (hs : a.eval s = v) (hown : Has enc e w base v xs) (u : Value) (ys : List α) (hx : a.eval x = u) (hu : Lies enc w u ys)
    (h1 : ∀ y : α, (enc y).oneCell' = true) (hbytes : (xs.length + ys.length) * bytes ≤ 140737488355328) (h63 : xs.length + ys.length ≤ 9223372036854775807) (hb2 : base ≤ w.heap.size)
    (h : ∀ v' w', Has enc e w' base v' (xs ++ ys) → w.grownBy w' v.ownBlock → wpList P ops Q rest (a.put o.dst v') w') :
    wpList P ops Q (o :: rest) a w := by
  obtain ⟨hl, A, cap, rfl, hnone, hc⟩ := hu
  have hh : ∀ v' w', w'.ownsRow base e 1 v' (xs.length + ys.length) (xs.map enc ++ ys.map enc) → w.grownBy w' v.ownBlock → wpList P ops Q rest (a.put o.dst v') w' := by
    intro v' w' ho' hg'
    refine h v' w' ?_ hg'
    show w'.ownsRow base e 1 v' _ _
    rw [List.length_append, List.map_append]
    exact ho'
  cases A with
  | none =>
    obtain rfl := hnone rfl
    have hy : ys = [] := by
      cases ys with
      | nil => rfl
      | cons y l => obtain ⟨_, _, h', _⟩ := hc 0 y rfl; cases h'
    subst hy
    exact wpList_append_own_none hgd s x t ho base e i 1 ht hi v xs.length (xs.map enc) hs hown hx (hh v w (by simpa [Has] using hown) (World.grownBy.refl w _))
  | some ad =>
    refine wpList_append_own w hgd s x t ho base e i z 1 bytes ht hi hz hsize hby hzs (by decide) v xs.length (xs.map enc) hs hown ad ys.length cap (ys.map enc) hx (by simp) ?_ ?_ (by unfold maxLen; omega) hbytes hb2 (fun v' w' h1 h2 _ => hh v' w' h1 h2)
    · intro j y hj
      rw [List.getElem?_map, Option.map_eq_some_iff] at hj
      obtain ⟨x', hx', rfl⟩ := hj
      obtain ⟨b, off, he, hcell⟩ := hc j x' hx'
      obtain rfl := Option.some.inj he
      rw [addr_plus]
      exact hcell
    · intro y hy
      obtain ⟨x', _, rfl⟩ := List.mem_map.1 hy
      exact h1 x'
/-- A slice literal that has just been laid. -/
theorem Has.lit (w : World) (cs : List α) (hb : base ≤ w.heap.size) (hm : cs.length ≤ 9223372036854775807) : Has enc e (w.alloc (.cells (cs.map enc).toArray e)) base (.slice (some ⟨w.heap.size, 0, none⟩) cs.length cs.length) cs := by
  have := World.ownsRow_lit (base := base) (e := e) (size := 1) w (cs.map enc).toArray cs.length hb (by unfold maxLen; omega) (by simp)
  simpa [Has] using this
/-- 'v = append(v, x)', v a slice of the call's own; the new value lies in a block that the statement has just laid. -/
theorem append_one {P : Program} (wr : World) {ops : Array Oper} {rest : List Oper} {o : Oper} {a : Act} {Q : Exit → Act → World → Prop} (hgd : o.guard = none) (s x : Operand) (t : TypeId)
    (ho : o.op = .call { callee := .builtin .append, args := #[s, x], argTypes := #[t, t] })
    (base : Nat) (i : TypeInfo) (z : Value) (bytes : Nat) (ht : P.underlying t = some (.slice e)) (hi : P.info? e = some i) (hz : i.zero = some z)
    (hsize : i.size = 1) (hby : i.bytes = bytes) (hzs : z.cells.size = 1)
    (v : Value) (xs : List α) (hs : a.eval s = v) (hown : Has enc e wr base v xs) (y : α) (hx : a.eval x = .slice (some ⟨wr.heap.size, 0, none⟩) 1 1)
    (h1 : ∀ y : α, (enc y).oneCell' = true) (hbytes : (xs.length + 1) * bytes ≤ 140737488355328) (h63 : xs.length + 1 ≤ 9223372036854775807) (hb2 : base ≤ wr.heap.size)
    (h : ∀ v' w', Has enc e w' base v' (xs ++ [y]) → wr.grownBy w' v.ownBlock → wpList P ops Q rest (a.put o.dst v') w') :
    wpList P ops Q (o :: rest) a (wr.alloc (.cells #[enc y] e)) := by
  have hlit : Has enc e (wr.alloc (.cells #[enc y] e)) wr.heap.size (.slice (some ⟨wr.heap.size, 0, none⟩) 1 1) [y] := Has.lit (enc := enc) (e := e) wr [y] (Nat.le_refl _) (by simp)
  refine append_lies (enc := enc) (e := e) _ hgd s x t ho base i z bytes ht hi hz hsize hby hzs v xs hs (hown.below ((Below.refl _ _).alloc (Nat.le_refl _) _)) _ [y] hx hlit.lies h1 hbytes h63 (by simp; omega) ?_
  intro v' w' ho' hg
  have hg0 := World.grownBy_alloc wr (.cells #[enc y] e) v.ownBlock
  exact h v' w' ho' (grown_trans' hg0 hg)
theorem take_mid {β : Type} (X R cs : List β) (off k : Nat) (hk : cs.length = k) (hf : off + k ≤ X.length) : ((X ++ R).take off ++ (cs ++ (X ++ R).drop (off + k))).take X.length = X.take off ++ (cs ++ X.drop (off + k)) := by
  have e1 : (X ++ R).take off = X.take off := List.take_append_of_le_length (by omega)
  have e2 : (X ++ R).drop (off + k) = X.drop (off + k) ++ R := List.drop_append_of_le_length hf
  rw [e1, e2]
  have h : X.length = (X.take off ++ (cs ++ X.drop (off + k))).length := by simp; omega
  rw [← List.append_assoc cs, ← List.append_assoc (X.take off), h]
  exact List.take_left
/-- 'copy(d, u)', d a part of a slice of the call's own, u any slice: k elements are laid over it from place off on. -/
theorem copy_has {P : Program} {w : World} {ops : Array Oper} {rest : List Oper} {o : Oper} {a : Act} {Q : Exit → Act → World → Prop} (hgd : o.guard = none) (d s : Operand) (dT sT : TypeId)
    (ho : o.op = .call { callee := .builtin .copy, args := #[d, s], argTypes := #[dT, sT] }) (hu : P.underlying dT = some (.slice e)) (hsz : (P.info? e).map (·.size) = some 1)
    (g n cap : Nat) (xs : List α) (hown : Has enc e w base (.slice (some ⟨g, 0, none⟩) n cap) xs)
    (dp : Option Addr) (dLen dCap : Nat) (hd : a.eval d = .slice dp dLen dCap) (u : Value) (ys : List α) (hs : a.eval s = u) (hl : Lies enc w u ys) (h1 : ∀ y : α, (enc y).oneCell' = true)
    (off k : Nat) (hk : k = min ys.length dLen) (hdp : 0 < k → dp = some ⟨g, off, none⟩) (hfit : off + k ≤ xs.length)
    (h : ∀ w', Has enc e w' base (.slice (some ⟨g, 0, none⟩) n cap) (xs.take off ++ (ys.take k ++ xs.drop (off + k))) → w.grownBy w' (some g) → wpList P ops Q rest (a.put o.dst (goInt k)) w') :
    wpList P ops Q (o :: rest) a w := by
  obtain ⟨_, A, c2, rfl, hnone, hc⟩ := hl
  rcases Nat.eq_zero_or_pos k with h0 | h0
  · subst h0
    refine wpList_copy_nothing hgd d s dT sT ho e hu hsz dp A dLen dCap ys.length c2 hd hs hk.symm ?_
    exact h w (by simpa [List.take_append_drop] using hown) (World.grownBy.refl _ _)
  · obtain rfl := hdp h0
    obtain ⟨y0, hy0⟩ : ∃ y, ys[0]? = some y := ⟨ys[0]'(by omega), List.getElem?_eq_getElem (by omega)⟩
    obtain ⟨b, o2, rfl, _⟩ := hc 0 y0 hy0
    have hown2 := hown
    rcases hown.2 with ⟨hv, _⟩ | ⟨g', cap', cur, hv, hbase, hg, hnc, hcm, hcs, htake⟩
    · cases hv
    · injection hv with e1 e2 e3
      injection e1 with e1
      injection e1 with e1
      subst e1; subst e3
      have hcs' : ((ys.take k).map enc).length = k := by simp; omega
      have hX : (xs.map enc).length = xs.length := by simp
      have hcur : cur.toList = xs.map enc ++ cur.toList.drop xs.length := by
        rw [Nat.mul_one] at htake
        rw [← htake, List.take_append_drop]
      have hlen : cur.toList.length = cap := by rw [Array.length_toList]; omega
      refine wpList_copy_own hgd d s dT sT ho e hu hsz g off dLen dCap ⟨b, o2, none⟩ ys.length c2 hd hs cur e hg ((ys.take k).map enc) (by rw [hcs', hk]) ?_ (by rw [hcs']; omega) ?_ ?_
      · intro j y hj
        rw [List.getElem?_map, List.getElem?_take] at hj
        split at hj
        · rw [Option.map_eq_some_iff] at hj
          obtain ⟨x', hx', rfl⟩ := hj
          obtain ⟨b', o', he, hcell⟩ := hc j x' hx'
          injection he with he
          injection he with he1 he2
          subst he1; subst he2
          rw [addr_plus]
          exact hcell
        · cases hj
      · intro y hy
        obtain ⟨x', _, rfl⟩ := List.mem_map.1 hy
        exact h1 x'
      · rw [hcs']
        subst e2
        have hl2 : (xs.take off ++ (ys.take k ++ xs.drop (off + k))).length = xs.length := by
          rw [List.length_append, List.length_append, List.length_take, List.length_take, List.length_drop]; omega
        have hsz2 : (cur.toList.take off ++ ((ys.take k).map enc ++ cur.toList.drop (off + k))).length = cap := by
          rw [List.length_append, List.length_append, hcs', List.length_take, List.length_drop, hlen]; omega
        refine h _ ?_ ⟨rfl, rfl, rfl, Nat.le_of_eq (size_setRow w g _).symm, fun i _ hi => setRow_other w g i _ (fun he => hi (by rw [he]))⟩
        show World.ownsRow _ base e 1 _ _ _
        rw [hl2]
        refine ⟨by rw [List.length_map, hl2, Nat.mul_one], .inr ⟨g, cap, _, rfl, hbase, setRow_heap w g cur _ e _ hg, by omega, hcm, by rw [List.size_toArray, hsz2, Nat.mul_one], ?_⟩⟩
        rw [Nat.mul_one]
        show (cur.toList.take off ++ ((ys.take k).map enc ++ cur.toList.drop (off + k))).take xs.length = _
        rw [hcur, ← hX, take_mid (xs.map enc) _ ((ys.take k).map enc) off k hcs' (by omega)]
        simp [List.map_take, List.map_drop]
end
end Go.Proofs.Ytdgfecjakmdheaa.Plain
/- Contracts of the exact laws' own helpers on slices of ints: copying one, comparing two, writing marks into one, asking for the marks. No conditions beyond those that each states. -/
namespace Go.Proofs.Ytdgfecjakmdheaa
open Go.ChangeShapes Go.WideShapes Go.ChangeAt Go.RowKit
open Go.PlainAid Plain
set_option linter.unusedVariables false
namespace Ints
theorem infoI : (Try.prog.info? 3).map (fun i => (i.zero, i.size, i.bytes)) = some (some (.int .i64 0), 1, 8) := by kernel_rfl
/-- n marks from k on. -/
def marks (k : Int) (n : Nat) : List Int := (List.range n).map (fun j : Nat => k + j)
theorem marks_len (k : Int) (n : Nat) : (marks k n).length = n := by simp [marks]
theorem marks_at (k : Int) (n i : Nat) (h : i < n) : (marks k n)[i]? = some (k + i) := by simp [marks, h]
theorem marks_succ (k : Int) (n : Nat) : marks k (n + 1) = marks k n ++ [k + n] := by simp [marks, List.range_succ]
theorem marks_set (k : Int) (i : Nat) (xs : List Int) (h : i < xs.length) : ((marks k i ++ xs.drop i).map (Value.int .i64)).set i (.int .i64 (k + i)) = (marks k (i + 1) ++ xs.drop (i + 1)).map (Value.int .i64) := by
  rw [List.drop_eq_getElem_cons h, List.map_append, List.map_cons, set_mid _ _ _ _ i (by rw [List.length_map, marks_len]), marks_succ, List.append_assoc, List.map_append]
  rfl
theorem take_set (xs : List Int) (i : Nat) (h : i < xs.length) : ((xs.take i ++ List.replicate (xs.length - i) (0 : Int)).map (Value.int .i64)).set i (.int .i64 xs[i]) = (xs.take (i + 1) ++ List.replicate (xs.length - (i + 1)) (0 : Int)).map (Value.int .i64) := by
  rw [show xs.length - i = (xs.length - (i + 1)) + 1 from by omega, List.replicate_succ, List.map_append, List.map_cons, set_mid _ _ _ _ i (by rw [List.length_map, List.length_take]; omega), List.take_succ_eq_append_getElem h, List.append_assoc, List.map_append]
  rfl
theorem zero_made (a : Nat) : (madeCells (Value.int .i64 0).cells (a * 1)).toList = (List.replicate a (0 : Int)).map (Value.int .i64) := by
  rw [show (Value.int .i64 0).cells = #[Value.int .i64 0] from rfl, toList_madeCells_one]
  simp
theorem made_has {w1 : World} {base n : Nat} {v : Value} (h : w1.ownsRow base 3 1 v n (madeCells (Value.int .i64 0).cells (n * 1)).toList) : Has (Value.int .i64) 3 w1 base v (List.replicate n 0) := by
  rw [zero_made] at h
  show w1.ownsRow _ _ _ _ _ _
  rw [List.length_replicate]
  exact h
theorem size_i : (Try.prog.info? 3).map (·.size) = some 1 := by kernel_rfl
/-- A slice of ints that came in. -/
theorem lies_of_row {w : World} {a : Option Addr} {len cap : Nat} {zs : List Int}
    (h : (a = none ∧ len = 0 ∧ cap = 0 ∧ zs = []) ∨ ∃ x, a = some x ∧ len ≤ cap ∧ cap ≤ maxLen ∧ zs.length = cap ∧ (∀ i, i < zs.length → w.cell? (x.add i) = some (.int .i64 (zs.getD i 0))) ∧ ∀ n ∈ zs, (Lit.int .i64 n).wf = true) :
    ∃ xs : List Int, len = xs.length ∧ Lies (Value.int .i64) w (.slice a xs.length cap) xs := by
  rcases h with ⟨rfl, rfl, rfl, rfl⟩ | ⟨x, rfl, hl, hm, hz, hcell, _⟩
  · exact ⟨[], rfl, by simp, none, 0, rfl, fun _ => rfl, fun i x hx => by cases hx⟩
  · have hlen : (zs.take len).length = len := by rw [List.length_take]; omega
    refine ⟨zs.take len, hlen.symm, by rw [hlen]; unfold maxLen at hm; omega, some x, cap, rfl, (fun h => by cases h), fun i y hy => ?_⟩
    rw [List.getElem?_take] at hy
    split at hy
    · have hi : i < zs.length := (List.getElem?_eq_some_iff.1 hy).1
      have hc := hcell i hi
      obtain ⟨b, off, spot⟩ := x
      have h0 := hcell 0 (by omega)
      obtain rfl : spot = none := by simpa [Addr.add] using World.cell?_spot h0
      rw [addr_plus] at hc
      rw [show zs.getD i 0 = y from by simp [List.getD, hy]] at hc
      exact ⟨b, off, rfl, hc⟩
    · cases hy
end Ints
end Go.Proofs.Ytdgfecjakmdheaa
/- Slices of slices of ints and sequences as lists: what it is that such a value reads as lists, and that the call owns all of it in an interval of blocks; what stays of both from world to world. No conditions beyond those that each fact states. -/
namespace Go.Proofs.Ytdgfecjakmdheaa.Plain
open Go.RowKit

/-- Only new blocks, and writes into blocks of the listed slices. -/
structure Wrote (us : List Value) (w w' : World) : Prop where
  os : w'.os = w.os
  tape : w'.tape = w.tape
  output : w'.output = w.output
  size : w.heap.size ≤ w'.heap.size
  block : ∀ k, k < w.heap.size → (∀ u ∈ us, u.ownBlock ≠ some k) → w'.heap[k]? = w.heap[k]?
theorem Wrote.refl (us : List Value) (w : World) : Wrote us w w := ⟨rfl, rfl, rfl, Nat.le_refl _, fun _ _ _ => rfl⟩
theorem Wrote.trans {us : List Value} {a b c : World} (h : Wrote us a b) (k : Wrote us b c) : Wrote us a c :=
  ⟨k.os.trans h.os, k.tape.trans h.tape, k.output.trans h.output, Nat.le_trans h.size k.size, fun i hi hn => (k.block i (Nat.lt_of_lt_of_le hi h.size) hn).trans (h.block i hi hn)⟩
theorem Wrote.mono {us us' : List Value} {w w' : World} (h : Wrote us w w') (hs : ∀ u ∈ us, u ∈ us') : Wrote us' w w' := ⟨h.os, h.tape, h.output, h.size, fun k hk hn => h.block k hk fun u hu => hn u (hs u hu)⟩
theorem Wrote.of_grown {w w' : World} {v : Value} (h : w.grownBy w' v.ownBlock) : Wrote [v] w w' := ⟨h.os, h.tape, h.output, h.size, fun k hk hn => h.block k hk fun e => hn v (by simp) e.symm⟩
theorem Wrote.of_below {us : List Value} {w w' : World} (h : Below w.heap.size w w') : Wrote us w w' := ⟨h.os, h.tape, h.output, h.size, fun k hk _ => h.block k hk⟩

/-- Only new blocks, and writes into the blocks from lo to hi. -/
structure Touch (lo hi : Nat) (w w' : World) : Prop where
  os : w'.os = w.os
  tape : w'.tape = w.tape
  output : w'.output = w.output
  size : w.heap.size ≤ w'.heap.size
  block : ∀ k, k < w.heap.size → (k < lo ∨ hi ≤ k) → w'.heap[k]? = w.heap[k]?
theorem Touch.trans {lo hi : Nat} {a b c : World} (h : Touch lo hi a b) (k : Touch lo hi b c) : Touch lo hi a c :=
  ⟨k.os.trans h.os, k.tape.trans h.tape, k.output.trans h.output, Nat.le_trans h.size k.size, fun i hi hn => (k.block i (Nat.lt_of_lt_of_le hi h.size) hn).trans (h.block i hi hn)⟩
theorem Touch.of_wrote {us : List Value} {lo hi : Nat} {w w' : World} (h : Wrote us w w') (hu : ∀ u ∈ us, ∀ k, u.ownBlock = some k → lo ≤ k ∧ k < hi) : Touch lo hi w w' :=
  ⟨h.os, h.tape, h.output, h.size, fun k hk hn => h.block k hk fun u hu' e => by have := hu u hu' k e; omega⟩
theorem Touch.below {lo hi : Nat} {w0 w w' : World} (h : Touch lo hi w w') (hb : Below w0.heap.size w0 w) (hlo : w0.heap.size ≤ lo) : Below w0.heap.size w0 w' :=
  ⟨h.os.trans hb.os, h.tape.trans hb.tape, h.output.trans hb.output, Nat.le_trans hb.size h.size, fun k hk => (h.block k (Nat.lt_of_lt_of_le hk hb.size) (.inl (by omega))).trans (hb.block k hk)⟩

theorem Touch.of_set {lo hi : Nat} {w : World} {a : Addr} (v : Value) (h1 : lo ≤ a.block) (h2 : a.block < hi) : Touch lo hi w (w.setCell a v) :=
  ⟨rfl, rfl, rfl, by simp [World.setCell], fun k _ hn => by
    have : a.block ≠ k := by omega
    simp [World.setCell, Array.getElem?_modify, this]⟩
/-- A slice of ints of the call's own, its block from lo to hi. -/
structure OwnI (w : World) (lo hi : Nat) (v : Value) (xs : List Int) : Prop where
  has : Has (Value.int .i64) 3 w lo v xs
  lt : ∀ k, v.ownBlock = some k → k < hi
  le : hi ≤ w.heap.size
theorem Has.of_same {α : Type} {enc : α → Value} {e : TypeId} {w w' : World} {base : Nat} {v : Value} {xs : List α} (h : Has enc e w base v xs) (hk : ∀ k, v.ownBlock = some k → w'.heap[k]? = w.heap[k]?) : Has enc e w' base v xs :=
  ⟨h.1, h.2.imp id fun ⟨g, cap, cur, h1, h2, h3, r⟩ => ⟨g, cap, cur, h1, h2, (hk g (by rw [h1]; rfl)).trans h3, r⟩⟩
theorem OwnI.lies {w : World} {lo hi : Nat} {v : Value} {xs : List Int} (h : OwnI w lo hi v xs) : Lies (Value.int .i64) w v xs := h.has.lies
theorem OwnI.range {w : World} {lo hi : Nat} {v : Value} {xs : List Int} (h : OwnI w lo hi v xs) : ∀ k, v.ownBlock = some k → lo ≤ k ∧ k < hi := fun k hk => ⟨(h.has.lt k hk).1, h.lt k hk⟩
theorem OwnI.below {w w' : World} {lo hi : Nat} {v : Value} {xs : List Int} (h : OwnI w lo hi v xs) (hb : Below w.heap.size w w') : OwnI w' lo hi v xs := ⟨h.has.below hb, h.lt, Nat.le_trans h.le hb.size⟩
theorem OwnI.touch {w w' : World} {lo hi lo' hi' : Nat} {v : Value} {xs : List Int} (h : OwnI w lo hi v xs) (ht : Touch lo' hi' w w') (hd : hi ≤ lo' ∨ hi' ≤ lo) : OwnI w' lo hi v xs :=
  ⟨h.has.of_same fun k hk => ht.block k (h.has.lt k hk).2 (by have := h.range k hk; omega), h.lt, Nat.le_trans h.le ht.size⟩
theorem OwnI.wrote {w w' : World} {lo hi : Nat} {v : Value} {xs : List Int} {us : List Value} (h : OwnI w lo hi v xs) (hw : Wrote us w w') (hn : ∀ u ∈ us, v.ownBlock = none ∨ v.ownBlock ≠ u.ownBlock) : OwnI w' lo hi v xs :=
  ⟨h.has.of_same fun k hk => hw.block k (h.has.lt k hk).2 (fun u hu e => by rcases hn u hu with h1 | h1 <;> simp_all), h.lt, Nat.le_trans h.le hw.size⟩
theorem OwnI.mono {w : World} {lo hi lo' hi' : Nat} {v : Value} {xs : List Int} (h : OwnI w lo hi v xs) (h1 : lo' ≤ lo) (h2 : hi ≤ hi') (h3 : hi' ≤ w.heap.size) : OwnI w lo' hi' v xs := ⟨h.has.mono h1, fun k hk => Nat.lt_of_lt_of_le (h.lt k hk) h2, h3⟩
theorem OwnI.of_gives {w w' : World} {v : Value} {xs : List Int} (h : Has (Value.int .i64) 3 w' w.heap.size v xs) : OwnI w' w.heap.size w'.heap.size v xs := ⟨h, fun k hk => (h.lt k hk).2, Nat.le_refl _⟩

/-- Rows of ints of the call's own, no two in one block. -/
structure OwnRows (w : World) (lo hi : Nat) (us : List Value) (rows : List (List Int)) : Prop where
  len : us.length = rows.length
  row : ∀ (i : Nat) (u : Value) (r : List Int), us[i]? = some u → rows[i]? = some r → OwnI w lo hi u r
  apart : ∀ (i j : Nat) (u u' : Value), us[i]? = some u → us[j]? = some u' → i ≠ j → u.ownBlock = none ∨ u.ownBlock ≠ u'.ownBlock
/-- In w the slice v holds the rows. -/
def LiesR (w : World) (v : Value) (rows : List (List Int)) : Prop := ∃ us : List Value, Lies id w v us ∧ us.length = rows.length ∧ ∀ (i : Nat) (u : Value) (r : List Int), us[i]? = some u → rows[i]? = some r → Lies (Value.int .i64) w u r
/-- In w the value v is the sequence with base b, the next states rows and the terms out. -/
def LiesS (w : World) (v : Value) (b : Int) (rows : List (List Int)) (out : List Int) : Prop := ∃ vn vo, v = .agg #[.int .i64 b, vn, vo] ∧ LiesR w vn rows ∧ Lies (Value.int .i64) w vo out
/-- The slice v of rows is the call's own, whole, in the blocks from lo to hi; us are the rows' values. -/
structure OwnR (w : World) (lo hi : Nat) (v : Value) (us : List Value) (rows : List (List Int)) : Prop where
  top : Has id 25 w lo v us
  lt : ∀ k, v.ownBlock = some k → k < hi
  le : hi ≤ w.heap.size
  rows : OwnRows w lo hi us rows
/-- The sequence v is the call's own, whole, in the blocks from lo to hi. -/
def OwnS (w : World) (lo hi : Nat) (v : Value) (b : Int) (rows : List (List Int)) (out : List Int) : Prop :=
  ∃ vn vo us, v = .agg #[.int .i64 b, vn, vo] ∧ OwnR w lo hi vn us rows ∧ OwnRows w lo hi (us ++ [vo]) (rows ++ [out])

theorem LiesR.below {w w' : World} {v : Value} {rows : List (List Int)} (h : LiesR w v rows) (hb : Below w.heap.size w w') : LiesR w' v rows := by
  obtain ⟨us, h1, h2, h3⟩ := h
  exact ⟨us, h1.below hb, h2, fun i u r hu hr => (h3 i u r hu hr).below hb⟩
theorem LiesS.below {w w' : World} {v : Value} {b : Int} {rows : List (List Int)} {out : List Int} (h : LiesS w v b rows out) (hb : Below w.heap.size w w') : LiesS w' v b rows out := by
  obtain ⟨vn, vo, h1, h2, h3⟩ := h
  exact ⟨vn, vo, h1, h2.below hb, h3.below hb⟩
theorem OwnRows.lies {w : World} {lo hi : Nat} {v : Value} {us : List Value} {rows : List (List Int)} (h : OwnRows w lo hi us rows) (ht : Lies id w v us) : LiesR w v rows := ⟨us, ht, h.len, fun i u r hu hr => (h.row i u r hu hr).lies⟩
theorem OwnR.lies {w : World} {lo hi : Nat} {v : Value} {us : List Value} {rows : List (List Int)} (h : OwnR w lo hi v us rows) : LiesR w v rows := h.rows.lies h.top.lies
theorem OwnRows.last {w : World} {lo hi : Nat} {us : List Value} {rows : List (List Int)} {vo : Value} {out : List Int} (h : OwnRows w lo hi (us ++ [vo]) (rows ++ [out])) : OwnI w lo hi vo out := by
  have hl : us.length = rows.length := by have := h.len; simpa using this
  exact h.row us.length vo out (by simp) (by rw [hl]; simp)
theorem OwnS.lies {w : World} {lo hi : Nat} {v : Value} {b : Int} {rows : List (List Int)} {out : List Int} (h : OwnS w lo hi v b rows out) : LiesS w v b rows out := by
  obtain ⟨vn, vo, us, h1, h2, h3⟩ := h
  exact ⟨vn, vo, h1, h2.lies, h3.last.lies⟩
theorem OwnRows.below {w w' : World} {lo hi : Nat} {us : List Value} {rows : List (List Int)} (h : OwnRows w lo hi us rows) (hb : Below w.heap.size w w') : OwnRows w' lo hi us rows := ⟨h.len, fun i u r hu hr => (h.row i u r hu hr).below hb, h.apart⟩
theorem OwnRows.touch {w w' : World} {lo hi lo' hi' : Nat} {us : List Value} {rows : List (List Int)} (h : OwnRows w lo hi us rows) (ht : Touch lo' hi' w w') (hd : hi ≤ lo' ∨ hi' ≤ lo) : OwnRows w' lo hi us rows := ⟨h.len, fun i u r hu hr => (h.row i u r hu hr).touch ht hd, h.apart⟩
theorem OwnR.below {w w' : World} {lo hi : Nat} {v : Value} {us : List Value} {rows : List (List Int)} (h : OwnR w lo hi v us rows) (hb : Below w.heap.size w w') : OwnR w' lo hi v us rows := ⟨h.top.below hb, h.lt, Nat.le_trans h.le hb.size, h.rows.below hb⟩
theorem OwnR.touch {w w' : World} {lo hi lo' hi' : Nat} {v : Value} {us : List Value} {rows : List (List Int)} (h : OwnR w lo hi v us rows) (ht : Touch lo' hi' w w') (hd : hi ≤ lo' ∨ hi' ≤ lo) : OwnR w' lo hi v us rows :=
  ⟨h.top.of_same fun k hk => ht.block k (h.top.lt k hk).2 (by have := (h.top.lt k hk).1; have := h.lt k hk; omega), h.lt, Nat.le_trans h.le ht.size, h.rows.touch ht hd⟩
theorem OwnS.below {w w' : World} {lo hi : Nat} {v : Value} {b : Int} {rows : List (List Int)} {out : List Int} (h : OwnS w lo hi v b rows out) (hb : Below w.heap.size w w') : OwnS w' lo hi v b rows out := by
  obtain ⟨vn, vo, us, h1, h2, h3⟩ := h
  exact ⟨vn, vo, us, h1, h2.below hb, h3.below hb⟩
theorem OwnS.touch {w w' : World} {lo hi lo' hi' : Nat} {v : Value} {b : Int} {rows : List (List Int)} {out : List Int} (h : OwnS w lo hi v b rows out) (ht : Touch lo' hi' w w') (hd : hi ≤ lo' ∨ hi' ≤ lo) : OwnS w' lo hi v b rows out := by
  obtain ⟨vn, vo, us, h1, h2, h3⟩ := h
  exact ⟨vn, vo, us, h1, h2.touch ht hd, h3.touch ht hd⟩
theorem OwnS.le {w : World} {lo hi : Nat} {v : Value} {b : Int} {rows : List (List Int)} {out : List Int} (h : OwnS w lo hi v b rows out) : hi ≤ w.heap.size := by
  obtain ⟨vn, vo, us, h1, h2, h3⟩ := h
  exact h2.le
/-- A row that the rows do not hold yet. -/
theorem OwnRows.snoc {w : World} {lo hi hi' : Nat} {us : List Value} {rows : List (List Int)} {u : Value} {r : List Int} (h : OwnRows w lo hi us rows) (hu : OwnI w hi hi' u r) (hlo : lo ≤ hi) (hle : hi ≤ hi') : OwnRows w lo hi' (us ++ [u]) (rows ++ [r]) := by
  refine ⟨by simp [h.len], fun i x y hx hy => ?_, fun i j x x' hx hx' hij => ?_⟩
  · by_cases hi' : i < us.length
    · rw [List.getElem?_append_left hi'] at hx
      rw [List.getElem?_append_left (by rw [← h.len]; exact hi')] at hy
      exact (h.row i x y hx hy).mono (Nat.le_refl _) hle hu.le
    · have e1 : i = us.length := by have := (List.getElem?_eq_some_iff.1 hx).1; simp at this; omega
      subst e1
      rw [List.getElem?_append_right (Nat.le_refl _)] at hx
      rw [h.len, List.getElem?_append_right (Nat.le_refl _)] at hy
      simp at hx hy
      subst hx; subst hy
      exact hu.mono hlo (Nat.le_refl _) hu.le
  · have old : ∀ (i : Nat) (x : Value), us[i]? = some x → ∀ k, x.ownBlock = some k → k < hi := fun i x hx k hk => by
      obtain ⟨r', hr'⟩ : ∃ r', rows[i]? = some r' := ⟨_, List.getElem?_eq_getElem (by rw [← h.len]; exact (List.getElem?_eq_some_iff.1 hx).1)⟩
      exact (h.row i x r' hx hr').lt k hk
    have new : ∀ k, u.ownBlock = some k → hi ≤ k := fun k hk => (hu.range k hk).1
    have at_ : ∀ (i : Nat) (x : Value), (us ++ [u])[i]? = some x → (i < us.length ∧ us[i]? = some x) ∨ (i = us.length ∧ x = u) := fun i x hx => by
      by_cases hi' : i < us.length
      · rw [List.getElem?_append_left hi'] at hx
        exact .inl ⟨hi', hx⟩
      · have e1 : i = us.length := by have := (List.getElem?_eq_some_iff.1 hx).1; simp at this; omega
        subst e1
        rw [List.getElem?_append_right (Nat.le_refl _)] at hx
        simp at hx
        exact .inr ⟨rfl, hx.symm⟩
    rcases at_ i x hx with ⟨h1, h2⟩ | ⟨h1, rfl⟩ <;> rcases at_ j x' hx' with ⟨h3, h4⟩ | ⟨h3, rfl⟩
    · exact h.apart i j x x' h2 h4 hij
    · cases hb : x.ownBlock with
      | none => exact .inl rfl
      | some k =>
        refine .inr fun e => ?_
        have := old i x h2 k hb
        have := new k e.symm
        omega
    · cases hb : x.ownBlock with
      | none => exact .inl rfl
      | some k =>
        refine .inr fun e => ?_
        have := old j x' h4 k e.symm
        have := new k hb
        omega
    · omega
theorem OwnRows.nil (w : World) (lo hi : Nat) : OwnRows w lo hi [] [] := ⟨rfl, fun i u r h => by simp at h, fun i j u u' h => by simp at h⟩
/-- The outer slice's block is no row's. -/
theorem Has.ne_top {w : World} {lo lo' : Nat} {v u : Value} {us : List Value} {xs : List Int} (ht : Has id 25 w lo v us) (h : Has (Value.int .i64) 3 w lo' u xs) : v.ownBlock = none ∨ v.ownBlock ≠ u.ownBlock := by
  rcases ht.2 with ⟨rfl, _⟩ | ⟨g, cap, cur, rfl, _, hg, _⟩
  · exact .inl rfl
  · rcases h.2 with ⟨rfl, _⟩ | ⟨g', cap', cur', rfl, _, hg', _⟩
    · exact .inr (by simp [Value.ownBlock])
    · refine .inr fun e => ?_
      have e1 : g = g' := by simpa [Value.ownBlock] using e
      subst e1
      rw [hg] at hg'
      simp at hg'
theorem Has.ne_row {w : World} {lo lo' : Nat} {v u : Value} {us : List Value} {xs : List Int} (ht : Has id 25 w lo v us) (h : Has (Value.int .i64) 3 w lo' u xs) : u.ownBlock = none ∨ u.ownBlock ≠ v.ownBlock := by
  rcases ht.ne_top h with h1 | h1
  · cases hu : u.ownBlock with
    | none => exact .inl rfl
    | some k => exact .inr (by rw [h1]; simp)
  · exact .inr (Ne.symm h1)
/-- How many numbers the rows hold. -/
def tot (rows : List (List Int)) : Nat := (rows.map List.length).sum
theorem tot_snoc (rows : List (List Int)) (r : List Int) : tot (rows ++ [r]) = tot rows + r.length := by simp [tot]
theorem tot_take (rows : List (List Int)) (i : Nat) (r : List Int) (h : rows[i]? = some r) : tot (rows.take (i + 1)) = tot (rows.take i) + r.length := by
  obtain ⟨hi, rfl⟩ := List.getElem?_eq_some_iff.1 h
  rw [List.take_succ_eq_append_getElem hi, tot_snoc]
theorem tot_take_le (rows : List (List Int)) (i : Nat) : tot (rows.take i) ≤ tot rows := by
  have : tot rows = tot (rows.take i) + tot (rows.drop i) := by
    simp only [tot, List.map_take, List.map_drop]
    rw [← List.sum_append, List.take_append_drop]
  omega
theorem row_le (rows : List (List Int)) (i : Nat) (r : List Int) (h : rows[i]? = some r) : r.length ≤ tot rows := by
  have := tot_take rows i r h
  have := tot_take_le rows (i + 1)
  omega
/-- A row's value, its cell in the outer slice, its own cells. -/
theorem LiesR.row {w : World} {v : Value} {rows : List (List Int)} (h : LiesR w v rows) : ∃ a cap, v = .slice a rows.length cap ∧ rows.length ≤ 9223372036854775807 ∧
    ∀ (i : Nat) (r : List Int), rows[i]? = some r → ∃ b off u, a = some ⟨b, off, none⟩ ∧ w.cell? ⟨b, off + i, none⟩ = some u ∧ Lies (Value.int .i64) w u r := by
  obtain ⟨us, ⟨hl, a, cap, rfl, hn, hc⟩, hlen, hrow⟩ := h
  refine ⟨a, cap, by rw [hlen], by omega, fun i r hr => ?_⟩
  have hi : i < us.length := by rw [hlen]; exact (List.getElem?_eq_some_iff.1 hr).1
  obtain ⟨b, off, rfl, hcell⟩ := hc i _ (List.getElem?_eq_getElem hi)
  exact ⟨b, off, _, rfl, hcell, hrow i _ r (List.getElem?_eq_getElem hi) hr⟩
/-- A write into the outer slice's block leaves the rows. -/
theorem OwnRows.top_grown {w w' : World} {lo lo' hi : Nat} {v : Value} {us xs : List Value} {rows : List (List Int)} (h : OwnRows w lo hi us rows) (ht : Has id 25 w lo' v xs) (hg : w.grownBy w' v.ownBlock) : OwnRows w' lo hi us rows :=
  ⟨h.len, fun i u r hu hr => (h.row i u r hu hr).wrote (Wrote.of_grown hg) (fun x hx => by
    obtain rfl : x = v := by simpa using hx
    exact ht.ne_row (h.row i u r hu hr).has), h.apart⟩
theorem OwnRows.mono {w : World} {lo hi hi' : Nat} {us : List Value} {rows : List (List Int)} (h : OwnRows w lo hi us rows) (h1 : hi ≤ hi') (h2 : hi' ≤ w.heap.size) : OwnRows w lo hi' us rows :=
  ⟨h.len, fun i u r hu hr => (h.row i u r hu hr).mono (Nat.le_refl _) h1 h2, h.apart⟩
theorem OwnRows.lower {w : World} {lo lo' hi : Nat} {us : List Value} {rows : List (List Int)} (h : OwnRows w lo hi us rows) (h1 : lo' ≤ lo) : OwnRows w lo' hi us rows :=
  ⟨h.len, fun i u r hu hr => (h.row i u r hu hr).mono h1 (Nat.le_refl _) (h.row i u r hu hr).le, h.apart⟩
theorem OwnS.make {w : World} {base lo mid hi : Nat} {vn vo : Value} {us : List Value} {b : Int} {rows : List (List Int)} {out : List Int} (h : OwnR w lo mid vn us rows) (ho : OwnI w mid hi vo out) (h0 : base ≤ lo) (h1 : lo ≤ mid) (h2 : mid ≤ hi) :
    OwnS w base hi (.agg #[.int .i64 b, vn, vo]) b rows out :=
  ⟨vn, vo, us, rfl, ⟨h.top.mono h0, fun k hk => Nat.lt_of_lt_of_le (h.lt k hk) h2, ho.le, (h.rows.lower h0).mono h2 ho.le⟩, (h.rows.snoc ho h1 h2).lower h0⟩
theorem LiesS.form {w : World} {v : Value} {b : Int} {rows : List (List Int)} {out : List Int} (h : LiesS w v b rows out) : ∃ an cn ao co, v = .agg #[.int .i64 b, .slice an rows.length cn, .slice ao out.length co] := by
  obtain ⟨vn, vo, rfl, ⟨us, ⟨_, an, cn, rfl, _⟩, hl, _⟩, ⟨_, ao, co, rfl, _⟩⟩ := h
  exact ⟨an, cn, ao, co, by rw [hl]⟩
/-- All of a sequence's cells, by their numbers. -/
theorem LiesS.parts {w : World} {v : Value} {b : Int} {rows : List (List Int)} {out : List Int} (h : LiesS w v b rows out) : ∃ an cn ao co, v = .agg #[.int .i64 b, .slice an rows.length cn, .slice ao out.length co] ∧
    (∀ (i : Nat) (r : List Int), rows[i]? = some r → ∃ p o a' c', an = some ⟨p, o, none⟩ ∧ w.cell? ⟨p, o + i, none⟩ = some (.slice a' r.length c') ∧ ∀ (k : Nat) (x : Int), r[k]? = some x → ∃ q s, a' = some ⟨q, s, none⟩ ∧ w.cell? ⟨q, s + k, none⟩ = some (.int .i64 x)) ∧
    ∀ (k : Nat) (x : Int), out[k]? = some x → ∃ q s, ao = some ⟨q, s, none⟩ ∧ w.cell? ⟨q, s + k, none⟩ = some (.int .i64 x) := by
  obtain ⟨vn, vo, rfl, hn, ⟨_, ao, co, rfl, _, hco⟩⟩ := h
  obtain ⟨an, cn, rfl, _, hc⟩ := hn.row
  refine ⟨an, cn, ao, co, rfl, fun i r hr => ?_, fun k x hx => ?_⟩
  · obtain ⟨p, o, u, h1, h2, ⟨_, a', c', rfl, _, h3⟩⟩ := hc i r hr
    refine ⟨p, o, a', c', h1, h2, fun k x hx => ?_⟩
    obtain ⟨q, s, h4, h5⟩ := h3 k x hx
    exact ⟨q, s, h4, h5⟩
  · obtain ⟨q, s, h4, h5⟩ := hco k x hx
    exact ⟨q, s, h4, h5⟩
/-- The same of a sequence whose slices are known by name. -/
theorem LiesS.cells {w : World} {b : Int} {rows : List (List Int)} {out : List Int} {an ao : Option Addr} {cn co : Nat} (h : LiesS w (.agg #[.int .i64 b, .slice an rows.length cn, .slice ao out.length co]) b rows out) :
    (∀ (i : Nat) (r : List Int), rows[i]? = some r → ∃ p o a' c', an = some ⟨p, o, none⟩ ∧ w.cell? ⟨p, o + i, none⟩ = some (.slice a' r.length c') ∧ ∀ (k : Nat) (x : Int), r[k]? = some x → ∃ q s, a' = some ⟨q, s, none⟩ ∧ w.cell? ⟨q, s + k, none⟩ = some (.int .i64 x)) ∧
    ∀ (k : Nat) (x : Int), out[k]? = some x → ∃ q s, ao = some ⟨q, s, none⟩ ∧ w.cell? ⟨q, s + k, none⟩ = some (.int .i64 x) := by
  obtain ⟨an', cn', ao', co', hv, h1, h2⟩ := h.parts
  injection hv with hv
  simp only [Array.mk.injEq, List.cons.injEq, Value.slice.injEq, true_and, and_true] at hv
  obtain ⟨⟨rfl, rfl⟩, rfl, rfl⟩ := hv
  exact ⟨h1, h2⟩
theorem OwnS.form {w : World} {lo hi : Nat} {v : Value} {b : Int} {rows : List (List Int)} {out : List Int} (h : OwnS w lo hi v b rows out) : ∃ an cn ao co, v = .agg #[.int .i64 b, .slice an rows.length cn, .slice ao out.length co] := h.lies.form
theorem OwnI.form {w : World} {lo hi : Nat} {v : Value} {xs : List Int} (h : OwnI w lo hi v xs) : ∃ a c, v = .slice a xs.length c := by
  obtain ⟨a, c, h1, _⟩ := h.has.form
  exact ⟨a, c, h1⟩
theorem below_drew' (w : World) : Below w.heap.size w w.drew := ⟨rfl, rfl, rfl, Nat.le_refl _, fun _ _ => rfl⟩
/-- A call that hands back a new slice of rows, a new sequence. -/
def GivesR (rows : List (List Int)) (w : World) (en : Ending) (w' : World) : Prop := ∃ v us, en = .returned v ∧ OwnR w' w.heap.size w'.heap.size v us rows ∧ Below w.heap.size w w'
def GivesS (b : Int) (rows : List (List Int)) (out : List Int) (w : World) (en : Ending) (w' : World) : Prop := ∃ v, en = .returned v ∧ OwnS w' w.heap.size w'.heap.size v b rows out ∧ Below w.heap.size w w'
theorem set_next (us : List Value) (n : Nat) (z x : Value) (h : us.length < n) : ((us ++ List.replicate (n - us.length) z).map id).set us.length (id x) = ((us ++ [x]) ++ List.replicate (n - (us.length + 1)) z).map id := by
  rw [show n - us.length = (n - (us.length + 1)) + 1 from by omega, List.replicate_succ, List.map_append, List.map_cons, set_mid _ _ _ _ us.length (by simp), List.append_assoc, List.map_append]
  rfl
theorem made_rows {w1 : World} {base n : Nat} {v : Value} (h : w1.ownsRow base 25 1 v n (madeCells (Value.slice none 0 0).cells (n * 1)).toList) : Has id 25 w1 base v (List.replicate n (.slice none 0 0)) := by
  rw [show (Value.slice none 0 0).cells = #[Value.slice none 0 0] from rfl, toList_madeCells_one] at h
  show w1.ownsRow _ _ _ _ _ _
  rw [List.length_replicate]
  simpa using h
end Go.Proofs.Ytdgfecjakmdheaa.Plain
/- Contracts of the exact laws' own helpers on sequences, first part: the size of one. No conditions beyond those that each states. -/
namespace Go.Proofs.Ytdgfecjakmdheaa
open Go.ChangeShapes Go.WideShapes Go.ChangeAt Go.RowKit
open Go.PlainAid Plain
set_option linter.unusedVariables false
namespace Seqs

theorem ret_i {a b : Int} (h : a = b) : Ending.returned (.int .i64 a) = Ending.returned (.int .i64 b) := by rw [h]
theorem ret_b {a b : Bool} (h : a = b) : Ending.returned (.bool a) = Ending.returned (.bool b) := by rw [h]
/-- What is left of a size, -1 where nothing is. -/
def szV (left : Int) (n : Nat) : Int := if (n : Int) ≤ left then left - n else -1
theorem szV_yes {left : Int} {n : Nat} (h : (n : Int) ≤ left) : szV left n = left - n := by rw [szV, if_pos h]
theorem szV_no {left : Int} {n : Nat} (h : ¬ (n : Int) ≤ left) : szV left n = -1 := by rw [szV, if_neg h]
end Seqs
end Go.Proofs.Ytdgfecjakmdheaa
/- Contracts of the exact laws' own helpers on sequences, third part: comparing two that are equal. No conditions beyond those that each states. -/
namespace Go.Proofs.Ytdgfecjakmdheaa
open Go.ChangeShapes Go.WideShapes Go.ChangeAt Go.RowKit
open Go.PlainAid Plain
set_option linter.unusedVariables false
namespace Seqs
theorem quiet_more {P : Program} {f : FuncId} {args : Array Value} {w : World} {a n : Nat} {v : Value}
    (h : Calls P f args (w.drewN (a + n)) fun e w' => e = .returned v ∧ ∃ m, w' = (w.drewN (a + n)).drewN m) :
    Calls P f args (w.drewN (a + n)) fun e w'' => e = .returned v ∧ ∃ m, w'' = w.drewN (a + m) :=
  h.mono fun _ _ ⟨he, m, hm⟩ => ⟨he, n + m, by rw [hm, World.drewN_drewN, Nat.add_assoc]⟩
theorem Lies_drewN {v : Value} {xs : List Int} {w : World} (h : Lies (Value.int .i64) w v xs) (n : Nat) : Lies (Value.int .i64) (w.drewN n) v xs := h.below (below_drewN (Below.refl _ _) n)
end Seqs
end Go.Proofs.Ytdgfecjakmdheaa
/- A struct of three cells that lies in a block of its own: what it holds, and what stays of it. No conditions beyond those that each fact states. -/
namespace Go.Proofs.Ytdgfecjakmdheaa.Plain
open Go.RowKit
/-- Block b holds three cells. -/
structure Cells3 (w : World) (b : Nat) (t : TypeId) (x y z : Value) : Prop where
  row : w.heap[b]? = some (.cells #[x, y, z] t (0, 0))
section
variable {w w' : World} {b : Nat} {t : TypeId} {x y z : Value}
theorem Cells3.c0 (h : Cells3 w b t x y z) : w.cell? ⟨b, 0, none⟩ = some x := by simp [World.cell?, h.row]
theorem Cells3.c1 (h : Cells3 w b t x y z) : w.cell? ⟨b, 1, none⟩ = some y := by simp [World.cell?, h.row]
theorem Cells3.c2 (h : Cells3 w b t x y z) : w.cell? ⟨b, 2, none⟩ = some z := by simp [World.cell?, h.row]
theorem Cells3.f (h : Cells3 w b t x y z) (o : Nat) : w.frozen? ⟨b, o, none⟩ = false := frozen_of_row w b o _ t h.row
theorem Cells3.lt (h : Cells3 w b t x y z) : b < w.heap.size := by
  have h1 := h.row
  rw [Array.getElem?_eq_some_iff] at h1
  exact h1.1
theorem Cells3.new (w : World) (t : TypeId) (x y z : Value) : Cells3 (w.alloc (.cells #[x, y, z] t)) w.heap.size t x y z := ⟨heap_alloc_new w _⟩
theorem Cells3.below (h : Cells3 w b t x y z) (hb : Below w.heap.size w w') : Cells3 w' b t x y z := ⟨(hb.block b h.lt).trans h.row⟩
theorem Cells3.alloc (h : Cells3 w b t x y z) (o : Obj) : Cells3 (w.alloc o) b t x y z := h.below ((Below.refl _ _).alloc (Nat.le_refl _) _)
theorem Cells3.set0 (h : Cells3 w b t x y z) (v : Value) : Cells3 (w.setCell ⟨b, 0, none⟩ v) b t v y z := by
  have hlt := h.lt
  have h' : w.heap[b] = .cells #[x, y, z] t (0, 0) := by simpa [Array.getElem?_eq_getElem hlt] using h.row
  refine ⟨?_⟩
  show (w.heap.modify b _)[b]? = _
  rw [Array.getElem?_eq_getElem (by simpa using hlt), Array.getElem_modify_self, h']
  rfl
theorem Cells3.set1 (h : Cells3 w b t x y z) (v : Value) : Cells3 (w.setCell ⟨b, 1, none⟩ v) b t x v z := by
  have hlt := h.lt
  have h' : w.heap[b] = .cells #[x, y, z] t (0, 0) := by simpa [Array.getElem?_eq_getElem hlt] using h.row
  refine ⟨?_⟩
  show (w.heap.modify b _)[b]? = _
  rw [Array.getElem?_eq_getElem (by simpa using hlt), Array.getElem_modify_self, h']
  rfl
theorem Cells3.set2 (h : Cells3 w b t x y z) (v : Value) : Cells3 (w.setCell ⟨b, 2, none⟩ v) b t x y v := by
  have hlt := h.lt
  have h' : w.heap[b] = .cells #[x, y, z] t (0, 0) := by simpa [Array.getElem?_eq_getElem hlt] using h.row
  refine ⟨?_⟩
  show (w.heap.modify b _)[b]? = _
  rw [Array.getElem?_eq_getElem (by simpa using hlt), Array.getElem_modify_self, h']
  rfl
theorem Cells3.other (h : Cells3 w b t x y z) {a : Addr} (ha : a.block ≠ b) (v : Value) : Cells3 (w.setCell a v) b t x y z := by
  refine ⟨?_⟩
  rw [← h.row]
  simp [World.setCell, Array.getElem?_modify, ha]
theorem Cells3.touch {lo hi : Nat} (h : Cells3 w b t x y z) (ht : Plain.Touch lo hi w w') (hn : b < lo ∨ hi ≤ b) : Cells3 w' b t x y z := ⟨(ht.block b h.lt hn).trans h.row⟩
theorem Cells3.grown {row : Option Nat} (h : Cells3 w b t x y z) (hg : w.grownBy w' row) (hn : row ≠ some b) : Cells3 w' b t x y z := ⟨(hg.block b h.lt (Ne.symm hn)).trans h.row⟩
end
theorem size_alloc' (w : World) (o : Obj) : (w.alloc o).heap.size = w.heap.size + 1 := by simp
theorem size_setCell' (w : World) (a : Addr) (v : Value) : (w.setCell a v).heap.size = w.heap.size := by simp [World.setCell]
end Go.Proofs.Ytdgfecjakmdheaa.Plain
/- Contracts of EqualSequences, of the program and of the model, and of the comparisons of lists that they call. No conditions beyond those that each states. -/
namespace Go.Proofs.Ytdgfecjakmdheaa
open Go.ChangeShapes Go.WideShapes Go.ChangeAt Go.RowKit
open Go.PlainAid Plain
set_option linter.unusedVariables false
namespace Seqs
theorem list_ne {α : Type} {xs ys : List α} {k : Nat} {x y : α} (h1 : xs[k]? = some x) (h2 : ys[k]? = some y) (h : ¬ x = y) : ¬ xs = ys := fun e => by
  subst e
  exact h (Option.some.inj (h1.symm.trans h2))
theorem list_eq {α : Type} {xs ys : List α} (hl : xs.length = ys.length) (h : ∀ (k : Nat) (x y : α), k < xs.length → xs[k]? = some x → ys[k]? = some y → x = y) : xs = ys := by
  refine List.ext_getElem hl fun i h1 h2 => ?_
  exact h i _ _ h1 (List.getElem?_eq_getElem h1) (List.getElem?_eq_getElem h2)
theorem some_drew {w W' : World} (he : (∃ n, W' = w.drewN n) ∨ (∃ n m, W' = (w.drewN n).drewN m) := by first | exact .inl ⟨_, rfl⟩ | exact .inr ⟨_, _, rfl⟩) : ∃ n, W' = w.drewN n := by
  rcases he with ⟨n, rfl⟩ | ⟨n, m, rfl⟩
  · exact ⟨n, rfl⟩
  · exact ⟨n + m, by rw [World.drewN_drewN]⟩
theorem same_ints (u v : Value) (xs ys : List Int) (w : World) (h1 : Lies (Value.int .i64) w u xs) (h2 : Lies (Value.int .i64) w v ys) :
    Calls Try.prog 27 #[u, v] w fun e w' => e = .returned (.bool (decide (xs = ys))) ∧ ∃ n, w' = w.drewN n := by
  obtain ⟨hl, a, ca, rfl, _, hca⟩ := h1
  obtain ⟨hl2, b, cb, rfl, _, hcb⟩ := h2
  have HA := Lib.hid hca
  have HB := Lib.hid hcb
  clear hca hcb
  by_cases hlen : xs.length = ys.length
  · have HL := Lib.hid hlen
    have hd : ((xs.length : Int) != (ys.length : Int)) = false := by rw [hlen]; simp
    have hle : xs.length ≤ ys.length := by omega
    clear hlen
    go_enter Try.func27, Try.ntmps27
    go_wp2
    go_loopw [5] (fun i' wr => ∃ k : Nat, k ≤ xs.length ∧ i' = .int .i64 k ∧ Hid (∀ (j : Nat) (x y : Int), j < k → xs[j]? = some x → ys[j]? = some y → x = y) ∧ ∃ n, wr = w.drewN n) (fun i' _ => xs.length - (intOf i').toNat)
    case atStart => exact ⟨0, Nat.zero_le _, rfl, fun j x y h => by omega, 0, rfl⟩
    case round =>
      obtain ⟨k, hk, rfl, HI, n, rfl⟩ := hrel
      by_cases hlt : k < xs.length
      · obtain ⟨x, hx⟩ : ∃ x, xs[k]? = some x := ⟨_, List.getElem?_eq_getElem hlt⟩
        obtain ⟨y, hy⟩ : ∃ y, ys[k]? = some y := ⟨_, List.getElem?_eq_getElem (by omega)⟩
        obtain ⟨p, o, rfl, hc1⟩ := HA.out k x hx
        obtain ⟨q, r, rfl, hc2⟩ := HB.out k y hy
        have HX := Lib.hid hx
        have HY := Lib.hid hy
        clear hx hy
        by_cases he : x = y
        · have HN : Hid (∀ (j : Nat) (x y : Int), j < k + 1 → xs[j]? = some x → ys[j]? = some y → x = y) := fun j x' y' hj hx' hy' => by
            by_cases e : j = k
            · subst e
              obtain rfl := Option.some.inj (HX.out.symm.trans hx')
              obtain rfl := Option.some.inj (HY.out.symm.trans hy')
              exact he
            · exact HI.out j x' y' (by omega) hx' hy'
          have hd2 : (x != y) = false := by rw [he]; simp
          clear he
          go_wp2
          go_quiet (fail)
          go_wp2
          go_roundw
          case rel => exact ⟨k + 1, by omega, by go_num, HN, _, rfl⟩
          case measure => simp [intOf]; omega
        · have HE := Lib.hid (decide_eq_false (list_ne HX.out HY.out he))
          have hd2 : (x != y) = true := by simpa using he
          clear he
          go_wp2
          go_quiet (fail)
          go_wp2
          go_ret
          exact ⟨ret_b HE.out.symm, some_drew⟩
      · have HE := Lib.hid (decide_eq_true (list_eq HL.out fun j x y hj => HI.out j x y (by omega)))
        go_wp2
        go_ret
        exact ⟨ret_b HE.out.symm, n, rfl⟩
  · have HE := Lib.hid (decide_eq_false (fun e : xs = ys => hlen (by rw [e])))
    have hd : ((xs.length : Int) != (ys.length : Int)) = true := by simp; omega
    clear hlen
    go_enter Try.func27, Try.ntmps27
    go_wp2
    go_ret
    exact ⟨ret_b HE.out.symm, 0, rfl⟩
theorem equal_ints (u v : Value) (xs ys : List Int) (w : World) (h1 : Lies (Value.int .i64) w u xs) (h2 : Lies (Value.int .i64) w v ys) :
    Calls Try.prog 75 #[u, v] w fun e w' => e = .returned (.bool (decide (xs = ys))) ∧ ∃ n, w' = w.drewN n := by
  obtain ⟨hl, a, ca, rfl, _, hca⟩ := h1
  obtain ⟨hl2, b, cb, rfl, _, hcb⟩ := h2
  have HA := Lib.hid hca
  have HB := Lib.hid hcb
  clear hca hcb
  by_cases hlen : xs.length = ys.length
  · have HL := Lib.hid hlen
    have hd : ((xs.length : Int) != (ys.length : Int)) = false := by rw [hlen]; simp
    have hle : xs.length ≤ ys.length := by omega
    clear hlen
    go_enter Try.func75, Try.ntmps75
    go_wp2
    go_loopw [13] (fun i' wr => ∃ k : Nat, k ≤ xs.length ∧ i' = .int .i64 k ∧ Hid (∀ (j : Nat) (x y : Int), j < k → xs[j]? = some x → ys[j]? = some y → x = y) ∧ ∃ n, wr = w.drewN n) (fun i' _ => xs.length - (intOf i').toNat)
    case atStart => exact ⟨0, Nat.zero_le _, rfl, fun j x y h => by omega, 0, rfl⟩
    case round =>
      obtain ⟨k, hk, rfl, HI, n, rfl⟩ := hrel
      by_cases hlt : k < xs.length
      · obtain ⟨x, hx⟩ : ∃ x, xs[k]? = some x := ⟨_, List.getElem?_eq_getElem hlt⟩
        obtain ⟨y, hy⟩ : ∃ y, ys[k]? = some y := ⟨_, List.getElem?_eq_getElem (by omega)⟩
        obtain ⟨p, o, rfl, hc1⟩ := HA.out k x hx
        obtain ⟨q, r, rfl, hc2⟩ := HB.out k y hy
        have HX := Lib.hid hx
        have HY := Lib.hid hy
        clear hx hy
        by_cases he : x = y
        · have HN : Hid (∀ (j : Nat) (x y : Int), j < k + 1 → xs[j]? = some x → ys[j]? = some y → x = y) := fun j x' y' hj hx' hy' => by
            by_cases e : j = k
            · subst e
              obtain rfl := Option.some.inj (HX.out.symm.trans hx')
              obtain rfl := Option.some.inj (HY.out.symm.trans hy')
              exact he
            · exact HI.out j x' y' (by omega) hx' hy'
          have hd2 : (x != y) = false := by rw [he]; simp
          clear he
          go_wp2
          go_quiet (fail)
          go_wp2
          go_roundw
          case rel => exact ⟨k + 1, by omega, by go_num, HN, _, rfl⟩
          case measure => simp [intOf]; omega
        · have HE := Lib.hid (decide_eq_false (list_ne HX.out HY.out he))
          have hd2 : (x != y) = true := by simpa using he
          clear he
          go_wp2
          go_quiet (fail)
          go_wp2
          go_ret
          exact ⟨ret_b HE.out.symm, some_drew⟩
      · have HE := Lib.hid (decide_eq_true (list_eq HL.out fun j x y hj => HI.out j x y (by omega)))
        go_wp2
        go_ret
        exact ⟨ret_b HE.out.symm, n, rfl⟩
  · have HE := Lib.hid (decide_eq_false (fun e : xs = ys => hlen (by rw [e])))
    have hd : ((xs.length : Int) != (ys.length : Int)) = true := by simp; omega
    clear hlen
    go_enter Try.func75, Try.ntmps75
    go_wp2
    go_ret
    exact ⟨ret_b HE.out.symm, 0, rfl⟩
theorem same_true (u v : Value) (xs ys : List Int) (w : World) (h1 : Lies (Value.int .i64) w u xs) (h2 : Lies (Value.int .i64) w v ys) (he : xs = ys) :
    Calls Try.prog 27 #[u, v] w fun e w' => e = .returned (.bool true) ∧ ∃ n, w' = w.drewN n := by
  have := same_ints u v xs ys w h1 h2
  rwa [decide_eq_true he] at this
theorem same_false (u v : Value) (xs ys : List Int) (w : World) (h1 : Lies (Value.int .i64) w u xs) (h2 : Lies (Value.int .i64) w v ys) (he : ¬ xs = ys) :
    Calls Try.prog 27 #[u, v] w fun e w' => e = .returned (.bool false) ∧ ∃ n, w' = w.drewN n := by
  have := same_ints u v xs ys w h1 h2
  rwa [decide_eq_false he] at this
theorem LiesS.two {w : World} {b : Int} {rows : List (List Int)} {out : List Int} {vn vo : Value} (h : LiesS w (.agg #[.int .i64 b, vn, vo]) b rows out) : LiesR w vn rows ∧ Lies (Value.int .i64) w vo out := by
  obtain ⟨vn', vo', hv, h1, h2⟩ := h
  injection hv with hv
  simp only [Array.mk.injEq, List.cons.injEq, and_true, true_and] at hv
  obtain ⟨rfl, rfl⟩ := hv
  exact ⟨h1, h2⟩
theorem endsE {B : Nat} {w W W' : World} (h : ∀ n, Below B w (W.drewN n)) (he : (∃ n, W' = W.drewN n) ∨ (∃ n m, W' = (W.drewN n).drewN m) := by first | exact .inl ⟨_, rfl⟩ | exact .inr ⟨_, _, rfl⟩) : Below B w W' := by
  rcases he with ⟨n, rfl⟩ | ⟨n, m, rfl⟩
  · exact h n
  · rw [World.drewN_drewN]; exact h _
theorem equal_rows (u v : Value) (xs ys : List (List Int)) (w : World) (h1 : LiesR w u xs) (h2 : LiesR w v ys) :
    Calls Try.prog 74 #[u, v, .func (.func 75) #[] #[]] w fun e w' => e = .returned (.bool (decide (xs = ys))) ∧ ∃ n, w' = w.drewN n := by
  obtain ⟨a, ca, rfl, hl, hca⟩ := h1.row
  obtain ⟨b, cb, rfl, hl2, hcb⟩ := h2.row
  have HA := Lib.hid hca
  have HB := Lib.hid hcb
  clear hca hcb h1 h2
  by_cases hlen : xs.length = ys.length
  · have HL := Lib.hid hlen
    have hd : ((xs.length : Int) != (ys.length : Int)) = false := by rw [hlen]; simp
    have hle : xs.length ≤ ys.length := by omega
    clear hlen
    go_enter Try.func74, Try.ntmps74
    go_wp2
    go_loopw [17] (fun i' wr => ∃ k : Nat, k ≤ xs.length ∧ i' = .int .i64 k ∧ Hid (∀ (j : Nat) (x y : List Int), j < k → xs[j]? = some x → ys[j]? = some y → x = y) ∧ ∃ n, wr = w.drewN n) (fun i' _ => xs.length - (intOf i').toNat)
    case atStart => exact ⟨0, Nat.zero_le _, rfl, fun j x y h => by omega, 0, rfl⟩
    case round =>
      obtain ⟨k, hk, rfl, HI, n, rfl⟩ := hrel
      by_cases hlt : k < xs.length
      · obtain ⟨x, hx⟩ : ∃ x, xs[k]? = some x := ⟨_, List.getElem?_eq_getElem hlt⟩
        obtain ⟨y, hy⟩ : ∃ y, ys[k]? = some y := ⟨_, List.getElem?_eq_getElem (by omega)⟩
        obtain ⟨p, o, ux, rfl, hc1, lx⟩ := HA.out k x hx
        obtain ⟨q, r, uy, rfl, hc2, ly⟩ := HB.out k y hy
        have HX := Lib.hid hx
        have HY := Lib.hid hy
        have LX := Lib.hid lx
        have LY := Lib.hid ly
        clear hx hy lx ly
        by_cases he : x = y
        · have HN : Hid (∀ (j : Nat) (x y : List Int), j < k + 1 → xs[j]? = some x → ys[j]? = some y → x = y) := fun j x' y' hj hx' hy' => by
            by_cases e : j = k
            · subst e
              obtain rfl := Option.some.inj (HX.out.symm.trans hx')
              obtain rfl := Option.some.inj (HY.out.symm.trans hy')
              exact he
            · exact HI.out j x' y' (by omega) hx' hy'
          have HD := Lib.hid (decide_eq_true he)
          clear he
          go_wp2_with fail
          refine (equal_ints _ _ x y _ (Lies_drewN LX.out _) (Lies_drewN LY.out _)).mono ?_
          rintro e w' ⟨rfl, m, rfl⟩
          rw [HD.out]
          go_wp2
          go_roundw
          case rel => exact ⟨k + 1, by omega, by go_num, HN, _, rfl⟩
          case measure => simp [intOf]; omega
        · have HE := Lib.hid (decide_eq_false (list_ne HX.out HY.out he))
          have HD := Lib.hid (decide_eq_false he)
          clear he
          go_wp2_with fail
          refine (equal_ints _ _ x y _ (Lies_drewN LX.out _) (Lies_drewN LY.out _)).mono ?_
          rintro e w' ⟨rfl, m, rfl⟩
          rw [HD.out]
          go_wp2
          go_ret
          exact ⟨ret_b HE.out.symm, some_drew⟩
      · have HE := Lib.hid (decide_eq_true (list_eq HL.out fun j x y hj => HI.out j x y (by omega)))
        go_wp2
        go_ret
        exact ⟨ret_b HE.out.symm, n, rfl⟩
  · have HE := Lib.hid (decide_eq_false (fun e : xs = ys => hlen (by rw [e])))
    have hd : ((xs.length : Int) != (ys.length : Int)) = true := by simp; omega
    clear hlen
    go_enter Try.func74, Try.ntmps74
    go_wp2
    go_ret
    exact ⟨ret_b HE.out.symm, 0, rfl⟩
/-- Are the two sequences equal, in all their parts? -/
def sameB (b b' : Int) (rows rows' : List (List Int)) (out out' : List Int) : Bool := decide (b = b') && decide (rows = rows') && decide (out = out')
theorem impl_equal (u v : Value) (b b' : Int) (rows rows' : List (List Int)) (out out' : List Int) (w : World) (h1 : LiesS w u b rows out) (h2 : LiesS w v b' rows' out') :
    Calls Try.prog 68 #[u, v] w fun e w' => e = .returned (.bool (sameB b b' rows rows' out out')) ∧ Below w.heap.size w w' := by
  have HS := Lib.hid h1
  have HS' := Lib.hid h2
  obtain ⟨an, cn, ao, co, rfl⟩ := h1.form
  obtain ⟨an', cn', ao', co', rfl⟩ := h2.form
  clear h1 h2
  have hB : Below w.heap.size w ((w.alloc (Obj.cells #[Value.int .i64 b, Value.slice an rows.length cn, Value.slice ao out.length co] 27)).alloc (Obj.cells #[Value.int .i64 b', Value.slice an' rows'.length cn', Value.slice ao' out'.length co'] 27)) := ((Below.refl _ _).alloc (Nat.le_refl _) _).alloc (by simp) _
  have HB : Hid (∀ n, Below w.heap.size w (((w.alloc (Obj.cells #[Value.int .i64 b, Value.slice an rows.length cn, Value.slice ao out.length co] 27)).alloc (Obj.cells #[Value.int .i64 b', Value.slice an' rows'.length cn', Value.slice ao' out'.length co'] 27)).drewN n)) := fun n => below_drewN hB n
  have hC' := Cells3.new (w.alloc (Obj.cells #[Value.int .i64 b, Value.slice an rows.length cn, Value.slice ao out.length co] 27)) 27 (.int .i64 b') (.slice an' rows'.length cn') (.slice ao' out'.length co')
  rw [size_alloc'] at hC'
  have HC := Lib.hid ((Cells3.new w 27 (.int .i64 b) (.slice an rows.length cn) (.slice ao out.length co)).alloc (Obj.cells #[Value.int .i64 b', Value.slice an' rows'.length cn', Value.slice ao' out'.length co'] 27))
  have HC' := Lib.hid hC'
  have HL : Hid (LiesR ((w.alloc (Obj.cells #[Value.int .i64 b, Value.slice an rows.length cn, Value.slice ao out.length co] 27)).alloc (Obj.cells #[Value.int .i64 b', Value.slice an' rows'.length cn', Value.slice ao' out'.length co'] 27)) (.slice an rows.length cn) rows ∧ Lies (Value.int .i64) ((w.alloc (Obj.cells #[Value.int .i64 b, Value.slice an rows.length cn, Value.slice ao out.length co] 27)).alloc (Obj.cells #[Value.int .i64 b', Value.slice an' rows'.length cn', Value.slice ao' out'.length co'] 27)) (.slice ao out.length co) out) := LiesS.two (HS.out.below hB)
  have HL' : Hid (LiesR ((w.alloc (Obj.cells #[Value.int .i64 b, Value.slice an rows.length cn, Value.slice ao out.length co] 27)).alloc (Obj.cells #[Value.int .i64 b', Value.slice an' rows'.length cn', Value.slice ao' out'.length co'] 27)) (.slice an' rows'.length cn') rows' ∧ Lies (Value.int .i64) ((w.alloc (Obj.cells #[Value.int .i64 b, Value.slice an rows.length cn, Value.slice ao out.length co] 27)).alloc (Obj.cells #[Value.int .i64 b', Value.slice an' rows'.length cn', Value.slice ao' out'.length co'] 27)) (.slice ao' out'.length co') out') := LiesS.two (HS'.out.below hB)
  clear hB hC'
  by_cases hb : b = b'
  · have hd0 : (b == b') = true := by simpa using hb
    have HQ : Hid (sameB b b' rows rows' out out' = (decide (rows = rows') && decide (out = out'))) := by show _ = _; rw [sameB, decide_eq_true hb]; rfl
    clear hb
    cases hr : decide (rows = rows') with
    | true =>
      have HR := Lib.hid hr
      have HE : Hid (sameB b b' rows rows' out out' = decide (out = out')) := by show _ = _; rw [HQ.out, hr]; rfl
      clear hr HQ
      go_enter Try.func68, Try.ntmps68
      go_wp2_with fail
      refine (equal_rows _ _ rows rows' _ HL.out.1 HL'.out.1).mono ?_
      rintro e w' ⟨rfl, n, rfl⟩
      rw [HR.out]
      go_wp2_with fail
      refine (equal_ints _ _ out out' _ (Lies_drewN HL.out.2 _) (Lies_drewN HL'.out.2 _)).mono ?_
      rintro e w' ⟨rfl, m, rfl⟩
      rw [← HE.out]
      go_wp2
      go_ret
      exact ⟨rfl, HB.out _⟩
    | false =>
      have HR := Lib.hid hr
      have HE : Hid (sameB b b' rows rows' out out' = false) := by show _ = _; rw [HQ.out, hr]; rfl
      clear hr HQ
      go_enter Try.func68, Try.ntmps68
      go_wp2_with fail
      refine (equal_rows _ _ rows rows' _ HL.out.1 HL'.out.1).mono ?_
      rintro e w' ⟨rfl, n, rfl⟩
      rw [HR.out]
      go_wp2
      go_ret
      exact ⟨ret_b HE.out.symm, HB.out _⟩
  · have hd0 : (b == b') = false := by simpa using hb
    have HE : Hid (sameB b b' rows rows' out out' = false) := by show _ = _; rw [sameB, decide_eq_false hb]; rfl
    clear hb
    go_enter Try.func68, Try.ntmps68
    go_wp2
    go_ret
    exact ⟨ret_b HE.out.symm, HB.out 0⟩
set_option maxHeartbeats 1000000 in
theorem spec_equal (u v : Value) (b b' : Int) (rows rows' : List (List Int)) (out out' : List Int) (w : World) (h1 : LiesS w u b rows out) (h2 : LiesS w v b' rows' out') :
    Calls Try.prog 14 #[u, v] w fun e w' => e = .returned (.bool (sameB b b' rows rows' out out')) ∧ Below w.heap.size w w' := by
  have HS := Lib.hid h1
  have HS' := Lib.hid h2
  obtain ⟨an, cn, ao, co, rfl⟩ := h1.form
  obtain ⟨an', cn', ao', co', rfl⟩ := h2.form
  clear h1 h2
  have hB : Below w.heap.size w ((w.alloc (Obj.cells #[Value.int .i64 b, Value.slice an rows.length cn, Value.slice ao out.length co] 27)).alloc (Obj.cells #[Value.int .i64 b', Value.slice an' rows'.length cn', Value.slice ao' out'.length co'] 27)) := ((Below.refl _ _).alloc (Nat.le_refl _) _).alloc (by simp) _
  have HB : Hid (∀ n, Below w.heap.size w (((w.alloc (Obj.cells #[Value.int .i64 b, Value.slice an rows.length cn, Value.slice ao out.length co] 27)).alloc (Obj.cells #[Value.int .i64 b', Value.slice an' rows'.length cn', Value.slice ao' out'.length co'] 27)).drewN n)) := fun n => below_drewN hB n
  have hC' := Cells3.new (w.alloc (Obj.cells #[Value.int .i64 b, Value.slice an rows.length cn, Value.slice ao out.length co] 27)) 27 (.int .i64 b') (.slice an' rows'.length cn') (.slice ao' out'.length co')
  rw [size_alloc'] at hC'
  have HC := Lib.hid ((Cells3.new w 27 (.int .i64 b) (.slice an rows.length cn) (.slice ao out.length co)).alloc (Obj.cells #[Value.int .i64 b', Value.slice an' rows'.length cn', Value.slice ao' out'.length co'] 27))
  have HC' := Lib.hid hC'
  have HL : Hid (LiesR ((w.alloc (Obj.cells #[Value.int .i64 b, Value.slice an rows.length cn, Value.slice ao out.length co] 27)).alloc (Obj.cells #[Value.int .i64 b', Value.slice an' rows'.length cn', Value.slice ao' out'.length co'] 27)) (.slice an rows.length cn) rows ∧ Lies (Value.int .i64) ((w.alloc (Obj.cells #[Value.int .i64 b, Value.slice an rows.length cn, Value.slice ao out.length co] 27)).alloc (Obj.cells #[Value.int .i64 b', Value.slice an' rows'.length cn', Value.slice ao' out'.length co'] 27)) (.slice ao out.length co) out) := LiesS.two (HS.out.below hB)
  have HL' : Hid (LiesR ((w.alloc (Obj.cells #[Value.int .i64 b, Value.slice an rows.length cn, Value.slice ao out.length co] 27)).alloc (Obj.cells #[Value.int .i64 b', Value.slice an' rows'.length cn', Value.slice ao' out'.length co'] 27)) (.slice an' rows'.length cn') rows' ∧ Lies (Value.int .i64) ((w.alloc (Obj.cells #[Value.int .i64 b, Value.slice an rows.length cn, Value.slice ao out.length co] 27)).alloc (Obj.cells #[Value.int .i64 b', Value.slice an' rows'.length cn', Value.slice ao' out'.length co'] 27)) (.slice ao' out'.length co') out') := LiesS.two (HS'.out.below hB)
  clear hB hC'
  by_cases hb : b = b'
  · have hd0 : (b != b') = false := by simpa using hb
    have HQ : Hid (sameB b b' rows rows' out out' = (decide (rows = rows') && decide (out = out'))) := by show _ = _; rw [sameB, decide_eq_true hb]; rfl
    clear hb
    by_cases hlen : rows.length = rows'.length
    · have HLE := Lib.hid hlen
      have hd1 : ((rows.length : Int) != (rows'.length : Int)) = false := by rw [hlen]; simp
      have hle : rows.length ≤ rows'.length := by omega
      clear hlen
      cases ho : decide (out = out') with
      | true =>
        have HO := Lib.hid ho
        have HE : Hid (sameB b b' rows rows' out out' = decide (rows = rows')) := by show _ = _; rw [HQ.out, ho, Bool.and_true]
        clear ho HQ
        go_enter Try.func14, Try.ntmps14
        go_wp2_with fail
        refine (same_ints _ _ out out' _ HL.out.2 HL'.out.2).mono ?_
        rintro e w' ⟨rfl, n0, rfl⟩
        rw [HO.out]
        obtain ⟨W, hW⟩ : ∃ W, W = ((w.alloc (Obj.cells #[Value.int .i64 b, Value.slice an rows.length cn, Value.slice ao out.length co] 27)).alloc (Obj.cells #[Value.int .i64 b', Value.slice an' rows'.length cn', Value.slice ao' out'.length co'] 27)) := ⟨_, rfl⟩
        rw [← hW] at HL HL' HC HC' HB ⊢
        obtain ⟨_, _, hv, hl, hca⟩ := HL.out.1.row
        injection hv with hv1 _ _
        subst hv1
        obtain ⟨_, _, hv, hl', hcb⟩ := HL'.out.1.row
        injection hv with hv1 _ _
        subst hv1
        have HA := Lib.hid hca
        have HB2 := Lib.hid hcb
        clear hca hcb hW
        have k0 := HC.out.c0
        have k1 := HC.out.c1
        have k2 := HC.out.c2
        have m0 := HC'.out.c0
        have m1 := HC'.out.c1
        have m2 := HC'.out.c2
        go_wp2
        go_loopw [5] (fun i' wr => ∃ k : Nat, k ≤ rows.length ∧ i' = .int .i64 k ∧ Hid (∀ (j : Nat) (x y : List Int), j < k → rows[j]? = some x → rows'[j]? = some y → x = y) ∧ ∃ n, wr = W.drewN n) (fun i' _ => rows.length - (intOf i').toNat)
        case atStart => exact ⟨0, Nat.zero_le _, rfl, fun j x y h => by omega, _, rfl⟩
        case round =>
          obtain ⟨k, hk, rfl, HI, n, rfl⟩ := hrel
          by_cases hlt : k < rows.length
          · obtain ⟨x, hx⟩ : ∃ x, rows[k]? = some x := ⟨_, List.getElem?_eq_getElem hlt⟩
            obtain ⟨y, hy⟩ : ∃ y, rows'[k]? = some y := ⟨_, List.getElem?_eq_getElem (by omega)⟩
            obtain ⟨p, o, ux, rfl, hc1, lx⟩ := HA.out k x hx
            obtain ⟨q, r, uy, rfl, hc2, ly⟩ := HB2.out k y hy
            have HX := Lib.hid hx
            have HY := Lib.hid hy
            have LX := Lib.hid lx
            have LY := Lib.hid ly
            clear hx hy lx ly
            by_cases he : x = y
            · have HN : Hid (∀ (j : Nat) (x y : List Int), j < k + 1 → rows[j]? = some x → rows'[j]? = some y → x = y) := fun j x' y' hj hx' hy' => by
                by_cases e : j = k
                · subst e
                  obtain rfl := Option.some.inj (HX.out.symm.trans hx')
                  obtain rfl := Option.some.inj (HY.out.symm.trans hy')
                  exact he
                · exact HI.out j x' y' (by omega) hx' hy'
              have HD := Lib.hid (fun w l l' => same_true ux uy x y w l l' he)
              clear he
              go_wp2
              go_quiet ((go_at_call 27; exact quiet_more (HD.out _ (Lies_drewN LX.out _) (Lies_drewN LY.out _))))
              go_wp2
              go_roundw
              case rel => exact ⟨k + 1, by omega, by go_num, HN, _, rfl⟩
              case measure => simp [intOf]; omega
            · have HF : Hid (sameB b b' rows rows' out out' = false) := by show _ = _; rw [HE.out]; exact decide_eq_false (list_ne HX.out HY.out he)
              have HD := Lib.hid (fun w l l' => same_false ux uy x y w l l' he)
              clear he
              go_wp2
              go_quiet ((go_at_call 27; exact quiet_more (HD.out _ (Lies_drewN LX.out _) (Lies_drewN LY.out _))))
              go_wp2
              go_ret
              exact ⟨ret_b HF.out.symm, endsE HB.out⟩
          · have HF : Hid (sameB b b' rows rows' out out' = true) := by show _ = _; rw [HE.out]; exact decide_eq_true (list_eq HLE.out fun j x y hj => HI.out j x y (by omega))
            go_wp2
            go_ret
            exact ⟨ret_b HF.out.symm, HB.out _⟩
      | false =>
        have HO := Lib.hid ho
        have HE : Hid (sameB b b' rows rows' out out' = false) := by show _ = _; rw [HQ.out, ho, Bool.and_false]
        clear ho HQ
        go_enter Try.func14, Try.ntmps14
        go_wp2_with fail
        refine (same_ints _ _ out out' _ HL.out.2 HL'.out.2).mono ?_
        rintro e w' ⟨rfl, n0, rfl⟩
        rw [HO.out]
        go_wp2
        go_ret
        exact ⟨ret_b HE.out.symm, HB.out _⟩
    · have hd1 : ((rows.length : Int) != (rows'.length : Int)) = true := by simp; omega
      have HE : Hid (sameB b b' rows rows' out out' = false) := by show _ = _; rw [HQ.out, decide_eq_false (fun e : rows = rows' => hlen (by rw [e]))]; rfl
      clear hlen HQ
      go_enter Try.func14, Try.ntmps14
      go_wp2
      go_ret
      exact ⟨ret_b HE.out.symm, HB.out 0⟩
  · have hd0 : (b != b') = true := by simpa using hb
    have HE : Hid (sameB b b' rows rows' out out' = false) := by show _ = _; rw [sameB, decide_eq_false hb]; rfl
    clear hb
    go_enter Try.func14, Try.ntmps14
    go_wp2
    go_ret
    exact ⟨ret_b HE.out.symm, HB.out 0⟩
end Seqs
end Go.Proofs.Ytdgfecjakmdheaa
/- Contracts of the small tests on a width or a number: they answer whether the number lies in its range, and change nothing. No conditions beyond those that each states. -/
namespace Go.Proofs.Ytdgfecjakmdheaa
open Go.ChangeShapes Go.WideShapes Go.ChangeAt Go.RowKit
open Go.ChangeMaps (open_string shut_string)
open Go.PlainAid Plain
set_option linter.unusedVariables false

theorem l1In_yes (a l h : Int) (w : World) (h1 : l ≤ a) (h2 : a ≤ h) :
    Calls Try.prog 53 #[.int .i64 a, .int .i64 l, .int .i64 h] w fun e w' => e = .returned (.bool true) ∧ w = w' := by
  go_enter Try.func53, Try.ntmps53
  go_wp2
  go_ret
  exact ⟨rfl, rfl⟩
theorem l1In_no (a l h : Int) (w : World) (h1 : a < l ∨ h < a) :
    Calls Try.prog 53 #[.int .i64 a, .int .i64 l, .int .i64 h] w fun e w' => e = .returned (.bool false) ∧ w = w' := by
  by_cases h3 : l ≤ a
  · have h4 : h < a := by omega
    clear h1
    go_enter Try.func53, Try.ntmps53
    go_wp2
    go_ret
    exact ⟨by simp; omega, rfl⟩
  · clear h1
    go_enter Try.func53, Try.ntmps53
    go_wp2
    go_ret
    exact ⟨rfl, rfl⟩
end Go.Proofs.Ytdgfecjakmdheaa
