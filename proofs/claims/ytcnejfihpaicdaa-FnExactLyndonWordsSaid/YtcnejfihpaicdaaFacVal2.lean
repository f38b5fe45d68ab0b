/- Plain facts on the parts of a word, on those that are followed by two letters, on what lies between two places of a part. No conditions beyond those that each fact states. -/
import Derived.Test.YtcnejfihpaicdaaFacVal
import Derived.Test.YtcnejfihpaicdaaWordVal
import Derived.Test.YtcnejfihpaicdaaSeqs
namespace Go.Proofs.Ytcnejfihpaicdaa.Plain
/-- The parts of n letters, place by place. -/
def wins (xs : List Int) (n : Nat) : List (List Int) := (List.range (xs.length + 1 - n)).map fun i => (xs.drop i).take n
theorem wins_len (xs : List Int) (n : Nat) : (wins xs n).length = xs.length + 1 - n := by simp [wins]
theorem wins_take {xs : List Int} {n i : Nat} (h : i + n ≤ xs.length) : (wins xs n).take (i + 1) = (wins xs n).take i ++ [(xs.drop i).take n] := by
  rw [List.take_succ_eq_append_getElem (by rw [wins_len]; omega)]
  simp [wins]
theorem wins_all {xs : List Int} {n i : Nat} (h : i = xs.length + 1 - n) : (wins xs n).take i = wins xs n := List.take_of_length_le (by rw [wins_len]; omega)
theorem wins_row {xs : List Int} {n : Nat} {p : List Int} (h : p ∈ wins xs n) : p.length = n := by
  simp only [wins, List.mem_map, List.mem_range] at h
  obtain ⟨i, hi, rfl⟩ := h
  rw [List.length_take, List.length_drop]
  omega
def facB (xs : List Int) : Bool := wordB xs 16 && decide (xs.length ≤ 128)
def facK (xs : List Int) (n : Int) : Bool := facB xs && decide (0 ≤ n ∧ n ≤ 40)
def facV (xs : List Int) (n : Int) : List (List Int) := if facK xs n = true then sdl (wins xs n.toNat) else []
theorem facK_out {xs : List Int} {n : Int} (h : facK xs n = true) : wordB xs 16 = true ∧ xs.length ≤ 128 ∧ 0 ≤ n ∧ n ≤ 40 := by
  simp only [facK, facB, Bool.and_eq_true, decide_eq_true_eq] at h
  exact ⟨h.1.1, h.1.2, h.2.1, h.2.2⟩
theorem facB_yes {xs : List Int} (h1 : wordB xs 16 = true) (h2 : xs.length ≤ 128) : facB xs = true := by simp [facB, h1, h2]
theorem facK_yes {xs : List Int} {n : Int} (h1 : wordB xs 16 = true) (h2 : xs.length ≤ 128) (h3 : 0 ≤ n) (h4 : n ≤ 40) : facK xs n = true := by simp [facK, facB_yes h1 h2, h3, h4]
theorem facB_no1 {xs : List Int} (h : wordB xs 16 = false) : facB xs = false := by simp [facB, h]
theorem facB_no2 {xs : List Int} (h : ¬ xs.length ≤ 128) : facB xs = false := by simp [facB]; intros; omega
theorem facK_no {xs : List Int} {n : Int} (h : facB xs = false) : facK xs n = false := by simp [facK, h]
theorem facK_no3 {xs : List Int} {n : Int} (h : ¬ (0 ≤ n ∧ n ≤ 40)) : facK xs n = false := by simp only [facK, decide_eq_false h, Bool.and_false]
theorem facV_no {xs : List Int} {n : Int} (h : facK xs n = false) : facV xs n = [] := by simp [facV, h]
theorem facV_yes {xs : List Int} {n : Nat} (h : facK xs n = true) : facV xs n = sdl (wins xs n) := by simp [facV, h]
theorem facV_row {xs : List Int} {n : Int} {p : List Int} (h : p ∈ facV xs n) : (p.length : Int) = n := by
  unfold facV at h
  split at h
  · rename_i hk
    have := wins_row ((sdl_mem _ _).1 h)
    have := facK_out hk
    omega
  · cases h
theorem facV_len (xs : List Int) (n : Int) : (facV xs n).length ≤ 129 := by
  unfold facV
  split
  · rename_i hk
    have h1 := sdl_len (wins xs n.toNat)
    have h2 := wins_len xs n.toNat
    have h3 := facK_out hk
    omega
  · simp
theorem tot_le {rows : List (List Int)} {n : Nat} (h : ∀ r ∈ rows, r.length ≤ n) : tot rows ≤ rows.length * n := by
  induction rows with
  | nil => simp [tot]
  | cons r rows ih =>
    have h1 := ih fun x hx => h x (by simp [hx])
    have h2 := h r (by simp)
    have : tot (r :: rows) = r.length + tot rows := by simp [tot]
    rw [this, List.length_cons, Nat.add_mul]
    omega
theorem facV_size (xs : List Int) (n : Int) : tot (facV xs n) ≤ 5160 := by
  by_cases hk : facK xs n = true
  · have h1 := facK_out hk
    have h2 := tot_le (rows := facV xs n) (n := 40) fun r hr => by have := facV_row hr; omega
    have h3 := facV_len xs n
    omega
  · rw [facV_no (by simpa using hk)]
    simp [tot]
def cntV (xs : List Int) (n : Int) : Int := if facK xs n = true then (facV xs n).length else -1
theorem cntV_no {xs : List Int} {n : Int} (h : facK xs n = false) : cntV xs n = -1 := by simp [cntV, h]
theorem cntV_yes {xs : List Int} {n : Int} (h : facK xs n = true) : cntV xs n = (facV xs n).length := by simp [cntV, h]
/-- The different letters that stand m places behind the places of a list. -/
def addN (l : List Int) (x : Int) : List Int := if x ∈ l then l else l ++ [x]
def folT (xs : List Int) (m : Nat) (at_ : List Int) (k : Nat) : List Int := (at_.take k).foldl (fun l i => if h : (i.toNat + m) < xs.length then addN l xs[i.toNat + m] else l) []
def folls (xs : List Int) (m : Nat) (at_ : List Int) : List Int := folT xs m at_ at_.length
theorem folT_zero (xs : List Int) (m : Nat) (at_ : List Int) : folT xs m at_ 0 = [] := rfl
theorem folT_none {xs : List Int} {m : Nat} {at_ : List Int} {k : Nat} {i : Int} (h : at_[k]? = some i) (hn : xs.length ≤ i.toNat + m) : folT xs m at_ (k + 1) = folT xs m at_ k := by
  obtain ⟨h1, h2⟩ := List.getElem?_eq_some_iff.1 h
  unfold folT
  rw [List.take_succ_eq_append_getElem h1, List.foldl_append, h2]
  simp [show ¬ i.toNat + m < xs.length from by omega]
theorem folT_some {xs : List Int} {m : Nat} {at_ : List Int} {k : Nat} {i x : Int} (h : at_[k]? = some i) (hx : xs[i.toNat + m]? = some x) : folT xs m at_ (k + 1) = addN (folT xs m at_ k) x := by
  obtain ⟨h1, h2⟩ := List.getElem?_eq_some_iff.1 h
  obtain ⟨h3, h4⟩ := List.getElem?_eq_some_iff.1 hx
  unfold folT
  rw [List.take_succ_eq_append_getElem h1, List.foldl_append, h2]
  simp [h3, h4]
theorem addN_has {l : List Int} {x : Int} (h : x ∈ l) : addN l x = l := by simp [addN, h]
theorem addN_new {l : List Int} {x : Int} (h : ¬ x ∈ l) : addN l x = l ++ [x] := by simp [addN, h]
theorem addN_len (l : List Int) (x : Int) : (addN l x).length ≤ l.length + 1 := by
  unfold addN
  split <;> simp
theorem folT_len (xs : List Int) (m : Nat) (at_ : List Int) : ∀ k, (folT xs m at_ k).length ≤ k
  | 0 => by simp [folT]
  | k + 1 => by
    have ih := folT_len xs m at_ k
    cases h : at_[k]? with
    | none =>
      have h1 := List.getElem?_eq_none_iff.1 h
      have : folT xs m at_ (k + 1) = folT xs m at_ k := by
        unfold folT
        rw [List.take_of_length_le (by omega), List.take_of_length_le (by omega)]
      rw [this]; omega
    | some i =>
      by_cases hn : xs.length ≤ i.toNat + m
      · rw [folT_none h hn]; omega
      · rw [folT_some h (List.getElem?_eq_getElem (by omega))]
        have := addN_len (folT xs m at_ k) (xs[i.toNat + m]'(by omega))
        omega
theorem folT_all {xs : List Int} {m : Nat} {at_ : List Int} {k : Nat} (h : k = at_.length) : folT xs m at_ k = folls xs m at_ := by rw [h]; rfl
/-- Is a part followed by two letters at least. -/
def rsB (xs p : List Int) : Bool := decide (2 ≤ (folls xs p.length (occ xs p)).length)
def rsV (xs : List Int) (n : Int) : List (List Int) := (facV xs n).filter (rsB xs)
theorem rsV_size (xs : List Int) (n : Int) : tot (rsV xs n) ≤ 5160 := by
  by_cases hk : facK xs n = true
  · have h1 := facK_out hk
    have h2 := tot_le (rows := rsV xs n) (n := 40) fun r hr => by have := facV_row (List.mem_filter.1 hr).1; omega
    have h3 := facV_len xs n
    have h4 : (rsV xs n).length ≤ (facV xs n).length := List.length_filter_le _ _
    omega
  · rw [rsV, facV_no (by simpa using hk)]
    simp [tot]
theorem filter_take {α : Type} {p : α → Bool} {l : List α} {k : Nat} {x : α} (h : l[k]? = some x) : (l.take (k + 1)).filter p = (l.take k).filter p ++ if p x = true then [x] else [] := by
  obtain ⟨h1, rfl⟩ := List.getElem?_eq_some_iff.1 h
  rw [List.take_succ_eq_append_getElem h1, List.filter_append]
  congr 1
  by_cases hp : p l[k] = true <;> simp [hp]
/-- What lies between one place and the next. -/
def segT (xs at_ : List Int) (k : Nat) : List (List Int) := (List.range k).map fun j => (xs.drop (at_.getD j 0).toNat).take ((at_.getD (j + 1) 0).toNat - (at_.getD j 0).toNat)
def segs (xs at_ : List Int) : List (List Int) := segT xs at_ (at_.length - 1)
theorem segT_len (xs at_ : List Int) (k : Nat) : (segT xs at_ k).length = k := by simp [segT]
theorem segT_succ {xs at_ : List Int} {k a b : Nat} (ha : at_[k]? = some (a : Int)) (hb : at_[k + 1]? = some (b : Int)) : segT xs at_ (k + 1) = segT xs at_ k ++ [(xs.drop a).take (b - a)] := by
  simp only [segT, List.range_succ, List.map_append, List.map_cons, List.map_nil]
  simp [List.getD, ha, hb]
def retK (xs ys : List Int) : Bool := facB xs && decide (0 < ys.length)
def retV (xs ys : List Int) : List (List Int) := if retK xs ys = true then sdl (segs xs (occ xs ys)) else []
theorem retK_no1 {xs ys : List Int} (h : facB xs = false) : retK xs ys = false := by simp [retK, h]
theorem retK_no2 {xs ys : List Int} (h : ys.length = 0) : retK xs ys = false := by simp [retK, h]
theorem retV_no {xs ys : List Int} (h : retK xs ys = false) : retV xs ys = [] := by simp [retV, h]
theorem retV_yes {xs ys : List Int} (h : facB xs = true) (h2 : 0 < ys.length) : retV xs ys = sdl (segs xs (occ xs ys)) := by simp [retV, retK, h, h2]
theorem retV_size (xs ys : List Int) : tot (retV xs ys) ≤ 20000 := by
  unfold retV
  split
  · rename_i hk
    simp only [retK, facB, Bool.and_eq_true, decide_eq_true_eq] at hk
    have h2 := tot_le (rows := sdl (segs xs (occ xs ys))) (n := 128) fun r hr => by
      have := (sdl_mem _ _).1 hr
      simp only [segs, segT, List.mem_map, List.mem_range] at this
      obtain ⟨i, hi, rfl⟩ := this
      rw [List.length_take, List.length_drop]
      omega
    have h3 := sdl_len (segs xs (occ xs ys))
    have h4 := occ_len xs ys
    have h5 : (segs xs (occ xs ys)).length = (occ xs ys).length - 1 := segT_len _ _ _
    have h6 : (sdl (segs xs (occ xs ys))).length * 128 ≤ 129 * 128 := Nat.mul_le_mul_right _ (by omega)
    omega
  · simp [tot]
/-- How many parts there are of each length up to n. -/
def compT (xs : List Int) (k : Nat) : List Int := (List.range k).map fun j : Nat => cntV xs j
def compV (xs : List Int) (n : Int) : List Int := if facK xs n = true then compT xs (n.toNat + 1) else []
theorem compT_succ (xs : List Int) (k : Nat) : compT xs (k + 1) = compT xs k ++ [cntV xs k] := by simp [compT, List.range_succ]
theorem compT_len (xs : List Int) (k : Nat) : (compT xs k).length = k := by simp [compT]
theorem compV_len (xs : List Int) (n : Int) : (compV xs n).length ≤ 41 := by
  unfold compV
  split
  · rename_i h
    have := facK_out h
    rw [compT_len]
    omega
  · simp
end Go.Proofs.Ytcnejfihpaicdaa.Plain
