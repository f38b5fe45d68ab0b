/- Plain facts on the list of the different palindromes of a word. No conditions beyond those that each fact states. -/
import Derived.Test.YtgbgcaaekpgapabPalVal
import Derived.Test.YtgbgcaaekpgapabFacVal2
namespace Go.Proofs.Ytgbgcaaekpgapab.Plain
theorem sdl_filter (p : List Int → Bool) (ps : List (List Int)) : sdl (ps.filter p) = (sdl ps).filter p := by
  refine sdl_eq ((sdl_sd ps).sublist List.filter_sublist) fun x => ?_
  rw [List.mem_filter, List.mem_filter, sdl_mem]
/-- The palindromes of n letters; those of 1, 2, .. letters. -/
def palN (xs : List Int) (n : Nat) : List (List Int) := (sdl (wins xs n)).filter palB
def palT (xs : List Int) : Nat → List (List Int)
  | 0 => []
  | m + 1 => palT xs m ++ palN xs (m + 1)
def palK (xs : List Int) : Bool := wordB xs 16 && decide (xs.length ≤ 64)
def palV (xs : List Int) : List (List Int) := if palK xs = true then palT xs xs.length else []
theorem palK_no1 {xs : List Int} (h : wordB xs 16 = false) : palV xs = [] := by simp [palV, palK, h]
theorem palK_no2 {xs : List Int} (h : ¬ xs.length ≤ 64) : palV xs = [] := by simp [palV, palK, h]
theorem palK_yes {xs : List Int} (h : wordB xs 16 = true) (h2 : xs.length ≤ 64) : palV xs = palT xs xs.length := by simp [palV, palK, h, h2]
theorem palN_len (xs : List Int) (n : Nat) : (palN xs n).length ≤ xs.length + 1 - n := by
  unfold palN
  have h1 := List.length_filter_le palB (sdl (wins xs n))
  have h2 := sdl_len (wins xs n)
  rw [wins_len] at h2
  omega
theorem palN_row {xs : List Int} {n : Nat} {p : List Int} (h : p ∈ palN xs n) : p.length = n := wins_row ((sdl_mem _ _).1 (List.mem_filter.1 h).1)
theorem palT_len (xs : List Int) : ∀ m, (palT xs m).length ≤ m * xs.length
  | 0 => by simp [palT]
  | m + 1 => by
    have h1 := palT_len xs m
    have h2 := palN_len xs (m + 1)
    rw [palT, List.length_append, Nat.succ_mul]
    omega
theorem palT_row {xs : List Int} : ∀ {m : Nat} {p : List Int}, p ∈ palT xs m → p.length ≤ m
  | 0, p, h => by simp [palT] at h
  | m + 1, p, h => by
    rw [palT] at h
    rcases List.mem_append.1 h with h | h
    · have := palT_row h; omega
    · have := palN_row h; omega
theorem palT_small {xs : List Int} {m : Nat} (h : xs.length ≤ 64) (hm : m ≤ xs.length) : (palT xs m).length ≤ 4096 := by
  have h1 := palT_len xs m
  have h2 : m * xs.length ≤ 64 * 64 := Nat.mul_le_mul (by omega) h
  omega
theorem palV_size (xs : List Int) : tot (palV xs) ≤ 300000 := by
  unfold palV
  split
  · rename_i h
    have h64 : xs.length ≤ 64 := by simp [palK] at h; exact h.2
    have h1 := palT_small h64 (Nat.le_refl _)
    have h2 := tot_le (rows := palT xs xs.length) (n := 64) fun r hr => by have := palT_row hr; omega
    have h3 : (palT xs xs.length).length * 64 ≤ 4096 * 64 := Nat.mul_le_mul_right _ h1
    omega
  · simp [tot]
/-- What is found of the parts of n letters ahead of place i. -/
def palP (xs : List Int) (n i : Nat) : List (List Int) := sdl (((wins xs n).take i).filter palB)
theorem palP_zero (xs : List Int) (n : Nat) : palP xs n 0 = [] := rfl
theorem palP_all {xs : List Int} {n i : Nat} (h : i = xs.length + 1 - n) : palP xs n i = palN xs n := by unfold palP; rw [wins_all h]; exact sdl_filter _ _
theorem wins_at {xs : List Int} {n i : Nat} (h : i + n ≤ xs.length) : (wins xs n)[i]? = some ((xs.drop i).take n) := by
  rw [List.getElem?_eq_getElem (by rw [wins_len]; omega)]
  simp [wins]
theorem palP_yes {xs : List Int} {n i : Nat} (h : i + n ≤ xs.length) (hp : palB ((xs.drop i).take n) = true) : palP xs n (i + 1) = putW ((xs.drop i).take n) false (palP xs n i) := by
  unfold palP
  rw [filter_take (wins_at h), if_pos hp, sdl_snoc]
theorem palP_no {xs : List Int} {n i : Nat} (h : i + n ≤ xs.length) (hp : palB ((xs.drop i).take n) = false) : palP xs n (i + 1) = palP xs n i := by
  unfold palP
  rw [filter_take (wins_at h), if_neg (by rw [hp]; simp), List.append_nil]
theorem palP_len (xs : List Int) (n i : Nat) : (palP xs n i).length ≤ xs.length + 1 := by
  unfold palP
  have h1 := sdl_len (((wins xs n).take i).filter palB)
  have h2 := List.length_filter_le palB ((wins xs n).take i)
  have h3 : ((wins xs n).take i).length ≤ xs.length + 1 := by rw [List.length_take, wins_len]; omega
  omega
end Go.Proofs.Ytgbgcaaekpgapab.Plain
