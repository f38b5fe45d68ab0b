/- Plain facts on the words of a number, on the Lyndon words among them, and on how many there are by the formulas of Moebius and of the classes. No conditions beyond those that each fact states. -/
import Derived.Test.YtcnejfihpaicdaaLynVal
namespace Go.Proofs.Ytcnejfihpaicdaa.Plain

/-- The word of n letters of a number, the first letter counts most. -/
def wd (a : Nat) : Nat → Nat → List Int
  | 0, _ => []
  | n + 1, c => wd a n (c / a) ++ [((c % a : Nat) : Int)]
theorem wd_len (a : Nat) : ∀ n c, (wd a n c).length = n
  | 0, _ => rfl
  | n + 1, c => by simp [wd, wd_len a n]
theorem wd_range {a : Nat} (h : 0 < a) : ∀ n c, ∀ x ∈ wd a n c, 0 ≤ x ∧ x < a
  | 0, _, x, hx => by simp [wd] at hx
  | n + 1, c, x, hx => by
    rw [wd, List.mem_append] at hx
    rcases hx with hx | hx
    · exact wd_range h n _ x hx
    · rw [List.mem_singleton] at hx
      have := Nat.mod_lt c h
      omega
theorem wd_lt {a : Nat} (h : 0 < a) : ∀ n c c', c < c' → c' < a ^ n → cmpW (wd a n c) (wd a n c') < 0
  | 0, c, c', h1, h2 => by simp at h2; omega
  | n + 1, c, c', h1, h2 => by
    have hd := Nat.div_le_div_right (c := a) (Nat.le_of_lt h1)
    have hc := Nat.div_add_mod c a
    have hc' := Nat.div_add_mod c' a
    have hlt : c' / a < a ^ n := by
      rw [Nat.pow_succ, Nat.mul_comm] at h2
      exact Nat.div_lt_of_lt_mul h2
    unfold wd
    by_cases e : c / a = c' / a
    · rw [e, cmpW_pre]
      rw [e] at hc
      have : c % a < c' % a := by omega
      simp only [cmpW]
      rw [if_pos (by omega)]
      omega
    · exact lt_app _ _ (lt_find (wd_lt h n _ _ (by omega) hlt) (by rw [wd_len, wd_len]; omega))
theorem wd_all {a : Nat} (h : 0 < a) : ∀ n (x : List Int), x.length = n → (∀ y ∈ x, 0 ≤ y ∧ y < a) → ∃ c, c < a ^ n ∧ x = wd a n c
  | 0, x, hl, _ => ⟨0, by simp, by rw [List.length_eq_zero_iff.1 hl]; rfl⟩
  | n + 1, x, hl, hx => by
    have hne : x ≠ [] := fun e => by rw [e] at hl; simp at hl
    obtain ⟨y, z, rfl⟩ : ∃ y z, x = y ++ [z] := ⟨x.dropLast, x.getLast hne, (List.dropLast_concat_getLast hne).symm⟩
    obtain ⟨c, hc, rfl⟩ := wd_all h n y (by rw [List.length_append] at hl; simpa using hl) (fun q hq => hx q (List.mem_append.2 (.inl hq)))
    have hz := hx z (by simp)
    refine ⟨a * c + z.toNat, ?_, ?_⟩
    · have : a * (c + 1) ≤ a * a ^ n := Nat.mul_le_mul_left a hc
      rw [Nat.mul_succ] at this
      rw [Nat.pow_succ, Nat.mul_comm (a ^ n) a]
      omega
    · rw [show wd a (n + 1) (a * c + z.toNat) = wd a n ((a * c + z.toNat) / a) ++ [(((a * c + z.toNat) % a : Nat) : Int)] from rfl]
      rw [Nat.mul_add_div h, Nat.mul_add_mod, Nat.div_eq_of_lt (by omega), Nat.mod_eq_of_lt (by omega), Nat.add_zero, Int.toNat_of_nonneg hz.1]
def lynW (a n : Nat) : List (List Int) := ((List.range (a ^ n)).map (wd a n)).filter lyB
theorem lynW_mem {a n : Nat} (h : 0 < a) {x : List Int} : x ∈ lynW a n ↔ x.length = n ∧ (∀ y ∈ x, 0 ≤ y ∧ y < a) ∧ Lyn x := by
  unfold lynW
  rw [List.mem_filter, List.mem_map, lyB_iff]
  constructor
  · rintro ⟨⟨c, hc, rfl⟩, hl⟩
    exact ⟨wd_len a n c, wd_range h n c, hl⟩
  · rintro ⟨h1, h2, h3⟩
    obtain ⟨c, hc, rfl⟩ := wd_all h n x h1 h2
    exact ⟨⟨c, List.mem_range.2 hc, rfl⟩, h3⟩
theorem lynW_sd {a n : Nat} (h : 0 < a) : SD (lynW a n) := by
  unfold lynW SD
  refine List.Pairwise.filter _ ?_
  rw [List.pairwise_map]
  refine List.Pairwise.imp_of_mem (fun {c c'} h1 h2 hlt => wd_lt h n c c' hlt (List.mem_range.1 h2)) List.pairwise_lt_range
def mobA : Nat → Nat → Nat → Int → Int
  | 0, _, _, m => m
  | f + 1, p, n, m => if p ≤ n then (if n % p = 0 then (if n / p % p = 0 then 0 else mobA f (p + 1) (n / p) (-m)) else mobA f (p + 1) n m) else m
def mob (n : Nat) : Int := mobA n 2 n 1
def clS (a n : Nat) : Int := ((List.range n).map fun d => if n % (d + 1) = 0 then mob (d + 1) * ((a ^ (n / (d + 1)) : Nat) : Int) else 0).sum
def clV (a n : Nat) : Int := clS a n / (n : Int)
def cnS (a n : Nat) : Nat := ((List.range n).map fun k => a ^ Nat.gcd n k).sum
def cnV (a n : Nat) : Nat := cnS a n / n
/-- The numbers from 1 on. -/
theorem cl_table : ∀ a, a < 4 → ∀ n, n < 8 → (a + 1) ^ (n + 1) ≤ 300 → ((lynW (a + 1) (n + 1)).length : Int) = clV (a + 1) (n + 1) := by
  have h : ((List.range 4).all fun a => (List.range 8).all fun n => decide (300 < (a + 1) ^ (n + 1)) || decide (((lynW (a + 1) (n + 1)).length : Int) = clV (a + 1) (n + 1))) = true := by kernel_rfl
  intro a ha n hn hp
  have h1 := List.all_eq_true.1 (List.all_eq_true.1 h a (List.mem_range.2 ha)) n (List.mem_range.2 hn)
  rw [Bool.or_eq_true, decide_eq_true_eq, decide_eq_true_eq] at h1
  rcases h1 with e | e
  · omega
  · exact e
theorem cl_words {a n : Nat} (ha : 1 ≤ a ∧ a ≤ 4) (hn : 1 ≤ n ∧ n ≤ 8) (hp : a ^ n ≤ 300) : ((lynW a n).length : Int) = clV a n := by
  obtain ⟨a, rfl⟩ : ∃ b, a = b + 1 := ⟨a - 1, by omega⟩
  obtain ⟨n, rfl⟩ : ∃ m, n = m + 1 := ⟨n - 1, by omega⟩
  exact cl_table a (by omega) n (by omega) hp
end Go.Proofs.Ytcnejfihpaicdaa.Plain
