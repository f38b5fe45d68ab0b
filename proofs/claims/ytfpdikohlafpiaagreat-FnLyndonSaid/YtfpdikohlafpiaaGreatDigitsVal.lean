/- Plain facts on the digits of a number: the digits, the number of some digits, padding with zeros, sums of digits. No conditions beyond those that each fact states. -/
import Derived.WalkKit
import Derived.Lib.Hide
namespace Go.Proofs.YtfpdikohlafpiaaGreat.Plain

theorem pow_bd (b i : Nat) (h1 : 2 ≤ b) (h2 : b ≤ 4) (hi : i ≤ 16) : 1 ≤ b ^ i ∧ b ^ i ≤ 4294967296 := by
  refine ⟨Nat.pow_pos (by omega), ?_⟩
  have h3 : b ^ i ≤ 4 ^ i := Nat.pow_le_pow_left h2 i
  have h4 : 4 ^ i ≤ 4 ^ 16 := Nat.pow_le_pow_right (by omega) hi
  have h5 : (4 : Nat) ^ 16 = 4294967296 := by decide
  omega

/-- The digits of n, the lowest one first, at most f of them. -/
def lows (b : Nat) : Nat → Nat → List Int
  | 0, _ => []
  | f + 1, n => if n = 0 then [] else ((n % b : Nat) : Int) :: lows b f (n / b)
/-- The digits of n, the highest one first. -/
def digs (n b : Nat) : List Int := (lows b 16 n).reverse
theorem lows_zero (b f : Nat) : lows b f 0 = [] := by cases f <;> simp [lows]
theorem lows_succ (b f n : Nat) (h : 0 < n) : lows b (f + 1) n = ((n % b : Nat) : Int) :: lows b f (n / b) := by rw [lows, if_neg (by omega)]
/-- Where the taking of n's digits stands: cs are taken (the lowest one first), m is left. -/
def DigitsAt (n b m : Nat) (cs : List Int) : Prop := ∃ f : Nat, cs.length + f = 16 ∧ m < b ^ f ∧ cs ++ lows b f m = lows b 16 n
theorem digits_start (n b : Nat) (h : n < b ^ 16) : DigitsAt n b n [] := ⟨16, rfl, h, rfl⟩
theorem digits_bd {n b m : Nat} {cs : List Int} (h : DigitsAt n b m cs) (h1 : 2 ≤ b) (h2 : b ≤ 4) : m ≤ 4294967295 ∧ cs.length ≤ 16 := by
  obtain ⟨f, hl, hm, _⟩ := h
  have := pow_bd b f h1 h2 (by omega)
  omega
theorem digits_step {n b m : Nat} {cs : List Int} (h : DigitsAt n b m cs) (hm : 0 < m) : DigitsAt n b (m / b) (cs ++ [((m % b : Nat) : Int)]) ∧ cs.length + 1 ≤ 16 := by
  obtain ⟨f, hl, h1, he⟩ := h
  cases f with
  | zero => simp at h1; omega
  | succ f =>
    refine ⟨⟨f, by simp; omega, ?_, ?_⟩, by omega⟩
    · rw [Nat.div_lt_iff_lt_mul (by rcases Nat.eq_zero_or_pos b with rfl | h; · simp at h1
                                    · exact h)]
      rw [Nat.pow_succ] at h1
      exact h1
    · rw [← he, lows_succ b f m hm]
      simp
theorem digits_end {n b : Nat} {cs : List Int} (h : DigitsAt n b 0 cs) : cs = lows b 16 n := by
  obtain ⟨f, _, _, he⟩ := h
  rw [← he, lows_zero, List.append_nil]
theorem lows_len (b : Nat) : ∀ f n, (lows b f n).length ≤ f
  | 0, n => by simp [lows]
  | f + 1, n => by
    rw [lows]
    split
    · simp
    · have := lows_len b f (n / b)
      simp
      omega
theorem digs_len (n b : Nat) : (digs n b).length ≤ 16 := by have := lows_len b 16 n; simp [digs]; omega
theorem lows_mem (b : Nat) (h : 2 ≤ b) : ∀ f n, ∀ x ∈ lows b f n, 0 ≤ x ∧ x < b
  | 0, n, x, hx => by simp [lows] at hx
  | f + 1, n, x, hx => by
    rw [lows] at hx
    split at hx
    · cases hx
    · simp only [List.mem_cons] at hx
      rcases hx with rfl | hx
      · have := Nat.mod_lt n (show 0 < b by omega)
        omega
      · exact lows_mem b h f _ x hx
theorem digs_mem (n b : Nat) (h : 2 ≤ b) : ∀ x ∈ digs n b, 0 ≤ x ∧ x < b := fun x hx => lows_mem b h 16 n x (by simpa [digs] using hx)

/-- The number of some digits. -/
def valD (b : Nat) (xs : List Int) : Int := xs.foldl (fun n d => n * b + d) 0
theorem valD_snoc (b : Nat) (xs : List Int) (d : Int) : valD b (xs ++ [d]) = valD b xs * b + d := by simp [valD]
theorem valD_lows (b : Nat) : ∀ f n, n < b ^ f → valD b (lows b f n).reverse = n
  | 0, n, h => by simp at h; subst h; rfl
  | f + 1, n, h => by
    rcases Nat.eq_zero_or_pos n with rfl | hn
    · rw [lows_zero]; rfl
    · have hb : 0 < b := by
        rcases Nat.eq_zero_or_pos b with rfl | hb
        · simp at h
        · exact hb
      rw [Nat.pow_succ] at h
      rw [lows_succ b f n hn, List.reverse_cons, valD_snoc, valD_lows b f (n / b) ((Nat.div_lt_iff_lt_mul hb).2 h)]
      have := Nat.div_add_mod n b
      have h2 : ((n / b : Nat) : Int) * b = ((b * (n / b) : Nat) : Int) := by rw [Int.natCast_mul, Int.mul_comm]
      rw [h2]
      omega
theorem valD_digs (n b : Nat) (h : n < b ^ 16) : valD b (digs n b) = n := valD_lows b 16 n h
theorem valD_zeros (b k : Nat) (xs : List Int) : valD b (List.replicate k 0 ++ xs) = valD b xs := by
  have h : ∀ k : Nat, (List.replicate k (0 : Int)).foldl (fun n d : Int => n * b + d) 0 = 0 := by
    intro k
    induction k with
    | zero => rfl
    | succ k ih => rw [List.replicate_succ, List.foldl_cons, Int.zero_mul, Int.zero_add, ih]
  rw [valD, List.foldl_append, h]
  rfl
theorem valD_bd (b : Nat) (hb : 2 ≤ b) : ∀ (k : Nat) (xs : List Int), k ≤ xs.length → (∀ x ∈ xs, 0 ≤ x ∧ x < b) → 0 ≤ valD b (xs.take k) ∧ valD b (xs.take k) < ((b ^ k : Nat) : Int)
  | 0, xs, _, _ => by simp [valD]
  | k + 1, xs, hk, h => by
    have ih := valD_bd b hb k xs (by omega) h
    have hx := h xs[k] (List.getElem_mem _)
    rw [List.take_succ_eq_append_getElem (by omega), valD_snoc, Nat.pow_succ]
    have h1 : 0 ≤ valD b (xs.take k) * (b : Int) := Int.mul_nonneg ih.1 (by omega)
    have h2 : (valD b (xs.take k) + 1) * (b : Int) ≤ ((b ^ k : Nat) : Int) * (b : Int) := Int.mul_le_mul_of_nonneg_right (by omega) (by omega)
    rw [Int.add_mul, Int.one_mul] at h2
    rw [Int.natCast_mul]
    omega
/-- The sum of a list. -/
def sumD (xs : List Int) : Int := xs.foldl (fun n d => n + d) 0
theorem sumD_snoc (xs : List Int) (d : Int) : sumD (xs ++ [d]) = sumD xs + d := by simp [sumD]
theorem sumD_bd (b : Nat) : ∀ (k : Nat) (xs : List Int), k ≤ xs.length → (∀ x ∈ xs, 0 ≤ x ∧ x < b) → 0 ≤ sumD (xs.take k) ∧ sumD (xs.take k) ≤ k * b
  | 0, xs, _, _ => by simp [sumD]
  | k + 1, xs, hk, h => by
    have ih := sumD_bd b k xs (by omega) h
    have hx := h xs[k] (List.getElem_mem _)
    rw [List.take_succ_eq_append_getElem (by omega), sumD_snoc]
    have : ((k + 1 : Nat) : Int) * (b : Int) = (k : Int) * b + b := by rw [Int.natCast_add, Int.add_mul]; simp
    omega
theorem sum_mod (b : Nat) (hb : 2 ≤ b) : ∀ f n, n < b ^ f → ∃ q : Int, (n : Int) - sumD (lows b f n).reverse = q * ((b : Int) - 1)
  | 0, n, h => ⟨0, by simp at h; subst h; simp [lows, sumD]⟩
  | f + 1, n, h => by
    rcases Nat.eq_zero_or_pos n with rfl | hn
    · exact ⟨0, by rw [lows_zero]; simp [sumD]⟩
    · rw [Nat.pow_succ] at h
      obtain ⟨q, hq⟩ := sum_mod b hb f (n / b) ((Nat.div_lt_iff_lt_mul (by omega)).2 h)
      refine ⟨q + ((n / b : Nat) : Int), ?_⟩
      rw [lows_succ b f n hn, List.reverse_cons, sumD_snoc, Int.add_mul, ← hq, Int.mul_sub, Int.mul_one]
      have := Nat.div_add_mod n b
      have h2 : ((n / b : Nat) : Int) * b = ((b * (n / b) : Nat) : Int) := by rw [Int.natCast_mul, Int.mul_comm]
      rw [h2]
      omega
/-- No digits begin with a zero. -/
theorem lows_last (b : Nat) (hb : 2 ≤ b) : ∀ f n, n < b ^ f → 0 < n → ∃ x cs, lows b f n = cs ++ [x] ∧ x ≠ 0
  | 0, n, h, hn => by simp at h; omega
  | f + 1, n, h, hn => by
    rw [Nat.pow_succ] at h
    rw [lows_succ b f n hn]
    rcases Nat.eq_zero_or_pos (n / b) with h0 | h0
    · refine ⟨((n % b : Nat) : Int), [], by rw [h0, lows_zero]; rfl, ?_⟩
      have : n < b := by
        rcases Nat.div_eq_zero_iff.1 h0 with h | h <;> omega
      rw [Nat.mod_eq_of_lt this]
      omega
    · obtain ⟨x, cs, he, hx⟩ := lows_last b hb f (n / b) ((Nat.div_lt_iff_lt_mul (by omega)).2 h) h0
      exact ⟨x, _ :: cs, by rw [he]; rfl, hx⟩
theorem digs_head (n b : Nat) (hb : 2 ≤ b) (h : n < b ^ 16) : digs n b = [] ∨ ∃ x cs, digs n b = x :: cs ∧ x ≠ 0 := by
  rcases Nat.eq_zero_or_pos n with rfl | hn
  · exact .inl (by simp [digs, lows_zero])
  · obtain ⟨x, cs, he, hx⟩ := lows_last b hb 16 n h hn
    exact .inr ⟨x, cs.reverse, by simp [digs, he], hx⟩

/-- Whether xs are digits of base b. -/
def areD (b : Int) (xs : List Int) : Bool := decide (2 ≤ b ∧ b ≤ 4 ∧ xs.length ≤ 16 ∧ ∀ x ∈ xs, 0 ≤ x ∧ x < b)
theorem areD_yes {b : Int} {xs : List Int} (h0 : 2 ≤ b) (h1 : b ≤ 4) (h2 : xs.length ≤ 16) (h3 : ∀ x ∈ xs, 0 ≤ x ∧ x < b) : areD b xs = true := decide_eq_true ⟨h0, h1, h2, h3⟩
theorem areD_base {b : Int} (xs : List Int) (h : b < 2 ∨ 4 < b) : areD b xs = false := decide_eq_false (fun h' => by omega)
theorem areD_long {b : Int} {xs : List Int} (h : 16 < xs.length) : areD b xs = false := decide_eq_false (fun h' => by omega)
theorem areD_at {b : Int} {xs : List Int} (k : Nat) (hk : k < xs.length) (h : xs[k] < 0 ∨ b ≤ xs[k]) : areD b xs = false := decide_eq_false (fun h' => by
  have := h'.2.2.2 xs[k] (List.getElem_mem _)
  omega)
theorem areD_out {b : Int} {xs : List Int} (h : areD b xs = true) : 2 ≤ b ∧ b ≤ 4 ∧ xs.length ≤ 16 ∧ ∀ x ∈ xs, 0 ≤ x ∧ x < b := of_decide_eq_true h
theorem mem_of_all {p : Int → Prop} {xs : List Int} (h : ∀ i, (hi : i < xs.length) → p xs[i]) : ∀ x ∈ xs, p x := fun x hx => by
  obtain ⟨i, hi, rfl⟩ := List.getElem_of_mem hx
  exact h i hi
/-- xs with zeros before it up to w numbers. -/
def padD (w : Int) (xs : List Int) : List Int := if w ≤ xs.length ∨ 16 < w then xs else List.replicate (w.toNat - xs.length) 0 ++ xs
end Go.Proofs.YtfpdikohlafpiaaGreat.Plain
