/- Plain facts on varints: the number that the first bytes of a string carry, seven bits each, the lowest first; when those bytes are that number's varint; what a reader of the bytes finds. No conditions beyond those that each fact states. -/
import Derived.Test.YtkplmhnhpkpppaaDoorPlain
import Derived.Test.YtkplmhnhpkpppaaDoorBytes
namespace Go.Proofs.YtkplmhnhpkpppaaDoor.Plain
open Go.PlainAid

/-- The number whose seven-bit groups the k bytes of s from i on carry. -/
def cvo (s : ByteArray) : Nat → Nat → Int
  | _, 0 => 0
  | i, k + 1 => cvo s (i + 1) k * 128 + bt s i % 128
theorem cvo_succ (s : ByteArray) (i k : Nat) : cvo s i (k + 1) = cvo s (i + 1) k * 128 + bt s i % 128 := rfl
theorem cvo_bd (s : ByteArray) : ∀ k i : Nat, 0 ≤ cvo s i k ∧ cvo s i k < 128 ^ k
  | 0, _ => ⟨Int.le_refl _, by show (0 : Int) < 1; omega⟩
  | k + 1, i => by
    have ih := cvo_bd s k (i + 1)
    have h1 := bt_nonneg s i
    rw [cvo_succ, Int.pow_succ]
    omega
theorem pow128_le (k : Nat) (h : k ≤ 6) : (128 : Int) ^ k ≤ 4398046511104 := by
  have : k = 0 ∨ k = 1 ∨ k = 2 ∨ k = 3 ∨ k = 4 ∨ k = 5 ∨ k = 6 := by omega
  rcases this with rfl | rfl | rfl | rfl | rfl | rfl | rfl <;> decide
theorem cvo_small (s : ByteArray) (i k : Nat) (h : k ≤ 6) : 0 ≤ cvo s i k ∧ cvo s i k ≤ 4398046511103 := by
  have := cvo_bd s k i
  have := pow128_le k h
  omega
theorem cvo_small7 (s : ByteArray) (i k : Nat) (h : k ≤ 7) : 0 ≤ cvo s i k ∧ cvo s i k ≤ 562949953421311 := by
  by_cases e : k = 7
  · subst e
    have := cvo_bd s 7 i
    have : (128 : Int) ^ 7 = 562949953421312 := by decide
    omega
  · have := cvo_small s i k (by omega)
    omega
theorem cvo_snoc (s : ByteArray) : ∀ k i : Nat, cvo s i (k + 1) = cvo s i k + bt s (i + k) % 128 * 128 ^ k
  | 0, i => by simp [cvo]
  | k + 1, i => by
    rw [cvo_succ, cvo_snoc s k (i + 1), cvo_succ s i k, Int.pow_succ, show i + 1 + k = i + (k + 1) from by omega, Int.add_mul, Int.mul_assoc]
    omega

/-- Are the k bytes from i on the varint of the number that they carry? -/
def gd (s : ByteArray) : Nat → Nat → Bool
  | _, 0 => false
  | i, 1 => decide (bt s i < 128)
  | i, k + 2 => decide (1 ≤ cvo s (i + 1) (k + 1)) && decide (128 ≤ bt s i) && gd s (i + 1) (k + 1)
theorem vb_eq (s : ByteArray) : ∀ f i k : Nat, 1 ≤ k → k ≤ f → (vb f (cvo s i k) = bseg s i k ↔ gd s i k = true)
  | 0, _, k, h1, h2 => by omega
  | f + 1, i, 1, _, _ => by
    have h0 := bt_nonneg s i
    have h : cvo s i 1 = bt s i % 128 := by simp [cvo]
    rw [h, vb_last _ _ (by omega)]
    simp only [bseg, gd, decide_eq_true_eq, List.cons.injEq, and_true]
    omega
  | f + 1, i, k + 2, _, h2 => by
    have h0 := bt_nonneg s i
    have hb := bt_le s i
    have ih := vb_eq s f (i + 1) (k + 1) (by omega) (by omega)
    have hc := cvo_bd s (k + 1) (i + 1)
    rw [cvo_succ]
    by_cases h1 : 1 ≤ cvo s (i + 1) (k + 1)
    · rw [vb_step _ _ (by omega)]
      have e1 : (cvo s (i + 1) (k + 1) * 128 + bt s i % 128) / 128 = cvo s (i + 1) (k + 1) := by omega
      have e2 : (cvo s (i + 1) (k + 1) * 128 + bt s i % 128) % 128 = bt s i % 128 := by omega
      rw [e1, e2]
      simp only [bseg, gd, List.cons.injEq, Bool.and_eq_true, decide_eq_true_eq]
      have ih' : vb f (cvo s (i + 1) (k + 1)) = bt s (i + 1) :: bseg s (i + 1 + 1) k ↔ gd s (i + 1) (k + 1) = true := ih
      rw [ih']
      constructor
      · rintro ⟨a, b⟩; exact ⟨⟨h1, by omega⟩, b⟩
      · rintro ⟨⟨_, a⟩, b⟩; exact ⟨by omega, b⟩
    · rw [vb_last _ _ (by omega)]
      simp [bseg, gd, h1]
theorem gd_parts (s : ByteArray) : ∀ k i : Nat, gd s i k = true → 1 ≤ k ∧ (∀ t, t + 1 < k → 128 ≤ bt s (i + t)) ∧ bt s (i + (k - 1)) < 128 ∧ (k = 1 ∨ bt s (i + (k - 1)) ≠ 0)
  | 0, _, h => by simp [gd] at h
  | 1, i, h => by
    simp only [gd, decide_eq_true_eq] at h
    exact ⟨by omega, fun t ht => by omega, by simpa using h, .inl rfl⟩
  | k + 2, i, h => by
    simp only [gd, Bool.and_eq_true, decide_eq_true_eq] at h
    obtain ⟨⟨h1, h2⟩, h3⟩ := h
    obtain ⟨_, ha, hb, hc⟩ := gd_parts s (k + 1) (i + 1) h3
    have e : i + (k + 2 - 1) = i + 1 + (k + 1 - 1) := by omega
    refine ⟨by omega, ?_, by rw [e]; exact hb, .inr ?_⟩
    · intro t ht
      cases t with
      | zero => exact h2
      | succ t => have := ha t (by omega); rwa [show i + (t + 1) = i + 1 + t from by omega]
    · rw [e]
      rcases hc with hc | hc
      · obtain rfl : k = 0 := by omega
        have hz : cvo s (i + 1) 1 = bt s (i + 1) % 128 := by simp [cvo]
        have h0 := bt_nonneg s (i + 1)
        simp only [Nat.zero_add] at h1
        rw [hz] at h1
        simp at hb ⊢
        omega
      · exact hc
theorem gd_of (s : ByteArray) : ∀ k i : Nat, (∀ t, t < k → 128 ≤ bt s (i + t)) → bt s (i + k) < 128 → (k = 0 ∨ bt s (i + k) ≠ 0) → gd s i (k + 1) = true
  | 0, i, _, h, _ => by simpa [gd] using h
  | k + 1, i, ha, hb, hc => by
    have hne : bt s (i + (k + 1)) ≠ 0 := by
      rcases hc with h | h
      · omega
      · exact h
    have e : i + (k + 1) = i + 1 + k := by omega
    have ih := gd_of s k (i + 1) (fun t ht => by have := ha (t + 1) (by omega); rwa [show i + 1 + t = i + (t + 1) from by omega]) (by rw [← e]; exact hb) (.inr (by rw [← e]; exact hne))
    have h1 : 128 ≤ bt s i := ha 0 (by omega)
    simp only [gd, Bool.and_eq_true, decide_eq_true_eq]
    refine ⟨⟨?_, h1⟩, ih⟩
    rw [cvo_snoc, ← e]
    have h2 := (cvo_bd s k (i + 1)).1
    have h3 := bt_nonneg s (i + (k + 1))
    have h4 : bt s (i + (k + 1)) % 128 = bt s (i + (k + 1)) := by omega
    have h5 : (1 : Int) ≤ 128 ^ k := by have := Int.pow_pos (n := 128) (m := k) (by decide); omega
    have h6 : 1 * 1 ≤ bt s (i + (k + 1)) * 128 ^ k := Int.mul_le_mul (by omega) h5 (by decide) (by omega)
    rw [h4]
    omega

/-- What a reader of a varint finds: the number and its length; 0 and 0 if there is none. -/
def scan (s : ByteArray) : Nat → Nat → Int × Int
  | 0, _ => (0, 0)
  | f + 1, i => if i < s.size then (if 128 ≤ bt s i then scan s f (i + 1) else if 0 < i ∧ bt s i = 0 then (0, 0) else (cvo s 0 (i + 1), (i : Int) + 1)) else (0, 0)
theorem scan_to (s : ByteArray) : ∀ f i j : Nat, (∀ t, i ≤ t → t < i + j → 128 ≤ bt s t ∧ t < s.size) → scan s (f + j) i = scan s f (i + j)
  | _, _, 0, _ => rfl
  | f, i, j + 1, h => by
    have h0 := h i (by omega) (by omega)
    show scan s (f + j + 1) i = _
    rw [scan, if_pos h0.2, if_pos h0.1, scan_to s f (i + 1) j (fun t a b => h t (by omega) (by omega)), show i + 1 + j = i + (j + 1) from by omega]
theorem scan_yes (s : ByteArray) (k : Nat) (h1 : k ≤ 7) (h2 : k ≤ s.size) (h : gd s 0 k = true) : scan s 7 0 = (cvo s 0 k, (k : Int)) := by
  obtain ⟨a, b, c, d⟩ := gd_parts s k 0 h
  simp only [Nat.zero_add] at b c d
  obtain ⟨j, rfl⟩ : ∃ j, k = j + 1 := ⟨k - 1, by omega⟩
  simp only [Nat.add_sub_cancel] at c d
  have e : scan s 7 0 = scan s (7 - j) j := by
    have := scan_to s (7 - j) 0 j (fun t _ ht => ⟨b t (by omega), by omega⟩)
    rwa [show 7 - j + j = 7 from by omega, Nat.zero_add] at this
  rw [e, show 7 - j = 6 - j + 1 from by omega, scan, if_pos (by omega), if_neg (by omega), if_neg (by omega)]
  simp
theorem scan_no (s : ByteArray) (h : ∀ k, 1 ≤ k → k ≤ 7 → k ≤ s.size → gd s 0 k = false) : scan s 7 0 = (0, 0) := by
  have key : ∀ f i : Nat, i + f = 7 → (∀ t, t < i → 128 ≤ bt s t) → scan s f i = (0, 0) := by
    intro f
    induction f with
    | zero => intro i _ _; rfl
    | succ f ih =>
      intro i hi ht
      rw [scan]
      by_cases h1 : i < s.size
      · rw [if_pos h1]
        by_cases h2 : 128 ≤ bt s i
        · rw [if_pos h2]
          exact ih (i + 1) (by omega) (fun t h3 => by
            by_cases e : t = i
            · subst e; exact h2
            · exact ht t (by omega))
        · rw [if_neg h2]
          by_cases h3 : 0 < i ∧ bt s i = 0
          · rw [if_pos h3]
          · have hg := gd_of s i 0 (fun t h4 => by rw [Nat.zero_add]; exact ht t h4) (by rw [Nat.zero_add]; omega) (by rw [Nat.zero_add]; omega)
            rw [h (i + 1) (by omega) (by omega) (by omega)] at hg
            cases hg
      · rw [if_neg h1]
  exact key 7 0 rfl (fun t ht => by omega)

/-- 'n | d << j' where n has no bit from j on. -/
theorem or_high (j : Nat) (hj : j ≤ 42) (y d : Int) (hy0 : 0 ≤ y) (hy1 : y < 2 ^ j) (hd0 : 0 ≤ d) (hd1 : d < 128) : bits .or .i64 y (RowKit.wrap64 (d * 2 ^ j)) = y + d * 2 ^ j := by
  have hp0 : (0 : Int) < 2 ^ j := Int.pow_pos (by decide)
  have hp1 : (2 : Int) ^ j ≤ 4398046511104 := by
    have h : (2 : Nat) ^ j ≤ 2 ^ 42 := Nat.pow_le_pow_right (by decide) hj
    have h2 : ((2 ^ j : Nat) : Int) = (2 : Int) ^ j := by simp
    omega
  have hm0 : 0 ≤ d * 2 ^ j := Int.mul_nonneg hd0 (by omega)
  have hm1 : d * 2 ^ j ≤ 127 * 4398046511104 := Int.mul_le_mul (by omega) hp1 (by omega) (by decide)
  rw [IntWalk.wrap64_in _ ⟨by omega, by omega⟩]
  have hc : bits .or .i64 y (d * 2 ^ j) = bits .or .i64 (d * 2 ^ j) y := by simp only [bits, BitVec.or_comm]
  rw [hc, bits_join .i64 63 (by decide) wraps_i64 j (d * 2 ^ j) y hm0 (Int.mul_emod_left _ _) (by omega) hy0 hy1 (by omega)]
  omega
theorem or_cvo (s : ByteArray) (k : Nat) (hk : k < 7) : bits .or .i64 (cvo s 0 k) (RowKit.wrap64 (bt s k % 128 * 2 ^ (7 * k))) = cvo s 0 (k + 1) := by
  have e : (128 : Int) ^ k = 2 ^ (7 * k) := by rw [Int.pow_mul]; rfl
  have hb := cvo_bd s k 0
  rw [e] at hb
  have h0 := bt_nonneg s k
  rw [or_high (7 * k) (by omega) _ _ hb.1 hb.2 (by omega) (by omega), cvo_snoc, e, Nat.zero_add]
theorem scan_at (s : ByteArray) (k : Nat) (h7 : k < 7) (h : scan s (7 - k) k = scan s 7 0) (hlt : k < s.size) :
    scan s 7 0 = if 128 ≤ bt s k then scan s (7 - (k + 1)) (k + 1) else if 0 < k ∧ bt s k = 0 then (0, 0) else (cvo s 0 (k + 1), (k : Int) + 1) := by
  rw [← h, show 7 - k = 7 - (k + 1) + 1 from by omega, scan, if_pos hlt]
theorem scan_out (s : ByteArray) (k : Nat) (hk : k ≤ 7) (h : scan s (7 - k) k = scan s 7 0) (hlt : s.size ≤ k ∨ k = 7) : scan s 7 0 = (0, 0) := by
  rw [← h]
  by_cases e : k = 7
  · subst e; rfl
  · rw [show 7 - k = 7 - (k + 1) + 1 from by omega, scan, if_neg (by omega)]
/-- The model's test: are the first k bytes of s what the number that they carry is written as? -/
theorem cmp_gd (s : ByteArray) (k : Nat) (h1 : 1 ≤ k) (h7 : k ≤ 7) (hs : k ≤ s.size) : ((strOfNums (vb 7 (cvo s 0 k))).toList == (s.extract 0 k).toList) = gd s 0 k := by
  have hb := cvo_small7 s 0 k h7
  rw [seg_take s k hs, nums_beq _ _ (vb_bytes7 _ hb.1 hb.2) (bseg_bytes s k 0), Bool.eq_iff_iff, decide_eq_true_eq]
  exact vb_eq s 7 0 k h1 h7
end Go.Proofs.YtkplmhnhpkpppaaDoor.Plain
