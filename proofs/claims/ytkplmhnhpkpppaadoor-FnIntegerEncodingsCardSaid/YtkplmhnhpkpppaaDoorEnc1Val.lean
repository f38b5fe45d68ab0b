/- Plain facts: what each encoding writes is read back, whatever follows. No conditions beyond those that each fact states. -/
import Derived.Test.YtkplmhnhpkpppaaDoorVarintVal
import Derived.Test.YtkplmhnhpkpppaaDoorHexDecVal
import Derived.Test.YtkplmhnhpkpppaaDoorParseVal
namespace Go.Proofs.YtkplmhnhpkpppaaDoor.Plain
open Go.PlainAid

theorem size_append (L : List Int) (t : ByteArray) : (strOfNums L ++ t).size = L.length + t.size := by rw [ByteArray.size_append', strOfNums_size]
/-- The first bytes of a string that begins with given bytes. -/
theorem seg_front (L : List Int) (t : ByteArray) (h : AreBytes L) : bseg (strOfNums L ++ t) 0 L.length = L := by
  refine bytesOf_inj _ _ (bseg_bytes _ _ _) h ?_
  rw [bytesOf_seg _ _ _ (by rw [size_append]; omega), List.drop_zero]
  have e : (strOfNums L ++ t).data.toList = Lib.bytesOf L ++ t.data.toList := by
    rw [ByteArray.data_append, Array.toList_append]
    rfl
  rw [e, List.take_left' (by rw [Lib.bytesOf_length])]

theorem not_empty {s : ByteArray} (h : 1 ≤ s.size) : ¬ s.toList = [] ∧ s.toList.isEmpty = false := by
  rw [Lib.size_eq] at h
  have : s.toList ≠ [] := fun e => by rw [Lib.toList_data] at e; rw [e] at h; simp at h
  exact ⟨this, by simp [this]⟩
/-- What EncodeFixed writes is empty exactly where the number does not fit. -/
theorem fixedStr_size (a : Nat) (n : Int) (h : ¬ 0 < dn a n) : (fixedStr a n).size = a := by rw [fixedStr_yes h, strOfNums_size, fb_length]
theorem itoaS_size (n : Int) (h0 : -9223372036854775808 ≤ n) (h1 : n ≤ 9223372036854775807) : (itoaS n).size ≤ 21 := by
  by_cases hn : 0 ≤ n
  · obtain ⟨u, rfl⟩ := Int.eq_ofNat_of_zero_le hn
    rw [itoaS_nonneg, strOfNums_size]
    have := ds_length20 u (by omega)
    omega
  · obtain ⟨u, rfl⟩ : ∃ u : Nat, n = -(u : Int) := ⟨n.natAbs, by omega⟩
    rw [itoaS_neg u (by omega), strOfNums_size]
    have := ds_length20 u (by omega)
    simp
    omega
/-- Varints. -/
def cvl : List Int → Int
  | [] => 0
  | b :: l => cvl l * 128 + b % 128
theorem cvo_cvl (s : ByteArray) : ∀ k i : Nat, cvo s i k = cvl (bseg s i k)
  | 0, _ => rfl
  | k + 1, i => by rw [cvo_succ, cvo_cvl s k (i + 1)]; rfl
theorem cvl_vb : ∀ (f : Nat) (n : Int), 0 ≤ n → n < 128 ^ (f + 1) → cvl (vb f n) = n
  | 0, n, h0, h1 => by simp at h1; simp [vb, cvl]; omega
  | f + 1, n, h0, h1 => by
    by_cases h : n < 128
    · rw [vb_last _ _ h]; simp [cvl]; omega
    · rw [vb_step _ _ (by omega)]
      have e : (128 : Int) ^ (f + 1 + 1) = 128 ^ (f + 1) * 128 := Int.pow_succ ..
      rw [e] at h1
      have ih := cvl_vb f (n / 128) (by omega) (by omega)
      simp only [cvl]
      rw [ih]
      omega
theorem vb_length : ∀ (f k : Nat) (n : Int), k ≤ f → 0 ≤ n → n < 128 ^ (k + 1) → 1 ≤ (vb f n).length ∧ (vb f n).length ≤ k + 1
  | 0, k, n, hk, _, _ => by simp [vb]
  | f + 1, k, n, hk, h0, h1 => by
    by_cases h : n < 128
    · rw [vb_last _ _ h]; simp
    · rw [vb_step _ _ (by omega)]
      cases k with
      | zero => simp at h1; omega
      | succ k =>
        have e : (128 : Int) ^ (k + 1 + 1) = 128 ^ (k + 1) * 128 := Int.pow_succ ..
        rw [e] at h1
        have ih := vb_length f k (n / 128) (by omega) (by omega) (by omega)
        simp
        omega
theorem varint_round (n : Int) (t : ByteArray) (h0 : 0 ≤ n) (h1 : n ≤ 562949953421311) :
    1 ≤ (vb 7 n).length ∧ (vb 7 n).length ≤ 7 ∧ scan (strOfNums (vb 7 n) ++ t) 7 0 = (n, ((vb 7 n).length : Int)) := by
  have hp : (128 : Int) ^ (6 + 1) = 562949953421312 := by decide
  have hp8 : (128 : Int) ^ (7 + 1) = 72057594037927936 := by decide
  have hl := vb_length 7 6 n (by decide) h0 (by omega)
  have hb := vb_bytes7 n h0 h1
  have hseg := seg_front (vb 7 n) t hb
  have hc : cvo (strOfNums (vb 7 n) ++ t) 0 (vb 7 n).length = n := by rw [cvo_cvl, hseg]; exact cvl_vb 7 n h0 (by omega)
  have hg : gd (strOfNums (vb 7 n) ++ t) 0 (vb 7 n).length = true := (vb_eq _ 7 0 _ hl.1 (by omega)).1 (by rw [hc, hseg])
  refine ⟨hl.1, by omega, ?_⟩
  rw [scan_yes _ _ (by omega) (by rw [size_append]; omega) hg, hc]

/-- Fixed widths. -/
def pvl (l : List Int) : Int := l.foldl (fun a b => a * 256 + b) 0
theorem pvl_snoc (l : List Int) (x : Int) : pvl (l ++ [x]) = pvl l * 256 + x := by simp [pvl]
theorem pv_pvl (s : ByteArray) : ∀ k : Nat, pv s k = pvl (bseg s 0 k)
  | 0 => rfl
  | k + 1 => by rw [pv_succ, pv_pvl s k, bseg_snoc, Nat.zero_add, pvl_snoc]
theorem fb_value : ∀ (r : Nat) (n : Int), n = dn r n * 256 ^ r + pvl (fb r n)
  | 0, n => by simp [dn, fb, pvl]
  | r + 1, n => by
    have ih := fb_value r (n / 256)
    rw [dn, fb, pvl_snoc, Int.pow_succ, ← Int.mul_assoc]
    omega
theorem fixed_round (n : Int) (a : Nat) (t : ByteArray) (h : ¬ 0 < dn a n) (h0 : 0 ≤ n) : pv (strOfNums (fb a n) ++ t) a = n := by
  have hd := dn_nonneg a n h0
  have hz : dn a n = 0 := by omega
  have hv := fb_value a n
  have hs := seg_front (fb a n) t (fb_bytes a n)
  rw [fb_length] at hs
  rw [hz] at hv
  rw [pv_pvl, hs]
  omega

/-- Hexadecimal digits. -/
theorem hexl_at (t : ByteArray) : ∀ (k j : Nat), j < k → (hexl t k)[2 * j]? = some (hexd (bt t j / 16)) ∧ (hexl t k)[2 * j + 1]? = some (hexd (bt t j % 16))
  | 0, j, h => by omega
  | k + 1, j, h => by
    have hl := hexl_length t k
    by_cases e : j < k
    · have ih := hexl_at t k j e
      rw [hexl, List.getElem?_append_left (by omega), List.getElem?_append_left (by omega)]
      exact ih
    · obtain rfl : j = k := by omega
      rw [hexl, List.getElem?_append_right (by omega), List.getElem?_append_right (by omega), hl]
      simp
theorem hexl_bytes (t : ByteArray) : ∀ k : Nat, AreBytes (hexl t k)
  | 0 => fun x hx => by simp [hexl] at hx
  | k + 1 => fun x hx => by
    simp only [hexl, List.mem_append, List.mem_cons, List.not_mem_nil, or_false] at hx
    rcases hx with hx | rfl | rfl
    · exact hexl_bytes t k x hx
    · exact hexd_bd _
    · exact hexd_bd _
theorem bseg_at (s : ByteArray) : ∀ (k i j : Nat), j < k → (bseg s i k)[j]? = some (bt s (i + j))
  | 0, _, j, h => by omega
  | k + 1, i, 0, _ => by simp [bseg]
  | k + 1, i, j + 1, h => by
    simp only [bseg, List.getElem?_cons_succ]
    rw [bseg_at s k (i + 1) j (by omega), show i + 1 + j = i + (j + 1) from by omega]
theorem nums_at (L : List Int) (h : AreBytes L) (j : Nat) (hj : j < L.length) : L[j]? = some (bt (strOfNums L) j) := by
  have := bseg_at (strOfNums L) (strOfNums L).size 0 j (by rw [strOfNums_size]; exact hj)
  rwa [seg_of L h, Nat.zero_add] at this
theorem hexv_hexd (x : Int) (h0 : 0 ≤ x) (h1 : x ≤ 15) : hexv (hexd x) = x := by
  obtain ⟨k, rfl⟩ := Int.eq_ofNat_of_zero_le h0
  exact hexv_found k (by omega) _ rfl
theorem allHex_of (s : ByteArray) : ∀ n : Nat, (∀ i, i < n → 0 ≤ hexv (bt s i)) → allHex s n = true
  | 0, _ => rfl
  | n + 1, h => allHex_step (allHex_of s n (fun i hi => h i (by omega))) (h n (by omega))
theorem hex_round (t : ByteArray) : (strOfNums (hexl t t.size)).size = 2 * t.size ∧ dhOk (strOfNums (hexl t t.size)) = true ∧ dhStr (strOfNums (hexl t t.size)) = t := by
  have hsz : (strOfNums (hexl t t.size)).size = 2 * t.size := by rw [strOfNums_size, hexl_length]
  have hv : ∀ j, j < t.size → hexv (bt (strOfNums (hexl t t.size)) (2 * j)) = bt t j / 16 ∧ hexv (bt (strOfNums (hexl t t.size)) (2 * j + 1)) = bt t j % 16 := by
    intro j hj
    have h0 := bt_nonneg t j
    have h1 := bt_le t j
    have hl := hexl_length t t.size
    have ha := hexl_at t t.size j hj
    have hb := hexl_bytes t t.size
    have e0 := nums_at _ hb (2 * j) (by omega)
    have e1 := nums_at _ hb (2 * j + 1) (by omega)
    rw [ha.1] at e0
    rw [ha.2] at e1
    rw [← Option.some.inj e0, ← Option.some.inj e1, hexv_hexd _ (by omega) (by omega), hexv_hexd _ (by omega) (by omega)]
    exact ⟨rfl, rfl⟩
  have hall : allHex (strOfNums (hexl t t.size)) (strOfNums (hexl t t.size)).size = true := by
    refine allHex_of _ _ (fun i hi => ?_)
    have h2 := hv (i / 2) (by omega)
    have h0 := bt_nonneg t (i / 2)
    by_cases e : i % 2 = 0
    · rw [show 2 * (i / 2) = i from by omega] at h2; omega
    · rw [show 2 * (i / 2) + 1 = i from by omega] at h2; omega
  have hg := dh_good (by omega) hall
  refine ⟨hsz, hg.1, ?_⟩
  rw [hg.2, hsz, show 2 * t.size / 2 = t.size from by omega]
  have ho : hout (strOfNums (hexl t t.size)) t.size = bseg t 0 t.size := by
    apply List.ext_getElem?
    intro j
    by_cases hj : j < t.size
    · rw [bseg_at t t.size 0 j hj, Nat.zero_add]
      have := hv j hj
      simp only [hout, List.getElem?_map, List.getElem?_range hj, Option.map_some, hpair, this.1, this.2]
      congr 1
      omega
    · rw [List.getElem?_eq_none (by rw [hout_length]; omega), List.getElem?_eq_none (by rw [bseg_length]; omega)]
  rw [ho, ← seg_all t]

/-- Decimal numerals. -/
theorem ds_inj {u v : Nat} (h : strOfNums (ds u) = strOfNums (ds v)) : u = v := by
  have hb := seg_of (ds u) (dig_bytes (ds_dig u u (Nat.le_refl _)))
  rw [h, seg_of (ds v) (dig_bytes (ds_dig v v (Nat.le_refl _)))] at hb
  have := congrArg lv hb
  rw [lv_ds u u (Nat.le_refl _), lv_ds v v (Nat.le_refl _)] at this
  omega
theorem minus_bytes (u : Nat) : AreBytes (45 :: ds u) := fun x hx => by
  simp only [List.mem_cons] at hx
  rcases hx with rfl | hx
  · omega
  · exact dig_bytes (ds_dig u u (Nat.le_refl _)) x hx
theorem ds_minus {u v : Nat} (h : strOfNums (ds u) = strOfNums (45 :: ds v)) : False := by
  have hb := seg_of (ds u) (dig_bytes (ds_dig u u (Nat.le_refl _)))
  rw [h, seg_of _ (minus_bytes v)] at hb
  have := ds_dig u u (Nat.le_refl _) 45 (by rw [← hb]; simp)
  unfold isDig at this
  omega
theorem itoa_inj {a b : Int} (h : itoaS a = itoaS b) : a = b := by
  by_cases ha : 0 ≤ a
  · obtain ⟨u, rfl⟩ := Int.eq_ofNat_of_zero_le ha
    by_cases hb : 0 ≤ b
    · obtain ⟨v, rfl⟩ := Int.eq_ofNat_of_zero_le hb
      rw [itoaS_nonneg, itoaS_nonneg] at h
      rw [ds_inj h]
    · obtain ⟨v, rfl⟩ : ∃ v : Nat, b = -(v : Int) := ⟨b.natAbs, by omega⟩
      rw [itoaS_nonneg, itoaS_neg v (by omega)] at h
      exact (ds_minus h).elim
  · obtain ⟨u, rfl⟩ : ∃ u : Nat, a = -(u : Int) := ⟨a.natAbs, by omega⟩
    by_cases hb : 0 ≤ b
    · obtain ⟨v, rfl⟩ := Int.eq_ofNat_of_zero_le hb
      rw [itoaS_nonneg, itoaS_neg u (by omega)] at h
      exact (ds_minus h.symm).elim
    · obtain ⟨v, rfl⟩ : ∃ v : Nat, b = -(v : Int) := ⟨b.natAbs, by omega⟩
      rw [itoaS_neg u (by omega), itoaS_neg v (by omega)] at h
      have hu := seg_of _ (minus_bytes u)
      rw [h, seg_of _ (minus_bytes v)] at hu
      simp only [List.cons.injEq, true_and] at hu
      have := congrArg lv hu
      rw [lv_ds u u (Nat.le_refl _), lv_ds v v (Nat.le_refl _)] at this
      omega
theorem parse_yes (n : Int) (h0 : -999999999 ≤ n) (h1 : n ≤ 999999999) : SpecGood (itoaS n) ∧ sn (itoaS n) = n := by
  have := isNum_all (s := itoaS n) (n := n) ⟨h0, h1, rfl⟩
  exact ⟨this.1, this.2.1⟩
theorem parse_no (n : Int) (h : n < -999999999 ∨ 999999999 < n) : ¬ SpecGood (itoaS n) := by
  intro hg
  have h1 := good_isNum (itoaS n) (sn (itoaS n)) hg.2.2 (.inl ⟨hg.1, hg.2.1⟩)
  have h2 := itoa_inj hg.2.2
  rw [h2] at h1
  have := h1.1
  have := h1.2.1
  omega
end Go.Proofs.YtkplmhnhpkpppaaDoor.Plain
