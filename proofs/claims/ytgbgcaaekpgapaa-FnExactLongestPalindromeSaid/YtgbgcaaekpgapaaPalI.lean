/- Contracts of the program's palindromeLengths and LongestPalindrome. No conditions beyond those that each states. -/
import Derived.Test.YtgbgcaaekpgapaaPalVal
import Derived.Test.YtgbgcaaekpgapaaBorI
import Derived.Test.YtgbgcaaekpgapaaShelf
namespace Go.Proofs.Ytgbgcaaekpgapaa
open Go.ChangeShapes Go.WideShapes Go.ChangeAt Go.RowKit
open Go.PlainAid Plain
set_option linter.unusedVariables false
namespace Fac
theorem mx_more {u : List Int} {m n a b : Nat} {x : Int} (h : Mid u m n) (ha : 2 * a + n = m) (ha0 : 0 < a) (hb : 2 * b = m + n) (hx : u[a - 1]? = some x) (hy : u[b]? = some x) : Mid u m (n + 2) := mid_more h ha ha0 hb hx hy
set_option maxHeartbeats 400000 in
theorem longer (v : Value) (u : List Int) (m l : Nat) (w : World) (h : Lies (Value.int .i64) w v u) (hs : u.length ≤ 1048576) (hm : m ≤ 2 * u.length) (hl : Mid u m l) :
    Calls Try.prog 39 #[v, .int .i64 m, .int .i64 l] w fun e w' => e = .returned (.int .i64 (mx u m : Int)) ∧ Below w.heap.size w w' := by
  obtain ⟨pa, pc, rfl⟩ := lies_form h
  have HU := Lib.hid h
  have HL0 := Lib.hid hl
  clear h hl
  go_enter Try.func39, Try.ntmps39
  go_wp2
  go_loopw [2] (fun l' wr => ∃ L : Nat, l' = .int .i64 L ∧ Hid (Mid u m L) ∧ Hid (Below w.heap.size w wr)) (fun l' _ => m + 1 - (intOf l').toNat)
  case atStart => exact ⟨l, rfl, HL0, Below.refl _ _⟩
  case round =>
    obtain ⟨L, rfl, HM, HB⟩ := hrel
    obtain ⟨a, b, ha, hb, hbu⟩ : ∃ a b : Nat, 2 * a + L = m ∧ 2 * b = m + L ∧ b ≤ u.length := by
      obtain ⟨h1, h2, h3, _⟩ := HM.out
      exact ⟨(m - L) / 2, (m + L) / 2, by omega, by omega, by omega⟩
    have e2 : ((m : Int) + (L : Int)) / 2 = (b : Int) := by omega
    have hLm : (L : Int) ≤ m := by omega
    rcases Nat.eq_zero_or_pos a with ha0 | ha0
    · subst ha0
      have e1 : ((m : Int) - (L : Int)) / 2 = 0 := by omega
      have HR : Hid ((L : Int) = (mx u m : Int)) := by show _ = _; rw [mx_is hm HM.out (fun k hk => mid_left (by omega) hk)]
      clear ha hb
      go_wp2_with fail
      go_quiet (fail)
      go_wp2
      go_ret
      exact ⟨ret_i HR.out, below_drewN HB.out _⟩
    · obtain ⟨c, hc⟩ : ∃ c, a = c + 1 := ⟨a - 1, by omega⟩
      have e1 : ((m : Int) - (L : Int)) / 2 = (a : Int) := by omega
      have hd0 : ((a : Int) == 0) = false := by simp; omega
      have e3 : (a : Int) - 1 = (c : Int) := by omega
      have HC := Lib.hid hc
      have hca : c < a := by omega
      rcases Nat.eq_or_lt_of_le hbu with hbn | hbn
      · subst hbn
        have HR : Hid ((L : Int) = (mx u m : Int)) := by show _ = _; rw [mx_is hm HM.out (fun k hk => mid_right (by omega) hk)]
        clear ha hb hc
        go_wp2_with fail
        go_quiet (fail)
        go_wp2
        go_ret
        exact ⟨ret_i HR.out, below_drewN HB.out _⟩
      · have hd1 : ((b : Int) == (u.length : Int)) = false := by simp; omega
        have hcu : c < u.length := by omega
        obtain ⟨x, hx⟩ : ∃ x, u[c]? = some x := ⟨_, List.getElem?_eq_getElem hcu⟩
        obtain ⟨y, hy⟩ : ∃ y, u[b]? = some y := ⟨_, List.getElem?_eq_getElem hbn⟩
        obtain ⟨p, o, hpa, hc1⟩ := lies_cell (HU.out.below HB.out) hx
        subst hpa
        obtain ⟨_, _, hpa, hc2⟩ := lies_cell (HU.out.below HB.out) hy
        cases hpa
        have hxa : u[a - 1]? = some x := by rw [HC.out, Nat.add_sub_cancel]; exact hx
        by_cases hxy : x = y
        · subst hxy
          have hd2 : (x != x) = false := by simp
          have HM2 : Hid (Mid u m (L + 2)) := mid_more HM.out ha (by omega) hb hxa hy
          have hL2 : L + 2 ≤ m := HM2.out.1
          clear ha hb hx hy hc hxa
          go_wp2_with fail
          go_quiet (fail)
          go_wp2
          go_roundw
          case rel => exact ⟨L + 2, by go_num, HM2, below_drewN HB.out _⟩
          case measure => simp [intOf] <;> omega
        · have hd2 : (x != y) = true := by simpa using hxy
          have HR : Hid ((L : Int) = (mx u m : Int)) := by show _ = _; rw [mx_is hm HM.out (fun k hk => mid_stop ha (by omega) hb hxa hy hxy hk)]
          clear ha hb hx hy hxy hc hxa
          go_wp2_with fail
          go_quiet (fail)
          go_wp2
          go_ret
          exact ⟨ret_i HR.out, below_drewN HB.out _⟩
theorem has_cell {w : World} {base g n cap i : Nat} {x : Int} {xs : List Int} (h : Has (Value.int .i64) 3 w base (.slice (some ⟨g, 0, none⟩) n cap) xs) (hx : xs[i]? = some x) : w.cell? ⟨g, i, none⟩ = some (.int .i64 x) := by
  obtain ⟨b, o, e, hc⟩ := lies_cell h.lies hx
  cases e
  rw [Nat.zero_add] at hc
  exact hc
theorem has_write {w : World} {base g n cap : Nat} {xs : List Int} (h : Has (Value.int .i64) 3 w base (.slice (some ⟨g, 0, none⟩) n cap) xs) (j : Nat) (x : Int) : Has (Value.int .i64) 3 (w.setCell ⟨g, j, none⟩ (.int .i64 x)) base (.slice (some ⟨g, 0, none⟩) n cap) (xs.set j x) := by
  have h0 : w.ownsRow base 3 1 (.slice (some ⟨g, 0, none⟩) n cap) xs.length (xs.map (Value.int .i64)) := h
  obtain ⟨a, c, hf, _⟩ := h.form
  injection hf with _ h2 _
  subst h2
  have h1 := (h0.stored j (.int .i64 x)).1
  show World.ownsRow _ _ _ _ _ _ _
  rw [List.length_set, List.map_set]
  exact h1
theorem has_frozen {w : World} {base g n cap : Nat} {xs : List Int} (h : Has (Value.int .i64) 3 w base (.slice (some ⟨g, 0, none⟩) n cap) xs) (j : Nat) : w.frozen? ⟨g, j, none⟩ = false := by
  have h0 : w.ownsRow base 3 1 (.slice (some ⟨g, 0, none⟩) n cap) xs.length (xs.map (Value.int .i64)) := h
  obtain ⟨a, c, hf, _⟩ := h.form
  injection hf with _ h2 _
  subst h2
  exact h0.frozenAt j
/-- What the round knows of the palindrome that reaches farthest. -/
theorem reach {u : List Int} {k c : Nat} (hk : k ≤ 2 * u.length) (hc : c ≤ k) (h0 : 0 < k → c < k) : ∃ z : Nat, (mxZ u k)[c]? = some (z : Int) ∧ z ≤ c ∧ (k < c + z → ∃ j x l : Nat, 2 * c = j + k ∧ (mxZ u k)[j]? = some (x : Int) ∧ x ≤ j ∧ l = min x (c + z - k) ∧ Mid u k l) := by
  rcases Nat.eq_zero_or_pos k with e | e
  · subst e
    obtain rfl : c = 0 := by omega
    exact ⟨0, mxZ_late (Nat.zero_le _), Nat.le_refl _, fun h => by omega⟩
  · have hck := h0 e
    have hmc := mx_mid (u := u) (m := c) (by omega)
    refine ⟨mx u c, mxZ_at hck, hmc.1, fun h => ?_⟩
    have hle := hmc.1
    have hmj := mx_mid (u := u) (m := 2 * c - k) (by omega)
    refine ⟨2 * c - k, mx u (2 * c - k), _, by omega, mxZ_at (by omega), hmj.1, rfl, ?_⟩
    have hp1 := hmc.2.1
    have hp2 := hmj.2.1
    refine mid_mirror hmc (Nat.le_of_lt hck) h (mid_less hmj (Nat.min_le_left _ _) ?_) (Nat.min_le_right _ _)
    rcases Nat.le_total (mx u (2 * c - k)) (c + mx u c - k) with h1 | h1
    · rw [Nat.min_eq_left h1]
    · rw [Nat.min_eq_right h1]; omega
set_option maxHeartbeats 2000000 in
theorem lengths (v : Value) (u : List Int) (w : World) (h : Lies (Value.int .i64) w v u) (hs : u.length ≤ 1048576) :
    Calls Try.prog 31 #[v] w fun e w' => ∃ g c, e = .returned (.slice (some ⟨g, 0, none⟩) (2 * u.length + 1) c) ∧ Has (Value.int .i64) 3 w' w.heap.size (.slice (some ⟨g, 0, none⟩) (2 * u.length + 1) c) (mxs u) ∧ Below w.heap.size w w' := by
  obtain ⟨i0, hi, hz0, hz1, hz2⟩ := info_parts Ints.infoI
  obtain ⟨pa, pc, rfl⟩ := lies_form h
  have HU := Lib.hid h
  obtain ⟨N, hN⟩ : ∃ N, N = 2 * u.length + 1 := ⟨_, rfl⟩
  have hN1 : 2 * (u.length : Int) + 1 = (N : Int) := by omega
  have HN := Lib.hid hN
  have HZ : Hid (List.replicate N 0 = mxZ u 0) := by show _ = _; rw [hN]; exact (mxZ_zero u).symm
  have HA : Hid (mxZ u N = mxs u) := by show _ = _; rw [hN]; exact mxZ_all u
  have hNs : N ≤ 2097153 := by omega
  rw [← hN]
  clear h hN
  go_enter Try.func31, Try.ntmps31
  go_wp2_with (at_make; refine wpList_make_full w rfl _ _ 22 rfl w.heap.size 3 i0 (.int .i64 0) 1 Try.underlying22 hi hz0 hz1 .i64 .i64 _ _ N rfl rfl rfl rfl (by rw [hz2]; omega) (by unfold maxLen; omega) (Nat.le_refl _) ?_; intro w1 hown hgrow; have HO : Hid (Has (Value.int .i64) 3 w1 w.heap.size (.slice (some ⟨w.heap.size, 0, none⟩) N N) (mxZ u 0)) := by { rw [← HZ.out]; exact Ints.made_has hown }; have HB := Lib.hid (below_of_grown hgrow); clear hown hgrow)
  go_loopw [4, 15] (fun c' k' wr => ∃ k c : Nat, k ≤ N ∧ c ≤ k ∧ (0 < k → c < k) ∧ k' = .int .i64 k ∧ c' = .int .i64 c ∧ Hid (Has (Value.int .i64) 3 wr w.heap.size (.slice (some ⟨w.heap.size, 0, none⟩) N N) (mxZ u k)) ∧ Hid (Below w.heap.size w wr)) (fun _ k' _ => N - (intOf k').toNat)
  case atStart => exact ⟨0, 0, Nat.zero_le _, Nat.le_refl _, fun h => by omega, rfl, rfl, HO, HB⟩
  case round =>
    obtain ⟨k, c, hk, hck, hck0, rfl, rfl, HO, HB⟩ := hrel
    by_cases hlt : k < N
    · obtain ⟨z, hz, hzc, hr⟩ := reach (u := u) (k := k) (c := c) (by have := HN.out; omega) hck hck0
      have q0 := has_cell HO.out hz
      have hcN : c < N := by omega
      have hk2 : k ≤ 2 * u.length := by have := HN.out; omega
      clear hz
      by_cases hlz : k < c + z
      · obtain ⟨j, x, l, hj, hx, hxj, hl, HM⟩ := hr hlz
        have HMH := Lib.hid HM
        have hjx := has_cell HO.out hx
        have hd := decide_eq_true (show (k : Int) < (c : Int) + (z : Int) by omega)
        have e1 : 2 * (c : Int) - (k : Int) = (j : Int) := by omega
        have hjN : j < N := by omega
        have e2 : min (x : Int) ((c : Int) + (z : Int) - (k : Int)) = (l : Int) := by omega
        clear hx hl HM hr
        have hk0 : (0 : Int) ≤ (k : Int) % 2 := by omega
        have hlb : l ≤ 2097152 := by omega
        go_wp2_with fail
        refine (longer _ u k l _ (HU.out.below HB.out) hs (by omega) HMH.out).mono ?_
        rintro e W2 ⟨rfl, b2⟩
        have HO2 := Lib.hid (HO.out.below b2)
        have HB2 := Lib.hid (HB.out.trans (b2.mono HB.out.size))
        have q1 := has_cell HO2.out (mxZ_late (u := u) (k := k) (by omega))
        have q2 := has_frozen HO2.out k
        have HW := Lib.hid (has_write HO2.out k (mx u k : Int))
        rw [mxZ_set (by omega)] at HW
        have q3 := has_cell HW.out (mxZ_at (u := u) (k := k + 1) (m := k) (Nat.lt_succ_self k))
        have HB3 := Lib.hid (HB2.out.setCell (p := ⟨w.heap.size, k, none⟩) (Nat.le_refl _) (.int .i64 (mx u k : Int)))
        obtain ⟨y, hy⟩ : ∃ y : Nat, y = mx u k := ⟨_, rfl⟩
        rw [← hy] at HW q3 HB3 ⊢
        have hyk : y ≤ 2097152 := by rw [hy]; have := (mx_mid (u := u) (m := k) (by omega)).1; omega
        clear hy b2 HO HB
        go_upto_region 11 with (fail)
        obtain ⟨W3, hW3⟩ : ∃ W, W = W2.setCell ⟨w.heap.size, k, none⟩ (.int .i64 (y : Int)) := ⟨_, rfl⟩
        rw [← hW3] at HW q3 HB3 ⊢
        clear hW3 q1 q2 HO2 HB2
        by_cases hgt : k + y > c + z
        · have hgd := decide_eq_true (show (k : Int) + (y : Int) > (c : Int) + (z : Int) by omega)
          go_wp2
          go_roundw
          case rel => exact ⟨k + 1, k, by omega, by omega, by omega, by go_num, rfl, HW, HB3⟩
          case measure => simp [intOf] <;> omega
        · have hgd := decide_eq_false (show ¬ (k : Int) + (y : Int) > (c : Int) + (z : Int) by omega)
          go_wp2
          go_roundw
          case rel => exact ⟨k + 1, c, by omega, by omega, by omega, by go_num, rfl, HW, HB3⟩
          case measure => simp [intOf] <;> omega
      · have hd := decide_eq_false (show ¬ (k : Int) < (c : Int) + (z : Int) by omega)
        have e1 : (k : Int) % 2 = ((k % 2 : Nat) : Int) := by omega
        obtain ⟨r, hr2⟩ : ∃ r, r = k % 2 := ⟨_, rfl⟩
        rw [← hr2] at e1
        have HMH : Hid (Mid u k r) := by rw [hr2]; exact mid_start u hk2
        have hr3 : r ≤ 1 := by omega
        clear hr2 hr
        go_wp2_with fail
        refine (longer _ u k r _ (HU.out.below HB.out) hs (by omega) HMH.out).mono ?_
        rintro e W2 ⟨rfl, b2⟩
        have HO2 := Lib.hid (HO.out.below b2)
        have HB2 := Lib.hid (HB.out.trans (b2.mono HB.out.size))
        have q1 := has_cell HO2.out (mxZ_late (u := u) (k := k) (by omega))
        have q2 := has_frozen HO2.out k
        have HW := Lib.hid (has_write HO2.out k (mx u k : Int))
        rw [mxZ_set (by omega)] at HW
        have q3 := has_cell HW.out (mxZ_at (u := u) (k := k + 1) (m := k) (Nat.lt_succ_self k))
        have HB3 := Lib.hid (HB2.out.setCell (p := ⟨w.heap.size, k, none⟩) (Nat.le_refl _) (.int .i64 (mx u k : Int)))
        obtain ⟨y, hy⟩ : ∃ y : Nat, y = mx u k := ⟨_, rfl⟩
        rw [← hy] at HW q3 HB3 ⊢
        have hyk : y ≤ 2097152 := by rw [hy]; have := (mx_mid (u := u) (m := k) (by omega)).1; omega
        clear hy b2 HO HB
        go_upto_region 11 with (fail)
        obtain ⟨W3, hW3⟩ : ∃ W, W = W2.setCell ⟨w.heap.size, k, none⟩ (.int .i64 (y : Int)) := ⟨_, rfl⟩
        rw [← hW3] at HW q3 HB3 ⊢
        clear hW3 q1 q2 HO2 HB2
        by_cases hgt : k + y > c + z
        · have hgd := decide_eq_true (show (k : Int) + (y : Int) > (c : Int) + (z : Int) by omega)
          go_wp2
          go_roundw
          case rel => exact ⟨k + 1, k, by omega, by omega, by omega, by go_num, rfl, HW, HB3⟩
          case measure => simp [intOf] <;> omega
        · have hgd := decide_eq_false (show ¬ (k : Int) + (y : Int) > (c : Int) + (z : Int) by omega)
          go_wp2
          go_roundw
          case rel => exact ⟨k + 1, c, by omega, by omega, by omega, by go_num, rfl, HW, HB3⟩
          case measure => simp [intOf] <;> omega
    · have HE : Hid (Has (Value.int .i64) 3 wr w.heap.size (.slice (some ⟨w.heap.size, 0, none⟩) N N) (mxs u)) := by
        have h := HO.out
        rw [show k = N from by omega, HA.out] at h
        exact h
      go_wp2
      go_ret
      exact ⟨_, _, rfl, HE.out, HB.out⟩
theorem fold_max : ∀ (l : List Int) (a : Int), (l.foldl max a = a ∨ l.foldl max a ∈ l) ∧ a ≤ l.foldl max a ∧ ∀ x ∈ l, x ≤ l.foldl max a
  | [], a => ⟨.inl rfl, Int.le_refl _, fun x h => by cases h⟩
  | y :: l, a => by
    obtain ⟨h1, h2, h3⟩ := fold_max l (max a y)
    show (l.foldl max (max a y) = a ∨ l.foldl max (max a y) ∈ y :: l) ∧ a ≤ l.foldl max (max a y) ∧ ∀ x ∈ y :: l, x ≤ l.foldl max (max a y)
    refine ⟨?_, by omega, fun x hx => ?_⟩
    · rcases h1 with h1 | h1
      · rw [h1]
        rcases Int.le_total a y with h | h
        · rw [Int.max_eq_right h]; exact .inr (List.mem_cons_self ..)
        · rw [Int.max_eq_left h]; exact .inl rfl
      · exact .inr (List.mem_cons_of_mem _ h1)
    · rcases List.mem_cons.1 hx with rfl | hx
      · omega
      · exact h3 x hx
theorem max_is {l : List Int} (h : 0 < l.length) : Lib.maxOf l ∈ l ∧ ∀ x ∈ l, x ≤ Lib.maxOf l := by
  cases l with
  | nil => simp at h
  | cons y l =>
    obtain ⟨h1, h2, h3⟩ := fold_max (y :: l) y
    refine ⟨?_, h3⟩
    rcases h1 with h1 | h1
    · show (y :: l).foldl max y ∈ _
      rw [h1]; exact List.mem_cons_self ..
    · exact h1
theorem first_at {l : List Int} {x : Int} (h : x ∈ l) : ∃ m : Nat, l[m]? = some x ∧ ∀ j, j < m → l[j]? ≠ some x := by
  induction l with
  | nil => cases h
  | cons y l ih =>
    by_cases e : y = x
    · exact ⟨0, by rw [e]; rfl, fun j hj => by omega⟩
    · obtain ⟨m, h1, h2⟩ := ih ((List.mem_cons.1 h).resolve_left fun h => e h.symm)
      refine ⟨m + 1, h1, fun j hj => ?_⟩
      cases j with
      | zero => intro h; exact e (Option.some.inj h)
      | succ j => exact h2 j (by omega)
/-- The greatest length and the first middle of it tell the first of the longest palindromes. -/
theorem lg_find (u : List Int) : ∃ m n : Nat, Lib.maxOf ((mxs u).take (2 * u.length + 1)) = (n : Int) ∧ Lib.idxOf ((mxs u).take (2 * u.length + 1)) (n : Int) = (m : Int) ∧ n ≤ m ∧ m ≤ 2 * u.length ∧ (m - n) / 2 = lgP u ∧ n = lgN u := by
  have hlen := mxs_len u
  have ht : (mxs u).take (2 * u.length + 1) = mxs u := List.take_of_length_le (by omega)
  obtain ⟨h1, h2⟩ := max_is (l := mxs u) (by omega)
  obtain ⟨m, hm1, hm2⟩ := first_at h1
  have hml : m < 2 * u.length + 1 := by have := (List.getElem?_eq_some_iff.1 hm1).1; omega
  have hmx := hm1
  rw [mxs_at (by omega)] at hmx
  have hn := (Option.some.inj hmx).symm
  have hmid := mx_mid (u := u) (m := m) (by omega)
  have hL : Lgst u ((m - mx u m) / 2) (mx u m) := by
    refine mx_lgst (by omega) rfl (fun k hk => ?_) fun k hk he => ?_
    · have := h2 _ (List.mem_of_getElem? (mxs_at (u := u) (m := k) hk))
      omega
    · exact hm2 k hk (by rw [mxs_at (by omega), he, hn])
  obtain ⟨e1, e2⟩ := lg_is hL
  refine ⟨m, mx u m, by rw [ht]; exact hn, ?_, hmid.1, by omega, e1, e2⟩
  refine Lib.idxOf_hit (mxs u) _ m _ hml (by omega) ?_ fun j hj he => ?_
  · rw [List.getD_eq_getElem?_getD, hm1, hn]; rfl
  · have hj2 := mxs_at (u := u) (m := j) (by omega)
    rw [List.getD_eq_getElem?_getD, hj2] at he
    exact hm2 j hj (by rw [hj2, hn]; exact congrArg some he)
set_option maxHeartbeats 2000000 in
theorem impl_lg (v : Value) (u : List Int) (w : World) (h : Lies (Value.int .i64) w v u) (hs : u.length ≤ 1048576) :
    Calls Try.prog 24 #[v] w fun e w' => e = .returned (.tuple #[.int .i64 (lgP u : Int), .int .i64 (lgN u : Int)]) ∧ Below w.heap.size w w' := by
  have HC := Lib.hid (lengths v u w h hs)
  obtain ⟨pa, pc, rfl⟩ := lies_form h
  obtain ⟨m, n, hmax, hidx, hnm, hm, hp, hn⟩ := lg_find u
  have HM := Lib.hid hmax
  have HI := Lib.hid hidx
  have hlen := mxs_len u
  obtain ⟨P, hP⟩ : ∃ P, P = lgP u := ⟨_, rfl⟩
  obtain ⟨N, hN⟩ : ∃ N, N = lgN u := ⟨_, rfl⟩
  obtain ⟨K, hK⟩ : ∃ K, K = 2 * u.length + 1 := ⟨_, rfl⟩
  obtain ⟨Z, hZ⟩ : ∃ Z, Z = mxs u := ⟨_, rfl⟩
  rw [← hP] at hp ⊢
  rw [← hN] at hn ⊢
  rw [← hK] at HC HM HI hlen
  rw [← hZ] at HC HM HI hlen
  have e1 : ((m : Int) - (n : Int)) / 2 = (P : Int) := by omega
  have HNN := Lib.hid hn
  have hK0 : 0 < K := by omega
  have hKs : K ≤ 9223372036854775807 := by omega
  have HL := Lib.hid hlen
  have hms : m ≤ 2097152 := by omega
  clear h hmax hidx hp hn hP hN hK hZ hlen
  go_enter Try.func24, Try.ntmps24
  go_wp2_with fail
  refine HC.out.mono ?_
  rintro e W1 ⟨g, c, rfl, hz, hb⟩
  have hcs : ∀ j, j < Z.length → W1.cell? ⟨g, 0 + j, none⟩ = some (.int .i64 (Z.getD j 0)) := fun j hj => by
    obtain ⟨x, hx⟩ : ∃ x, Z[j]? = some x := ⟨_, List.getElem?_eq_getElem hj⟩
    rw [Nat.zero_add, has_cell hz hx, List.getD_eq_getElem?_getD, hx]
    rfl
  have HMX := Lib.hid (Try.slices_Max_int g 0 K c Z W1 hK0 (by have := HL.out; omega) hKs hcs)
  have HIX := Lib.hid (Try.slices_Index_int g 0 K c Z (n : Int) W1 (by have := HL.out; omega) hKs hcs)
  rw [HM.out] at HMX
  rw [HI.out] at HIX
  have HB := Lib.hid hb
  clear hcs hz hb
  go_wp2_with fail
  refine HMX.out.mono ?_
  rintro e w' ⟨rfl, rfl⟩
  go_wp2_with fail
  refine HIX.out.mono ?_
  rintro e w' ⟨rfl, rfl⟩
  go_wp2
  go_ret2
  rw [← HNN.out, ← e1]
  exact ⟨rfl, HB.out⟩
end Fac
end Go.Proofs.Ytgbgcaaekpgapaa
