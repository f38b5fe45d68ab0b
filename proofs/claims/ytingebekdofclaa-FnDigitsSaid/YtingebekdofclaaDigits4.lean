/- Contracts of ReverseDigits and PadDigits, of the program and of the model. No conditions beyond those that each states. -/
import Derived.Test.YtingebekdofclaaDigits3
import Derived.Laws.CopyOwn
import Derived.Deep.RegionLaw
namespace Go.Proofs.Ytingebekdofclaa
open Go.ChangeShapes Go.WideShapes Go.ChangeAt Go.RowKit
open Go.PlainAid Plain
set_option linter.unusedVariables false
namespace Digits
open Ints

theorem drop_rev (xs : List Int) (j : Nat) (h : j < xs.length) : (xs.drop j).reverse = (xs.drop (j + 1)).reverse ++ [xs[j]] := by
  rw [List.drop_eq_getElem_cons h, List.reverse_cons]
theorem spec_rev (v : Value) (xs : List Int) (w : World) (h : Lies (Value.int .i64) w v xs) (hs : xs.length ≤ 1048576) :
    Calls Try.prog 30 #[v] w (Gives (Value.int .i64) 3 xs.reverse w) := by
  obtain ⟨i0, hi, hz0, hz1, hz2⟩ := info_parts infoI
  have HL := Lib.hid h
  obtain ⟨hl, a, ca, rfl, -, -⟩ := h
  go_enter Try.func30, Try.ntmps30
  go_wp2
  go_loopw [3, 4] (fun o' i' wr => ∃ k : Nat, k ≤ xs.length ∧ i' = .int .i64 ((k : Int) - 1) ∧ Hid (Has (Value.int .i64) 3 wr w.heap.size o' (xs.drop k).reverse) ∧ Hid (Below w.heap.size w wr)) (fun _ i' _ => (intOf i' + 1).toNat)
  case atStart => exact ⟨xs.length, by omega, by go_num, by rw [List.drop_length]; exact has_empty w, (Below.refl _ _).alloc (Nat.le_refl _) _⟩
  case round =>
    obtain ⟨k, hk, rfl, hown, hbel⟩ := hrel
    by_cases h0 : 0 < k
    · obtain ⟨j, rfl⟩ : ∃ j, k = j + 1 := ⟨k - 1, by omega⟩
      have hj : j < xs.length := by omega
      obtain ⟨_, _, _, he, _, hc⟩ := HL.out.below hbel.out
      injection he with e1 e2 e3
      obtain ⟨b, off, hA, hcell⟩ := hc j _ (List.getElem?_eq_getElem hj)
      rw [← e1] at hA
      subst hA
      have HD := Lib.hid (drop_rev xs j hj)
      have hlen : (xs.drop (j + 1)).reverse.length + 1 ≤ 1048577 := by rw [List.length_reverse, List.length_drop]; omega
      have hb2 := hbel.out.size
      obtain ⟨x, hx⟩ : ∃ x, x = xs[j] := ⟨_, rfl⟩
      rw [← hx] at hcell HD
      clear hx hc e1 e2 e3
      go_wp2_with (at_builtin; refine append_one (enc := Value.int .i64) (e := 3) wr rfl _ _ 26 rfl w.heap.size i0 (.int .i64 0) 8 Try.underlying26 hi hz0 hz1 hz2 rfl u3 _ rfl hown.out x rfl (fun _ => rfl) (by omega) (by omega) hb2 ?_; intro v' w' hown' hgrow')
      have hbel' : Hid (Below w.heap.size w w') := hown.out.frame hbel.out (Nat.le_refl _) hgrow'
      have HO := Lib.hid hown'
      clear hown' hgrow'
      go_wp2
      go_roundw
      case rel => exact ⟨j, by omega, by go_num, by rw [HD.out]; exact HO.out, hbel'⟩
      case measure => simp [intOf]
    · obtain rfl : k = 0 := by omega
      have H2 : Hid (Has (Value.int .i64) 3 wr w.heap.size u3 xs.reverse) := hown.out
      clear hown
      go_wp2
      go_ret
      exact ⟨u3, rfl, H2.out, hbel.out⟩
theorem impl_rev (v : Value) (xs : List Int) (w : World) (h : Lies (Value.int .i64) w v xs) (hs : xs.length ≤ 1048576) :
    Calls Try.prog 29 #[v] w (Gives (Value.int .i64) 3 xs.reverse w) := by
  have HC := Lib.hid (clone_lies v xs w h hs)
  clear h
  go_enter Try.func29, Try.ntmps29
  go_wp2_with fail
  refine HC.out.mono ?_
  rintro e w1 ⟨u, rfl, ho, hb⟩
  go_wp2_with fail
  refine (reverse_has u _ w1 _ ho).mono ?_
  rintro e w2 ⟨rfl, ho2, hg⟩
  have HG : Hid (Gives (Value.int .i64) 3 xs.reverse w (.returned u) w2) := ⟨u, rfl, ho2, ho.frame hb (Nat.le_refl _) hg⟩
  clear ho ho2 hg
  go_wp2
  go_ret
  exact HG.out
theorem padD_same {b : Int} {xs : List Int} (h : b ≤ xs.length ∨ 16 < b) : padD b xs = xs := if_pos h
theorem padD_more {n : Nat} {xs : List Int} (h0 : xs.length < n) (h : n ≤ 16) : padD n xs = List.replicate (n - xs.length) 0 ++ xs := by
  rw [padD, if_neg (by omega)]
  rfl
theorem rep_snoc (i : Nat) : List.replicate (i + 1) (0 : Int) = List.replicate i 0 ++ [0] := List.replicate_succ'
theorem spec_pad_same (v : Value) (xs : List Int) (b : Int) (w : World) (h : Lies (Value.int .i64) w v xs) (hs : xs.length ≤ 1048576) (hb : b ≤ xs.length ∨ 16 < b) :
    Calls Try.prog 27 #[v, .int .i64 b] w (Gives (Value.int .i64) 3 xs w) := by
  obtain ⟨i0, hi, hz0, hz1, hz2⟩ := info_parts infoI
  have HL := Lib.hid (h.below ((Below.refl _ _).alloc (Nat.le_refl _) (.cells #[] 3)))
  have hbl := Lib.hid ((Below.refl w.heap.size w).alloc (Nat.le_refl _) (.cells #[] 3))
  have he := Lib.hid (has_empty w)
  obtain ⟨hl, a, ca, rfl, -, -⟩ := h
  by_cases hc : ¬ (xs.length : Int) < b
  · have hc' := decide_eq_false hc
    clear hc hb
    go_enter Try.func27, Try.ntmps27
    go_wp2
    go_loop [5, 6] (fun o' i' => o' = .slice (some ⟨w.heap.size, 0, none⟩) 0 0 ∧ i' = .int .i64 xs.length) (fun _ _ => 0)
    case atStart => exact ⟨rfl, rfl⟩
    case round =>
      obtain ⟨rfl, rfl⟩ := hrel
      go_wp2_with (at_builtin; refine append_lies (enc := Value.int .i64) (e := 3) _ rfl _ _ 26 rfl w.heap.size i0 (.int .i64 0) 8 Try.underlying26 hi hz0 hz1 hz2 rfl _ [] rfl he.out _ xs rfl HL.out (fun _ => rfl) (by simp; omega) (by simp; omega) (by simp) ?_; intro v' w' hown' hgrow')
      have HG : Hid (Gives (Value.int .i64) 3 xs w (.returned v') w') := ⟨v', rfl, hown', he.out.frame hbl.out (Nat.le_refl _) hgrow'⟩
      clear hown' hgrow'
      go_wp2
      go_ret
      exact HG.out
  · have hc' := decide_eq_true (Decidable.not_not.1 hc)
    have hd : decide (b ≤ 16) = false := decide_eq_false (by omega)
    clear hb hc
    go_enter Try.func27, Try.ntmps27
    go_wp2
    go_loop [5, 6] (fun o' i' => o' = .slice (some ⟨w.heap.size, 0, none⟩) 0 0 ∧ i' = .int .i64 xs.length) (fun _ _ => 0)
    case atStart => exact ⟨rfl, rfl⟩
    case round =>
      obtain ⟨rfl, rfl⟩ := hrel
      go_wp2_with (at_builtin; refine append_lies (enc := Value.int .i64) (e := 3) _ rfl _ _ 26 rfl w.heap.size i0 (.int .i64 0) 8 Try.underlying26 hi hz0 hz1 hz2 rfl _ [] rfl he.out _ xs rfl HL.out (fun _ => rfl) (by simp; omega) (by simp; omega) (by simp) ?_; intro v' w' hown' hgrow')
      have HG : Hid (Gives (Value.int .i64) 3 xs w (.returned v') w') := ⟨v', rfl, hown', he.out.frame hbl.out (Nat.le_refl _) hgrow'⟩
      clear hown' hgrow'
      go_wp2
      go_ret
      exact HG.out
theorem spec_pad_more (v : Value) (xs : List Int) (n : Nat) (w : World) (h : Lies (Value.int .i64) w v xs) (h0 : xs.length < n) (hb : n ≤ 16) :
    Calls Try.prog 27 #[v, .int .i64 n] w (Gives (Value.int .i64) 3 (List.replicate (n - xs.length) 0 ++ xs) w) := by
  obtain ⟨i0, hi, hz0, hz1, hz2⟩ := info_parts infoI
  have HL := Lib.hid h
  have he := Lib.hid (has_empty w)
  obtain ⟨hl, a, ca, rfl, -, -⟩ := h
  have hd : decide ((n : Int) ≤ 16) = true := decide_eq_true (by omega)
  go_enter Try.func27, Try.ntmps27
  go_wp2
  go_loopw [5, 6] (fun o' i' wr => ∃ j : Nat, xs.length ≤ j ∧ j ≤ n ∧ i' = .int .i64 j ∧ Hid (Has (Value.int .i64) 3 wr w.heap.size o' (List.replicate (j - xs.length) 0)) ∧ Hid (Below w.heap.size w wr)) (fun _ i' _ => n - (intOf i').toNat)
  case atStart => exact ⟨xs.length, Nat.le_refl _, by omega, rfl, by rw [Nat.sub_self]; exact he.out, (Below.refl _ _).alloc (Nat.le_refl _) _⟩
  case round =>
    obtain ⟨j, hj0, hj1, rfl, hown, hbel⟩ := hrel
    have hb2 := hbel.out.size
    by_cases hlt : j < n
    · have hlen : (List.replicate (j - xs.length) (0 : Int)).length + 1 ≤ 17 := by rw [List.length_replicate]; omega
      have HR : Hid (List.replicate (j + 1 - xs.length) (0 : Int) = List.replicate (j - xs.length) 0 ++ [0]) := by rw [show j + 1 - xs.length = (j - xs.length) + 1 from by omega]; exact rep_snoc _
      go_wp2_with (at_builtin; refine append_one (enc := Value.int .i64) (e := 3) wr rfl _ _ 26 rfl w.heap.size i0 (.int .i64 0) 8 Try.underlying26 hi hz0 hz1 hz2 rfl u5 _ rfl hown.out 0 rfl (fun _ => rfl) (by omega) (by omega) hb2 ?_; intro v' w' hown' hgrow')
      have hbel' : Hid (Below w.heap.size w w') := hown.out.frame hbel.out (Nat.le_refl _) hgrow'
      have HO := Lib.hid hown'
      clear hown' hgrow'
      go_wp2
      go_roundw
      case rel => exact ⟨j + 1, by omega, by omega, by go_num, by rw [HR.out]; exact HO.out, hbel'⟩
      case measure => simp [intOf]; omega
    · obtain rfl : j = n := by omega
      have hlen : (List.replicate (j - xs.length) (0 : Int)).length + xs.length ≤ 17 := by rw [List.length_replicate]; omega
      go_wp2_with (at_builtin; refine append_lies (enc := Value.int .i64) (e := 3) _ rfl _ _ 26 rfl w.heap.size i0 (.int .i64 0) 8 Try.underlying26 hi hz0 hz1 hz2 rfl _ _ rfl hown.out _ xs rfl (HL.out.below hbel.out) (fun _ => rfl) (by omega) (by omega) hb2 ?_; intro v' w' hown' hgrow')
      have HG : Hid (Gives (Value.int .i64) 3 (List.replicate (j - xs.length) 0 ++ xs) w (.returned v') w') := ⟨v', rfl, hown', hown.out.frame hbel.out (Nat.le_refl _) hgrow'⟩
      clear hown' hgrow'
      go_wp2
      go_ret
      exact HG.out
theorem impl_pad_same (v : Value) (xs : List Int) (b : Int) (w : World) (h : Lies (Value.int .i64) w v xs) (hs : xs.length ≤ 1048576) (hb : b ≤ xs.length ∨ 16 < b) :
    Calls Try.prog 20 #[v, .int .i64 b] w (Gives (Value.int .i64) 3 xs w) := by
  have HC := Lib.hid (clone_lies v xs w h hs)
  obtain ⟨hl, a, ca, rfl, -, -⟩ := h
  by_cases h1 : b ≤ xs.length
  · have hd : decide ((xs.length : Int) ≥ b) = true := decide_eq_true h1
    clear hb
    go_enter Try.func20, Try.ntmps20
    go_wp2_with fail
    refine HC.out.mono ?_
    rintro e w1 ⟨u, rfl, ho, hb⟩
    have HG : Hid (Gives (Value.int .i64) 3 xs w (.returned u) w1) := ⟨u, rfl, ho, hb⟩
    go_wp2
    go_ret
    exact HG.out
  · have hd : decide ((xs.length : Int) ≥ b) = false := decide_eq_false h1
    have hd1 : decide (b > 16) = true := decide_eq_true (by omega)
    clear hb
    go_enter Try.func20, Try.ntmps20
    go_wp2_with fail
    refine HC.out.mono ?_
    rintro e w1 ⟨u, rfl, ho, hb⟩
    have HG : Hid (Gives (Value.int .i64) 3 xs w (.returned u) w1) := ⟨u, rfl, ho, hb⟩
    go_wp2
    go_ret
    exact HG.out
theorem zeros_copied (n : Nat) (xs : List Int) (h : xs.length ≤ n) : (List.replicate n (0 : Int)).take (n - xs.length) ++ (xs.take xs.length ++ (List.replicate n (0 : Int)).drop (n - xs.length + xs.length)) = List.replicate (n - xs.length) 0 ++ xs := by
  rw [List.take_replicate, List.take_length, List.drop_replicate, show min (n - xs.length) n = n - xs.length from by omega, show n - (n - xs.length + xs.length) = 0 from by omega]
  simp
theorem impl_pad_more (v : Value) (xs : List Int) (n : Nat) (w : World) (h : Lies (Value.int .i64) w v xs) (h0 : xs.length < n) (hb : n ≤ 16) :
    Calls Try.prog 20 #[v, .int .i64 n] w (Gives (Value.int .i64) 3 (List.replicate (n - xs.length) 0 ++ xs) w) := by
  obtain ⟨i0, hi, hz0, hz1, hz2⟩ := info_parts infoI
  have HL := Lib.hid h
  obtain ⟨hl, a, ca, rfl, -, -⟩ := h
  have hd1 : decide ((n : Int) > 16) = false := decide_eq_false (by omega)
  have hd : decide ((xs.length : Int) ≥ (n : Int)) = false := decide_eq_false (by omega)
  obtain ⟨m, hm⟩ : ∃ m : Nat, m = n - xs.length := ⟨_, rfl⟩
  have hsub : (n : Int) - (xs.length : Int) = (m : Int) := by omega
  have hmn : m ≤ n := by omega
  have hm2 : m + xs.length ≤ n := by omega
  have hm3 : n - m = xs.length := by omega
  have HK := Lib.hid (zeros_copied n xs (by omega))
  have HM := Lib.hid hm
  rw [← hm] at HK ⊢
  have HM3 := Lib.hid hm3
  clear hm hm3
  rcases Nat.eq_or_lt_of_le hmn with he | hlt
  · subst he
    have hx0 : xs.length = 0 := by omega
    have HX := Lib.hid hx0
    clear hx0
    go_enter Try.func20, Try.ntmps20
    go_wp2_with (first | (at_make; refine wpList_make_full w rfl _ _ 26 rfl w.heap.size 3 i0 (.int .i64 0) 1 Try.underlying26 hi hz0 hz1 .i64 .i64 _ _ m rfl rfl rfl rfl (by rw [hz2]; omega) (by unfold maxLen; omega) (Nat.le_refl _) ?_; intro w1 hown hgrow; have HO := Lib.hid (made_has hown); have HB := Lib.hid (below_of_grown hgrow); have HL1 := Lib.hid (HL.out.below HB.out); clear hown hgrow) | (refine copy_has (enc := Value.int .i64) (e := 3) rfl (.tmp 23) (.tmp 24) 26 26 rfl Try.underlying26 size_i w.heap.size m m (List.replicate m 0) HO.out _ _ _ rfl _ xs rfl HL1.out (fun _ => rfl) m xs.length (by rw [HX.out]; simp) (fun h => absurd h (by rw [HX.out]; omega)) (by rw [List.length_replicate]; omega) ?_; intro w2 hown hgrow; rw [HK.out] at hown; have H2 := Lib.hid hown; have H3 := Lib.hid (HO.out.frame HB.out (Nat.le_refl _) hgrow); clear hown hgrow))
    go_ret
    exact ⟨_, rfl, H2.out, H3.out⟩
  · have hne : ¬ n = m := by omega
    go_enter Try.func20, Try.ntmps20
    go_wp2_with (first | (at_make; refine wpList_make_full w rfl _ _ 26 rfl w.heap.size 3 i0 (.int .i64 0) 1 Try.underlying26 hi hz0 hz1 .i64 .i64 _ _ n rfl rfl rfl rfl (by rw [hz2]; omega) (by unfold maxLen; omega) (Nat.le_refl _) ?_; intro w1 hown hgrow; have HO := Lib.hid (made_has hown); have HB := Lib.hid (below_of_grown hgrow); have HL1 := Lib.hid (HL.out.below HB.out); clear hown hgrow) | (refine copy_has (enc := Value.int .i64) (e := 3) rfl (.tmp 23) (.tmp 24) 26 26 rfl Try.underlying26 size_i w.heap.size n n (List.replicate n 0) HO.out _ _ _ rfl _ xs rfl HL1.out (fun _ => rfl) m xs.length (by rw [HM3.out]; simp) (fun _ => rfl) (by rw [List.length_replicate]; omega) ?_; intro w2 hown hgrow; rw [HK.out] at hown; have H2 := Lib.hid hown; have H3 := Lib.hid (HO.out.frame HB.out (Nat.le_refl _) hgrow); clear hown hgrow))
    go_ret
    exact ⟨_, rfl, H2.out, H3.out⟩
theorem spec_pad (v : Value) (xs : List Int) (b : Int) (w : World) (h : Lies (Value.int .i64) w v xs) (hs : xs.length ≤ 1048576) :
    Calls Try.prog 27 #[v, .int .i64 b] w (Gives (Value.int .i64) 3 (padD b xs) w) := by
  by_cases hb : b ≤ xs.length ∨ 16 < b
  · rw [padD_same hb]
    exact spec_pad_same v xs b w h hs hb
  · obtain ⟨n, rfl⟩ := Int.eq_ofNat_of_zero_le (show 0 ≤ b by omega)
    rw [padD_more (by omega) (by omega)]
    exact spec_pad_more v xs n w h (by omega) (by omega)
theorem impl_pad (v : Value) (xs : List Int) (b : Int) (w : World) (h : Lies (Value.int .i64) w v xs) (hs : xs.length ≤ 1048576) :
    Calls Try.prog 20 #[v, .int .i64 b] w (Gives (Value.int .i64) 3 (padD b xs) w) := by
  by_cases hb : b ≤ xs.length ∨ 16 < b
  · rw [padD_same hb]
    exact impl_pad_same v xs b w h hs hb
  · obtain ⟨n, rfl⟩ := Int.eq_ofNat_of_zero_le (show 0 ≤ b by omega)
    rw [padD_more (by omega) (by omega)]
    exact impl_pad_more v xs n w h (by omega) (by omega)
theorem padD_len (b : Int) (xs : List Int) : (padD b xs).length ≤ 16 + xs.length := by
  unfold padD
  split
  · omega
  · rw [List.length_append, List.length_replicate]; omega
end Digits
end Go.Proofs.Ytingebekdofclaa
