/- Contracts of CountLyndon and CountNecklaces, of the model and of the program, with what they call. No conditions beyond those that each states. -/
import Derived.Test.YtcnejfihpaicdaaLynMore
import Derived.Test.YtcnejfihpaicdaaCommon
import Derived.Test.YtcnejfihpaicdaaInts
import Derived.Test.YtcnejfihpaicdaaCmp
import Derived.Deep.RegionLaw
namespace Go.Proofs.Ytcnejfihpaicdaa
open Go.ChangeShapes Go.WideShapes Go.ChangeAt Go.RowKit
open Go.PlainAid Plain
set_option linter.unusedVariables false
namespace Lynd
open Fac
theorem pow_nx (a i : Nat) : ((a ^ i : Nat) : Int) * (a : Int) = ((a ^ (i + 1) : Nat) : Int) := by rw [Nat.pow_succ]; exact (Int.natCast_mul _ _).symm
theorem spec_pw (a n : Nat) (w : World) (ha : a ≤ 4) (hn : n ≤ 20) :
    Calls Try.prog 42 #[.int .i64 a, .int .i64 n] w fun e w' => e = .returned (.int .i64 ((a ^ n : Nat) : Int)) ∧ w = w' := by
  go_enter Try.func42, Try.ntmps42
  go_wp2
  go_loop [5, 6] (fun x' i' => ∃ i : Nat, i ≤ n ∧ i' = .int .i64 i ∧ x' = .int .i64 ((a ^ i : Nat) : Int)) (fun _ i' => n - (intOf i').toNat)
  case atStart => exact ⟨0, Nat.zero_le _, rfl, rfl⟩
  case round =>
    obtain ⟨i, hi, rfl, rfl⟩ := hrel
    by_cases hlt : i < n
    · have hb := pow_top (i := i + 1) ha hn (by omega)
      have hb1 := pow_top (i := i) ha hn (by omega)
      have hnx := pow_nx a i
      obtain ⟨p, hp⟩ : ∃ p, p = a ^ i := ⟨_, rfl⟩
      obtain ⟨q, hq⟩ : ∃ q, q = a ^ (i + 1) := ⟨_, rfl⟩
      rw [← hp] at hb1
      rw [← hq] at hb
      rw [← hp, ← hq] at hnx
      have HQ := Lib.hid hq
      rw [← hp]
      clear hp hq
      have h0 : 0 ≤ (p : Int) * (a : Int) := by omega
      have h9 : (p : Int) * (a : Int) ≤ 1099511627776 := by omega
      have HN := Lib.hid hnx
      clear hnx
      go_wp2
      go_round
      case rel => exact ⟨i + 1, by omega, by go_num, by rw [HN.out, HQ.out]⟩
      case measure => simp [intOf]; omega
    · obtain rfl : i = n := by omega
      go_wp2
      go_ret
      exact ⟨rfl, rfl⟩
theorem impl_pw (a n : Nat) (w : World) (ha : a ≤ 4) (hn : n ≤ 20) :
    Calls Try.prog 45 #[.int .i64 a, .int .i64 n] w fun e w' => e = .returned (.int .i64 ((a ^ n : Nat) : Int)) ∧ w = w' := by
  go_enter Try.func45, Try.ntmps45
  go_wp2
  go_loop [5, 7] (fun x' i' => ∃ i : Nat, i ≤ n ∧ i' = .int .i64 i ∧ x' = .int .i64 ((a ^ i : Nat) : Int)) (fun _ i' => n - (intOf i').toNat)
  case atStart => exact ⟨0, Nat.zero_le _, rfl, rfl⟩
  case round =>
    obtain ⟨i, hi, rfl, rfl⟩ := hrel
    by_cases hlt : i < n
    · have hb := pow_top (i := i + 1) ha hn (by omega)
      have hb1 := pow_top (i := i) ha hn (by omega)
      have hnx := pow_nx a i
      obtain ⟨p, hp⟩ : ∃ p, p = a ^ i := ⟨_, rfl⟩
      obtain ⟨q, hq⟩ : ∃ q, q = a ^ (i + 1) := ⟨_, rfl⟩
      rw [← hp] at hb1
      rw [← hq] at hb
      rw [← hp, ← hq] at hnx
      have HQ := Lib.hid hq
      rw [← hp]
      clear hp hq
      have h0 : 0 ≤ (p : Int) * (a : Int) := by omega
      have h9 : (p : Int) * (a : Int) ≤ 1099511627776 := by omega
      have HN := Lib.hid hnx
      clear hnx
      go_wp2
      go_round
      case rel => exact ⟨i + 1, by omega, by go_num, by rw [HN.out, HQ.out]⟩
      case measure => simp [intOf]; omega
    · obtain rfl : i = n := by omega
      go_wp2
      go_ret
      exact ⟨rfl, rfl⟩
theorem mob_go {f p n : Nat} {m : Int} (h : p ≤ n) (hf : n + 1 ≤ p + f) : ∃ f', n + 1 ≤ (p + 1) + f' ∧ mobA f p n m = if n % p = 0 then (if n / p % p = 0 then 0 else mobA f' (p + 1) (n / p) (-m)) else mobA f' (p + 1) n m := by
  cases f with
  | zero => omega
  | succ f =>
    refine ⟨f, by omega, ?_⟩
    conv => lhs; unfold mobA
    rw [if_pos h]
set_option maxRecDepth 100000 in
set_option maxHeartbeats 2000000 in
theorem spec_mob (n : Nat) (w : World) (h0 : 0 < n) (hn : n ≤ 20) :
    Calls Try.prog 49 #[.int .i64 n] w fun e w' => e = .returned (.int .i64 (mob n)) ∧ w = w' := by
  go_enter Try.func49, Try.ntmps49
  go_wp2
  go_loop [0, 3, 4] (fun n' m' p' => ∃ (p q f : Nat) (m : Int), n' = .int .i64 q ∧ m' = .int .i64 m ∧ p' = .int .i64 p ∧ 2 ≤ p ∧ q ≤ 20 ∧ q + 1 ≤ p + f ∧ (m = 1 ∨ m = -1) ∧ Hid (mobA f p q m = mob n)) (fun n' _ p' => (intOf n' + 1 - intOf p').toNat)
  case atStart => exact ⟨2, n, n, 1, rfl, rfl, rfl, by omega, hn, by omega, .inl rfl, rfl⟩
  case round =>
    obtain ⟨p, q, f, m, rfl, rfl, rfl, hp, hq, hf, hm, HM⟩ := hrel
    by_cases hle : p ≤ q
    · obtain ⟨f', hf', hgo⟩ := mob_go (m := m) hle hf
      by_cases h0 : q % p = 0
      · rw [if_pos h0] at hgo
        obtain ⟨r, hr⟩ : ∃ r, r = q / p := ⟨_, rfl⟩
        have hrq : r ≤ q := by rw [hr]; exact Nat.div_le_self _ _
        have e1 : (q : Int) / (p : Int) = (r : Int) := by rw [hr]; rfl
        have e2 : (q : Int).tdiv (p : Int) = (r : Int) := by rw [hr]; rfl
        have e3 : (q : Int) % (p : Int) = 0 := by rw [← Int.natCast_emod, h0]; rfl
        have e4 : (q : Int).tmod (p : Int) = 0 := by show ((q % p : Nat) : Int) = 0; rw [h0]; rfl
        rw [← hr] at hgo
        by_cases h1 : r % p = 0
        · have e5 : (r : Int) % (p : Int) = 0 := by rw [← Int.natCast_emod, h1]; rfl
          have e6 : (r : Int).tmod (p : Int) = 0 := by show ((r % p : Nat) : Int) = 0; rw [h1]; rfl
          rw [if_pos h1] at hgo
          have HE : Hid (0 = mob n) := by have := HM.out; rw [hgo] at this; exact this
          clear hr h0 h1 hgo hf hf' HM
          go_wp2
          go_ret
          exact ⟨ret_i HE.out, rfl⟩
        · obtain ⟨t, ht⟩ : ∃ t, t = r % p := ⟨_, rfl⟩
          have e5 : (r : Int) % (p : Int) = (t : Int) := by rw [ht]; rfl
          have e6 : (r : Int).tmod (p : Int) = (t : Int) := by rw [ht]; rfl
          have e7 : ((t : Int) == 0) = false := by simp; omega
          rw [if_neg h1] at hgo
          have HE : Hid (mobA f' (p + 1) r (-m) = mob n) := by have := HM.out; rw [hgo] at this; exact this
          have hff : r + 1 ≤ p + 1 + f' := by omega
          have hmm : -m = 1 ∨ -m = -1 := by omega
          have hmn : -9223372036854775808 ≤ -m ∧ -m ≤ 9223372036854775807 := by omega
          clear hr h0 h1 hgo hf hf' HM ht hm
          go_wp2
          go_round
          case rel => exact ⟨p + 1, r, f', -m, rfl, rfl, by go_num, by omega, by omega, by omega, hmm, HE⟩
          case measure => simp [intOf]; omega
      · obtain ⟨t, ht⟩ : ∃ t, t = q % p := ⟨_, rfl⟩
        have e3 : (q : Int) % (p : Int) = (t : Int) := by rw [ht]; rfl
        have e4 : (q : Int).tmod (p : Int) = (t : Int) := by rw [ht]; rfl
        have e7 : ((t : Int) == 0) = false := by simp; omega
        have e8 : ((t : Int) != 0) = true := by simp; omega
        rw [if_neg h0] at hgo
        have HE : Hid (mobA f' (p + 1) q m = mob n) := by have := HM.out; rw [hgo] at this; exact this
        clear h0 hgo hf HM ht
        go_wp2
        go_round
        case rel => exact ⟨p + 1, q, f', m, rfl, rfl, by go_num, by omega, by omega, by omega, hm, HE⟩
        case measure => simp [intOf]; omega
    · have HE : Hid (m = mob n) := by have := HM.out; rw [mobA_end (by omega)] at this; exact this
      go_wp2
      go_ret
      exact ⟨ret_i HE.out, rfl⟩
set_option maxRecDepth 100000 in
set_option maxHeartbeats 2000000 in
theorem impl_mob (n : Nat) (w : World) (h0 : 0 < n) (hn : n ≤ 20) :
    Calls Try.prog 52 #[.int .i64 n] w fun e w' => e = .returned (.int .i64 (mob n)) ∧ w = w' := by
  go_enter Try.func52, Try.ntmps52
  go_wp2
  go_loop [0, 3, 4] (fun n' m' p' => ∃ (p q f : Nat) (m : Int), n' = .int .i64 q ∧ m' = .int .i64 m ∧ p' = .int .i64 p ∧ 2 ≤ p ∧ q ≤ 20 ∧ q + 1 ≤ p + f ∧ (m = 1 ∨ m = -1) ∧ Hid (mobA f p q m = mob n)) (fun n' _ p' => (intOf n' + 1 - intOf p').toNat)
  case atStart => exact ⟨2, n, n, 1, rfl, rfl, rfl, by omega, hn, by omega, .inl rfl, rfl⟩
  case round =>
    obtain ⟨p, q, f, m, rfl, rfl, rfl, hp, hq, hf, hm, HM⟩ := hrel
    by_cases hle : p ≤ q
    · obtain ⟨f', hf', hgo⟩ := mob_go (m := m) hle hf
      by_cases h0 : q % p = 0
      · rw [if_pos h0] at hgo
        obtain ⟨r, hr⟩ : ∃ r, r = q / p := ⟨_, rfl⟩
        have hrq : r ≤ q := by rw [hr]; exact Nat.div_le_self _ _
        have e1 : (q : Int) / (p : Int) = (r : Int) := by rw [hr]; rfl
        have e2 : (q : Int).tdiv (p : Int) = (r : Int) := by rw [hr]; rfl
        have e3 : (q : Int) % (p : Int) = 0 := by rw [← Int.natCast_emod, h0]; rfl
        have e4 : (q : Int).tmod (p : Int) = 0 := by show ((q % p : Nat) : Int) = 0; rw [h0]; rfl
        rw [← hr] at hgo
        by_cases h1 : r % p = 0
        · have e5 : (r : Int) % (p : Int) = 0 := by rw [← Int.natCast_emod, h1]; rfl
          have e6 : (r : Int).tmod (p : Int) = 0 := by show ((r % p : Nat) : Int) = 0; rw [h1]; rfl
          rw [if_pos h1] at hgo
          have HE : Hid (0 = mob n) := by have := HM.out; rw [hgo] at this; exact this
          clear hr h0 h1 hgo hf hf' HM
          go_wp2
          go_ret
          exact ⟨ret_i HE.out, rfl⟩
        · obtain ⟨t, ht⟩ : ∃ t, t = r % p := ⟨_, rfl⟩
          have e5 : (r : Int) % (p : Int) = (t : Int) := by rw [ht]; rfl
          have e6 : (r : Int).tmod (p : Int) = (t : Int) := by rw [ht]; rfl
          have e7 : ((t : Int) == 0) = false := by simp; omega
          rw [if_neg h1] at hgo
          have HE : Hid (mobA f' (p + 1) r (-m) = mob n) := by have := HM.out; rw [hgo] at this; exact this
          have hff : r + 1 ≤ p + 1 + f' := by omega
          have hmm : -m = 1 ∨ -m = -1 := by omega
          have hmn : -9223372036854775808 ≤ -m ∧ -m ≤ 9223372036854775807 := by omega
          clear hr h0 h1 hgo hf hf' HM ht hm
          go_wp2
          go_round
          case rel => exact ⟨p + 1, r, f', -m, rfl, rfl, by go_num, by omega, by omega, by omega, hmm, HE⟩
          case measure => simp [intOf]; omega
      · obtain ⟨t, ht⟩ : ∃ t, t = q % p := ⟨_, rfl⟩
        have e3 : (q : Int) % (p : Int) = (t : Int) := by rw [ht]; rfl
        have e4 : (q : Int).tmod (p : Int) = (t : Int) := by rw [ht]; rfl
        have e7 : ((t : Int) == 0) = false := by simp; omega
        have e8 : ((t : Int) != 0) = true := by simp; omega
        rw [if_neg h0] at hgo
        have HE : Hid (mobA f' (p + 1) q m = mob n) := by have := HM.out; rw [hgo] at this; exact this
        clear h0 hgo hf HM ht
        go_wp2
        go_round
        case rel => exact ⟨p + 1, q, f', m, rfl, rfl, by go_num, by omega, by omega, by omega, hm, HE⟩
        case measure => simp [intOf]; omega
    · have HE : Hid (m = mob n) := by have := HM.out; rw [mobA_end (by omega)] at this; exact this
      go_wp2
      go_ret
      exact ⟨ret_i HE.out, rfl⟩
theorem alpha (a : Int) (c : Bool) (w : World) (h : decide (1 ≤ a ∧ a ≤ 4) = c) :
    Calls Try.prog 44 #[.int .i64 a] w fun e w' => e = .returned (.bool c) ∧ w = w' := by
  cases c with
  | true =>
    rw [decide_eq_true_eq] at h
    go_enter Try.func44, Try.ntmps44
    go_wp2
    go_ret
    exact ⟨rfl, rfl⟩
  | false =>
    rw [decide_eq_false_iff_not] at h
    by_cases h1 : 1 ≤ a
    · have h4 : 4 < a := by omega
      have hd := decide_eq_false (show ¬ a ≤ 4 by omega)
      clear h
      go_enter Try.func44, Try.ntmps44
      go_wp2
      go_ret
      exact ⟨rfl, rfl⟩
    · clear h
      go_enter Try.func44, Try.ntmps44
      go_wp2
      go_ret
      exact ⟨rfl, rfl⟩
theorem has_cl (a n : Int) (c : Bool) (w : World) (h : decide (1 ≤ a ∧ a ≤ 4 ∧ 1 ≤ n ∧ n ≤ 20) = c) :
    Calls Try.prog 50 #[.int .i64 a, .int .i64 n] w fun e w' => e = .returned (.bool c) ∧ w = w' := by
  by_cases ha : 1 ≤ a ∧ a ≤ 4
  · have HA := Lib.hid (alpha a true w (decide_eq_true ha))
    by_cases h1 : 1 ≤ n
    · by_cases h2 : n ≤ 20
      · obtain rfl : c = true := by rw [← h]; exact decide_eq_true (by omega)
        clear h ha
        go_enter Try.func50, Try.ntmps50
        go_wp2_with (go_at_call 44; refine HA.out.mono ?_; rintro e w' ⟨rfl, rfl⟩)
        go_ret
        exact ⟨rfl, rfl⟩
      · obtain rfl : c = false := by rw [← h]; exact decide_eq_false (by omega)
        have hd := decide_eq_false (show ¬ n ≤ 20 by omega)
        clear h ha
        go_enter Try.func50, Try.ntmps50
        go_wp2_with (go_at_call 44; refine HA.out.mono ?_; rintro e w' ⟨rfl, rfl⟩)
        go_ret
        exact ⟨rfl, rfl⟩
    · obtain rfl : c = false := by rw [← h]; exact decide_eq_false (by omega)
      clear h ha
      go_enter Try.func50, Try.ntmps50
      go_wp2_with (go_at_call 44; refine HA.out.mono ?_; rintro e w' ⟨rfl, rfl⟩)
      go_ret
      exact ⟨rfl, rfl⟩
  · obtain rfl : c = false := by rw [← h]; exact decide_eq_false (by omega)
    have HA := Lib.hid (alpha a false w (decide_eq_false ha))
    clear h ha
    go_enter Try.func50, Try.ntmps50
    go_wp2_with (go_at_call 44; refine HA.out.mono ?_; rintro e w' ⟨rfl, rfl⟩)
    go_ret
    exact ⟨rfl, rfl⟩
/-- The divisors as the slice has them. -/
def dvI (n : Nat) : List Int := (dvs n).map fun d : Nat => (d : Int)
def dvJ (n k : Nat) : List Int := (dvT n k).map fun d : Nat => (d : Int)
theorem dvJ_yes {n k : Nat} (h : k < n) (h0 : n % (k + 1) = 0) : dvJ n (k + 1) = dvJ n k ++ [((k : Int) + 1)] := by unfold dvJ; rw [dvT_next h, if_pos h0, List.map_append]; rfl
theorem dvJ_no {n k : Nat} (h : k < n) (h0 : ¬ n % (k + 1) = 0) : dvJ n (k + 1) = dvJ n k := by unfold dvJ; rw [dvT_next h, if_neg h0, List.append_nil]
theorem dvJ_len (n k : Nat) : (dvJ n k).length ≤ n := by unfold dvJ; rw [List.length_map]; exact dvT_len n k
theorem dvI_len (n : Nat) : (dvI n).length ≤ n := by unfold dvI; rw [List.length_map]; exact dvs_len n
set_option maxRecDepth 100000 in
set_option maxHeartbeats 2000000 in
theorem divs (n : Nat) (w : World) (hn : n ≤ 20) :
    Calls Try.prog 51 #[.int .i64 n] w (Gives (Value.int .i64) 3 (dvI n) w) := by
  obtain ⟨i0, hi, hz0, hz1, hz2⟩ := info_parts Ints.infoI
  go_enter Try.func51, Try.ntmps51
  go_wp2
  go_loopw [3, 4] (fun o' d' wr => ∃ (k : Nat) (vo : Value), k ≤ n ∧ d' = .int .i64 ((k : Int) + 1) ∧ vo = o' ∧ Hid (Has (Value.int .i64) 3 wr w.heap.size vo (dvJ n k)) ∧ Hid (Below w.heap.size w wr)) (fun _ d' _ => n + 1 - (intOf d').toNat)
  case atStart => exact ⟨0, _, Nat.zero_le _, by go_num, rfl, World.ownsRow_nil _ _ _ _, Below.refl _ _⟩
  case round =>
    obtain ⟨k, vo, hk, rfl, rfl, HO, HB⟩ := hrel
    obtain ⟨oa, oc, hvo, _⟩ := HO.out.form
    subst hvo
    by_cases hlt : k < n
    · obtain ⟨t, ht⟩ : ∃ t, t = n % (k + 1) := ⟨_, rfl⟩
      have e3 : (n : Int) % ((k : Int) + 1) = (t : Int) := by rw [ht]; rfl
      have e4 : (n : Int).tmod ((k : Int) + 1) = (t : Int) := by rw [ht]; rfl
      have HLL := dvJ_len n k
      by_cases h0 : t = 0
      · have HJ := Lib.hid (dvJ_yes hlt (by rw [← ht]; exact h0))
        have e7 : ((t : Int) == 0) = true := by simp [h0]
        obtain ⟨L, hL⟩ : ∃ L, L = dvJ n k := ⟨_, rfl⟩
        rw [← hL] at HO HJ HLL ⊢
        clear ht h0 hL
        go_wp2_with (refine append_one (enc := (Value.int .i64)) (e := 3) wr rfl _ _ 22 rfl w.heap.size i0 (.int .i64 0) 8 Try.underlying22 hi hz0 hz1 hz2 rfl (.slice oa L.length oc) L rfl HO.out ((k : Int) + 1) rfl (fun _ => rfl) (by omega) (by omega) HB.out.size ?_; intro v' w1 ho hg; have HO2 := Lib.hid ho; have HB2 := Lib.hid (HO.out.frame HB.out (Nat.le_refl _) hg); clear hg ho)
        rw [← HJ.out] at HO2
        go_roundw
        case rel => exact ⟨k + 1, _, by omega, by go_num, rfl, HO2, HB2⟩
        case measure => simp [intOf]; omega
      · have HJ := Lib.hid (dvJ_no hlt (by rw [← ht]; exact h0))
        have e7 : ((t : Int) == 0) = false := by simp [h0]
        have HO2 : Hid (Has (Value.int .i64) 3 wr w.heap.size (.slice oa (dvJ n k).length oc) (dvJ n (k + 1))) := by show Has _ _ _ _ _ _; rw [HJ.out]; exact HO.out
        obtain ⟨L, hL⟩ : ∃ L, L = dvJ n k := ⟨_, rfl⟩
        rw [← hL] at HO2 ⊢
        clear ht h0 hL
        go_wp2
        go_roundw
        case rel => exact ⟨k + 1, _, by omega, by go_num, rfl, HO2, HB⟩
        case measure => simp [intOf]; omega
    · have HE : Hid (Has (Value.int .i64) 3 wr w.heap.size (.slice oa (dvJ n k).length oc) (dvI n)) := by
        have := HO.out
        have e : dvJ n k = dvI n := by unfold dvJ dvI; rw [dvT_all (by omega)]
        rw [← e]
        exact this
      go_wp2
      go_ret
      exact ⟨_, rfl, HE.out, HB.out⟩
end Lynd
end Go.Proofs.Ytcnejfihpaicdaa
