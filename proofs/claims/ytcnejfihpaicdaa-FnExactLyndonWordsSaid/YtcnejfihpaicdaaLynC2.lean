/- Contracts of CountLyndon and CountNecklaces, of the model and of the program. No conditions beyond those that each states. -/
import Derived.Test.YtcnejfihpaicdaaLynC
import Derived.Test.YtcnejfihpaicdaaSeqMark
import Derived.Deep.RegionLaw
namespace Go.Proofs.Ytcnejfihpaicdaa
open Go.ChangeShapes Go.WideShapes Go.ChangeAt Go.RowKit
open Go.PlainAid Plain
set_option linter.unusedVariables false
namespace Lynd
open Fac Seqs
/-- What a sum of n numbers, each at most 4^20 in size, is bounded by. -/
theorem mob_mul (m : Int) (P : Nat) (hm : m = 1 ∨ m = 0 ∨ m = -1) (hP : P ≤ 1099511627776) : -1099511627776 ≤ m * (P : Int) ∧ m * (P : Int) ≤ 1099511627776 := by
  rcases hm with rfl | rfl | rfl <;> simp <;> omega
theorem clN_yes {a n : Nat} (h : 1 ≤ a ∧ a ≤ 4 ∧ 1 ≤ n ∧ n ≤ 20) : clN a n = clV a n := by unfold clN; rw [if_pos (by omega)]; rfl
theorem clN_no {a n : Int} (h : ¬ (1 ≤ a ∧ a ≤ 4 ∧ 1 ≤ n ∧ n ≤ 20)) : clN a n = -1 := if_neg h
theorem cnN_yes {a n : Nat} (h : 1 ≤ a ∧ a ≤ 4 ∧ 1 ≤ n ∧ n ≤ 20) : cnN a n = (cnV a n : Int) := by unfold cnN; rw [if_pos (by omega)]; rfl
theorem cnN_no {a n : Int} (h : ¬ (1 ≤ a ∧ a ≤ 4 ∧ 1 ≤ n ∧ n ≤ 20)) : cnN a n = -1 := if_neg h
set_option maxRecDepth 100000 in
set_option maxHeartbeats 4000000 in
theorem spec_cl (a n : Int) (w : World) :
    Calls Try.prog 28 #[.int .i64 a, .int .i64 n] w fun e w' => e = .returned (.int .i64 (clN a n)) ∧ Below w.heap.size w w' := by
  by_cases h : 1 ≤ a ∧ a ≤ 4 ∧ 1 ≤ n ∧ n ≤ 20
  · obtain ⟨x, hx⟩ : ∃ x : Nat, a = x := ⟨a.toNat, by omega⟩
    obtain ⟨m, hm⟩ : ∃ m : Nat, n = m := ⟨n.toNat, by omega⟩
    subst hx; subst hm
    rw [clN_yes (by omega)]
    have ha4 : x ≤ 4 := by omega
    have hm20 : m ≤ 20 := by omega
    have ha1 : 1 ≤ (x : Int) := by omega
    have ha2 : (x : Int) ≤ 4 := by omega
    have hn1 : 1 ≤ (m : Int) := by omega
    have hn2 : (m : Int) ≤ 20 := by omega
    have HS := Lib.hid (cl_same (a := x) (n := m) (by omega) (by omega))
    clear h
    go_enter Try.func28, Try.ntmps28
    go_wp2_with (go_at_call 41; first | (with_reducible refine (l1In_yes (x : Int) _ _ _ ha1 ha2).mono ?_; rintro e w' ⟨rfl, rfl⟩) | (with_reducible refine (l1In_yes (m : Int) _ _ _ hn1 hn2).mono ?_; rintro e w' ⟨rfl, rfl⟩))
    go_loopw [5, 6] (fun s' d' wr => ∃ (k : Nat) (s : Int), k ≤ m ∧ d' = .int .i64 ((k : Int) + 1) ∧ s' = .int .i64 s ∧ Hid (s = clP x m k) ∧ -(1099511627776 * (k : Int)) ≤ s ∧ s ≤ 1099511627776 * (k : Int) ∧ Hid (Below w.heap.size w wr)) (fun _ d' _ => m + 1 - (intOf d').toNat)
    case atStart => exact ⟨0, 0, Nat.zero_le _, by go_num, rfl, rfl, by omega, by omega, Below.refl _ _⟩
    case round =>
      obtain ⟨k, s, hk, rfl, rfl, HP, hs1, hs2, HB⟩ := hrel
      by_cases hlt : k < m
      · obtain ⟨t, ht⟩ : ∃ t, t = m % (k + 1) := ⟨_, rfl⟩
        have e3 : (m : Int) % ((k : Int) + 1) = (t : Int) := by rw [ht]; rfl
        have e4 : (m : Int).tmod ((k : Int) + 1) = (t : Int) := by rw [ht]; rfl
        have HNX := Lib.hid (clP_next x m k)
        by_cases h0 : t = 0
        · have e7 : ((t : Int) == 0) = true := by simp [h0]
          have hnx := HNX.out
          rw [if_pos (by rw [← ht]; exact h0)] at hnx
          obtain ⟨q, hq⟩ : ∃ q, q = m / (k + 1) := ⟨_, rfl⟩
          have hqm : q ≤ m := by rw [hq]; exact Nat.div_le_self _ _
          have e1 : (m : Int) / ((k : Int) + 1) = (q : Int) := by rw [hq]; rfl
          have e2 : (m : Int).tdiv ((k : Int) + 1) = (q : Int) := by rw [hq]; rfl
          have hpt := pow_top (i := q) ha4 hm20 hqm
          have hmb := mob_abs (k + 1)
          have HCM := Lib.hid (fun W => spec_mob (k + 1) W (by omega) (by omega))
          have HCP := Lib.hid (fun W => spec_pw x q W ha4 (by omega))
          rw [← hq] at hnx
          obtain ⟨P, hP⟩ : ∃ P, P = x ^ q := ⟨_, rfl⟩
          obtain ⟨u, hu⟩ : ∃ u, u = mob (k + 1) := ⟨_, rfl⟩
          rw [← hP, ← hu] at hnx
          rw [← hP] at hpt HCP
          rw [← hu] at hmb HCM
          have hmm := mob_mul u P hmb hpt
          obtain ⟨v, hv⟩ : ∃ v, v = u * (P : Int) := ⟨_, rfl⟩
          rw [← hv] at hmm hnx
          have hw1 : IntKind.i64.wrap (u * (P : Int)) = v := by rw [← hv, IntKind.wrap_i64]; omega
          have hw2 : IntKind.i64.wrap (s + v) = s + v := by rw [IntKind.wrap_i64]; omega
          have HN2 : Hid (s + v = clP x m (k + 1)) := by show _ = _; rw [hnx, HP.out]
          have hkk : ((k + 1 : Nat) : Int) = (k : Int) + 1 := by omega
          have hk0 : ¬ ((k : Int) + 1 = 0) := by omega
          have hwq : IntKind.i64.wrap (q : Int) = (q : Int) := by rw [IntKind.wrap_i64]; omega
          rw [hkk] at HCM
          clear ht h0 hq hnx hP hu hmb hv HP hpt hkk
          go_wp2_with fail
          go_region_law (first | (go_simp; go_at_call 49; (with_reducible refine (HCM.out _).mono ?_); rintro e w5 ⟨rfl, rfl⟩) | (go_simp; go_at_call 42; (with_reducible refine (HCP.out _).mono ?_); rintro e w5 ⟨rfl, rfl⟩))
          all_goals
            have HB6 : Hid (Below w.heap.size w wr.drew) := HB.out.trans ((below_drew' wr).mono HB.out.size)
            clear HCM HCP hw1 hw2 e1 e2 e3 e4 e7
            go_wp2
            go_roundw
            case rel => exact ⟨k + 1, s + v, by omega, by go_num, rfl, HN2, by omega, by omega, HB6⟩
            case measure => simp [intOf]; omega
        · have e7 : ((t : Int) == 0) = false := by simp [h0]
          have HN2 : Hid (s = clP x m (k + 1)) := by show _ = _; rw [HNX.out, if_neg (by rw [← ht]; exact h0), HP.out]; omega
          clear ht h0
          go_wp2
          go_roundw
          case rel => exact ⟨k + 1, s, by omega, by go_num, rfl, HN2, by omega, by omega, HB⟩
          case measure => simp [intOf]; omega
      · obtain rfl : k = m := by omega
        have h0s : 0 ≤ s := by rw [HP.out, clP_all]; exact HS.out.2.1
        have e1 : s.tdiv (k : Int) = s / (k : Int) := Int.tdiv_eq_ediv_of_nonneg h0s
        obtain ⟨q, hq⟩ : ∃ q, q = s / (k : Int) := ⟨_, rfl⟩
        have HE : Hid (q = clV x k) := by show _ = _; rw [hq, HP.out, clP_all]; rfl
        have hq2 : s / (k : Int) = q := hq.symm
        have hqb : -9223372036854775808 ≤ q ∧ q ≤ 9223372036854775807 := by
          have h1 : q ≤ s := by rw [hq]; exact Int.ediv_le_self _ h0s
          have h2 : 0 ≤ q := by rw [hq]; exact Int.ediv_nonneg h0s (by omega)
          omega
        have hq3 : s.tdiv (k : Int) = q := by rw [e1]; exact hq2
        clear hq e1
        go_wp2
        go_ret
        exact ⟨Fac.ret_i HE.out, HB.out⟩
  · rw [clN_no h]
    by_cases h1 : 1 ≤ a ∧ a ≤ 4
    · have h2 : n < 1 ∨ 20 < n := by omega
      have h3 := h1.1
      have h4 := h1.2
      clear h h1
      go_enter Try.func28, Try.ntmps28
      go_wp2_with (go_at_call 41; first | (with_reducible refine (l1In_yes a _ _ _ h3 h4).mono ?_; rintro e w' ⟨rfl, rfl⟩) | (with_reducible refine (l1In_no n _ _ _ h2).mono ?_; rintro e w' ⟨rfl, rfl⟩))
      go_ret
      exact ⟨rfl, Below.refl _ _⟩
    · have h2 : a < 1 ∨ 4 < a := by omega
      clear h h1
      go_enter Try.func28, Try.ntmps28
      go_wp2_with (go_at_call 41; refine (l1In_no a _ _ _ h2).mono ?_; rintro e w' ⟨rfl, rfl⟩)
      go_ret
      exact ⟨rfl, Below.refl _ _⟩
theorem gcd_turn (a b : Nat) : Nat.gcd b (a % b) = Nat.gcd a b := by rw [Nat.gcd_comm b, ← Nat.gcd_rec, Nat.gcd_comm]
set_option maxRecDepth 100000 in
set_option maxHeartbeats 2000000 in
theorem spec_gcd (x y : Nat) (w : World) (hx : x ≤ 9223372036854775807) (hy : y ≤ 9223372036854775807) :
    Calls Try.prog 53 #[.int .i64 x, .int .i64 y] w fun e w' => e = .returned (.int .i64 (Nat.gcd x y)) ∧ w = w' := by
  go_enter Try.func53, Try.ntmps53
  go_wp2
  go_loop [0, 1] (fun a' b' => ∃ a b : Nat, a ≤ 9223372036854775807 ∧ b ≤ 9223372036854775807 ∧ a' = .int .i64 a ∧ b' = .int .i64 b ∧ Hid (Nat.gcd a b = Nat.gcd x y)) (fun _ b' => (intOf b').toNat)
  case atStart => exact ⟨x, y, hx, hy, rfl, rfl, rfl⟩
  case round =>
    obtain ⟨a, b, ha, hb, rfl, rfl, HG⟩ := hrel
    by_cases h0 : 0 < b
    · have hb0 : ((b : Int) == 0) = false := by simp; omega
      have hm : a % b < b := Nat.mod_lt _ h0
      obtain ⟨r, hr⟩ : ∃ r, r = a % b := ⟨_, rfl⟩
      have e1 : (a : Int) % (b : Int) = (r : Int) := by rw [hr]; rfl
      have e2 : (a : Int).tmod (b : Int) = (r : Int) := by rw [hr]; rfl
      have HG2 : Hid (Nat.gcd b r = Nat.gcd x y) := by show _ = _; rw [hr, gcd_turn]; exact HG.out
      rw [← hr] at hm
      clear hr
      go_wp2
      go_round
      case rel => exact ⟨b, r, by omega, by omega, rfl, rfl, HG2⟩
      case measure => simp [intOf]; omega
    · obtain rfl : b = 0 := by omega
      have HE : Hid (a = Nat.gcd x y) := by have := HG.out; rwa [Nat.gcd_zero_right] at this
      go_wp2
      go_ret
      exact ⟨Fac.ret_i (by rw [← HE.out]), rfl⟩
set_option maxRecDepth 100000 in
set_option maxHeartbeats 4000000 in
theorem spec_cn (a n : Int) (w : World) :
    Calls Try.prog 30 #[.int .i64 a, .int .i64 n] w fun e w' => e = .returned (.int .i64 (cnN a n)) ∧ Below w.heap.size w w' := by
  by_cases h : 1 ≤ a ∧ a ≤ 4 ∧ 1 ≤ n ∧ n ≤ 20
  · obtain ⟨x, hx⟩ : ∃ x : Nat, a = x := ⟨a.toNat, by omega⟩
    obtain ⟨m, hm⟩ : ∃ m : Nat, n = m := ⟨n.toNat, by omega⟩
    subst hx; subst hm
    rw [cnN_yes (by omega)]
    have ha4 : x ≤ 4 := by omega
    have hm20 : m ≤ 20 := by omega
    have ha1 : 1 ≤ (x : Int) := by omega
    have ha2 : (x : Int) ≤ 4 := by omega
    have hn1 : 1 ≤ (m : Int) := by omega
    have hn2 : (m : Int) ≤ 20 := by omega
    have hm0 : 0 < m := by omega
    clear h
    go_enter Try.func30, Try.ntmps30
    go_wp2_with (go_at_call 41; first | (with_reducible refine (l1In_yes (x : Int) _ _ _ ha1 ha2).mono ?_; rintro e w' ⟨rfl, rfl⟩) | (with_reducible refine (l1In_yes (m : Int) _ _ _ hn1 hn2).mono ?_; rintro e w' ⟨rfl, rfl⟩))
    go_loopw [5, 6] (fun s' d' wr => ∃ (k s : Nat), k ≤ m ∧ d' = .int .i64 (k : Int) ∧ s' = .int .i64 (s : Int) ∧ Hid (s = cnP x m k) ∧ s ≤ 1099511627776 * k ∧ Hid (Below w.heap.size w wr)) (fun _ d' _ => m - (intOf d').toNat)
    case atStart => exact ⟨0, 0, Nat.zero_le _, rfl, rfl, rfl, by omega, Below.refl _ _⟩
    case round =>
      obtain ⟨k, s, hk, rfl, rfl, HP, hs1, HB⟩ := hrel
      by_cases hlt : k < m
      · have hnx := cnP_next x m k
        have hgm : Nat.gcd m k ≤ m := Nat.gcd_le_left _ hm0
        have HCG := Lib.hid (fun W => spec_gcd m k W (by omega) (by omega))
        obtain ⟨q, hq⟩ : ∃ q, q = Nat.gcd m k := ⟨_, rfl⟩
        rw [← hq] at hnx hgm HCG
        have hpt := pow_top (i := q) ha4 hm20 hgm
        have HCP := Lib.hid (fun W => spec_pw x q W ha4 (by omega))
        obtain ⟨P, hP⟩ : ∃ P, P = x ^ q := ⟨_, rfl⟩
        rw [← hP] at hpt HCP hnx
        have HN2 : Hid (s + P = cnP x m (k + 1)) := by show _ = _; rw [hnx, HP.out]
        clear hq hnx hP HP
        go_wp2_with (first | (go_at_call 53; refine (HCG.out _).mono ?_; rintro e w5 ⟨rfl, rfl⟩) | (go_at_call 42; refine (HCP.out _).mono ?_; rintro e w5 ⟨rfl, rfl⟩))
        go_roundw
        case rel => exact ⟨k + 1, s + P, by omega, by go_num, by go_num, HN2, by omega, HB⟩
        case measure => simp [intOf]; omega
      · obtain rfl : k = m := by omega
        obtain ⟨q, hq⟩ : ∃ q, q = s / k := ⟨_, rfl⟩
        have HE : Hid (q = cnV x k) := by show _ = _; rw [hq, HP.out, cnP_all]; rfl
        have hqb : q ≤ s := by rw [hq]; exact Nat.div_le_self _ _
        have e1 : (s : Int) / (k : Int) = (q : Int) := by rw [hq]; rfl
        have e2 : (s : Int).tdiv (k : Int) = (q : Int) := by rw [hq]; rfl
        clear hq
        go_wp2
        go_ret
        exact ⟨Fac.ret_i (by rw [HE.out]), HB.out⟩
  · rw [cnN_no h]
    by_cases h1 : 1 ≤ a ∧ a ≤ 4
    · have h2 : n < 1 ∨ 20 < n := by omega
      have h3 := h1.1
      have h4 := h1.2
      clear h h1
      go_enter Try.func30, Try.ntmps30
      go_wp2_with (go_at_call 41; first | (with_reducible refine (l1In_yes a _ _ _ h3 h4).mono ?_; rintro e w' ⟨rfl, rfl⟩) | (with_reducible refine (l1In_no n _ _ _ h2).mono ?_; rintro e w' ⟨rfl, rfl⟩))
      go_ret
      exact ⟨rfl, Below.refl _ _⟩
    · have h2 : a < 1 ∨ 4 < a := by omega
      clear h h1
      go_enter Try.func30, Try.ntmps30
      go_wp2_with (go_at_call 41; refine (l1In_no a _ _ _ h2).mono ?_; rintro e w' ⟨rfl, rfl⟩)
      go_ret
      exact ⟨rfl, Below.refl _ _⟩
/-- The sum over the first divisors. -/
theorem dvI_at {n i : Nat} (h : i < (dvs n).length) : ∃ d : Nat, (dvI n)[i]? = some (d : Int) ∧ 0 < d ∧ d ≤ n ∧ (∀ x, clT x n ((dvs n).take (i + 1)) = clT x n ((dvs n).take i) + mob (n / d) * ((x ^ d : Nat) : Int)) ∧ ∀ x, cnT x ((dvs n).take (i + 1)) = cnT x ((dvs n).take i) + clV x d := by
  obtain ⟨d, hd⟩ : ∃ d, (dvs n)[i]? = some d := ⟨_, List.getElem?_eq_getElem h⟩
  have hm := dvs_mem.1 (List.mem_of_getElem? hd)
  have ht : (dvs n).take (i + 1) = (dvs n).take i ++ [d] := by
    obtain ⟨h1, rfl⟩ := List.getElem?_eq_some_iff.1 hd
    rw [List.take_succ_eq_append_getElem h1]
  refine ⟨d, by unfold dvI; rw [List.getElem?_map, hd]; rfl, hm.1, hm.2.1, fun x => ?_, fun x => ?_⟩
  · rw [ht, clT_snoc]
  · rw [ht, cnT_snoc]
theorem dvI_size (n : Nat) : (dvI n).length = (dvs n).length := by unfold dvI; rw [List.length_map]
set_option maxRecDepth 100000 in
set_option maxHeartbeats 4000000 in
theorem impl_cl (a n : Int) (w : World) :
    Calls Try.prog 29 #[.int .i64 a, .int .i64 n] w fun e w' => e = .returned (.int .i64 (clN a n)) ∧ Below w.heap.size w w' := by
  by_cases h : 1 ≤ a ∧ a ≤ 4 ∧ 1 ≤ n ∧ n ≤ 20
  · obtain ⟨x, hx⟩ : ∃ x : Nat, a = x := ⟨a.toNat, by omega⟩
    obtain ⟨m, hm⟩ : ∃ m : Nat, n = m := ⟨n.toNat, by omega⟩
    subst hx; subst hm
    rw [clN_yes (by omega)]
    have ha4 : x ≤ 4 := by omega
    have hm20 : m ≤ 20 := by omega
    have hm0 : 0 < m := by omega
    have HS := Lib.hid (cl_same (a := x) (n := m) (by omega) (by omega))
    have HH := Lib.hid (has_cl (x : Int) (m : Int) true w (decide_eq_true h))
    have HD := Lib.hid (divs m w hm20)
    have hsz := dvI_size m
    have hll := dvs_len m
    clear h
    go_enter Try.func29, Try.ntmps29
    go_wp2_with (go_at_call 50; refine HH.out.mono ?_; rintro e w' ⟨rfl, rfl⟩)
    refine HD.out.mono ?_
    rintro e W1 ⟨vd, rfl, hv, b1⟩
    obtain ⟨da, dc, rfl, _⟩ := hv.form
    rw [hsz]
    have HV := Lib.hid hv.lies
    have HB1 := Lib.hid b1
    clear hv b1 HD HH
    go_wp2
    go_loop [5, 7, 15] (fun s' d' i' => ∃ (i : Nat) (s : Int), i ≤ (dvs m).length ∧ i' = .int .i64 (i : Int) ∧ s' = .int .i64 s ∧ Hid (s = clT x m ((dvs m).take i)) ∧ -(1099511627776 * (i : Int)) ≤ s ∧ s ≤ 1099511627776 * (i : Int)) (fun _ _ i' => (dvs m).length - (intOf i').toNat)
    case atStart => exact ⟨0, 0, Nat.zero_le _, rfl, rfl, rfl, by omega, by omega⟩
    case round =>
      obtain ⟨i, s, hi, rfl, rfl, HP, hs1, hs2⟩ := hrel
      by_cases hlt : i < (dvs m).length
      · obtain ⟨d, hat, hd0, hdm, hnx, -⟩ := dvI_at hlt
        have hnx := hnx x
        obtain ⟨g, o, hda, hc⟩ := lies_at (enc := (Value.int .i64)) HV.out hat
        subst hda
        obtain ⟨q, hq⟩ : ∃ q, q = m / d := ⟨_, rfl⟩
        have hqm : q ≤ m := by rw [hq]; exact Nat.div_le_self _ _
        have hq0 : 0 < q := by rw [hq]; exact Nat.div_pos hdm hd0
        have e1 : (m : Int) / (d : Int) = (q : Int) := by rw [hq]; rfl
        have e2 : (m : Int).tdiv (d : Int) = (q : Int) := by rw [hq]; rfl
        have hpt := pow_top (i := d) ha4 hm20 hdm
        have hmb := mob_abs q
        have HCM := Lib.hid (fun W => impl_mob q W hq0 (by omega))
        have HCP := Lib.hid (fun W => impl_pw x d W ha4 (by omega))
        rw [← hq] at hnx
        obtain ⟨P, hP⟩ : ∃ P, P = x ^ d := ⟨_, rfl⟩
        obtain ⟨u, hu⟩ : ∃ u, u = mob q := ⟨_, rfl⟩
        rw [← hP, ← hu] at hnx
        rw [← hP] at hpt HCP
        rw [← hu] at hmb HCM
        have hmm := mob_mul u P hmb hpt
        obtain ⟨v, hv⟩ : ∃ v, v = u * (P : Int) := ⟨_, rfl⟩
        rw [← hv] at hmm hnx
        have hv2 : u * (P : Int) = v := hv.symm
        have HN2 : Hid (s + v = clT x m ((dvs m).take (i + 1))) := by show _ = _; rw [hnx, HP.out]
        have hlt2 : (i : Int) < ((dvs m).length : Int) := by omega
        clear hat hq hnx hP hu hmb hv HP hpt
        go_wp2_with (first | (go_at_call 52; refine (HCM.out _).mono ?_; rintro e w5 ⟨rfl, rfl⟩) | (go_at_call 45; refine (HCP.out _).mono ?_; rintro e w5 ⟨rfl, rfl⟩))
        go_round
        case rel => exact ⟨i + 1, s + v, by omega, by go_num, by go_num, HN2, by omega, by omega⟩
        case measure => simp [intOf]; omega
      · have hs : s = clS x m := by rw [HP.out, List.take_of_length_le (by omega)]; exact HS.out.1
        have h0s : 0 ≤ s := by rw [hs]; exact HS.out.2.1
        have e1 : s.tdiv (m : Int) = s / (m : Int) := Int.tdiv_eq_ediv_of_nonneg h0s
        obtain ⟨q, hq⟩ : ∃ q, q = s / (m : Int) := ⟨_, rfl⟩
        have HE : Hid (q = clV x m) := by show _ = _; rw [hq, hs]; rfl
        have hq2 : s / (m : Int) = q := hq.symm
        have hqb : -9223372036854775808 ≤ q ∧ q ≤ 9223372036854775807 := by
          have h1 : q ≤ s := by rw [hq]; exact Int.ediv_le_self _ h0s
          have h2 : 0 ≤ q := by rw [hq]; exact Int.ediv_nonneg h0s (by omega)
          omega
        have hq3 : s.tdiv (m : Int) = q := by rw [e1]; exact hq2
        clear hq e1 hs
        go_wp2
        go_ret
        exact ⟨Fac.ret_i HE.out, HB1.out⟩
  · rw [clN_no h]
    have HH := Lib.hid (has_cl a n false w (decide_eq_false h))
    clear h
    go_enter Try.func29, Try.ntmps29
    go_wp2_with (go_at_call 50; refine HH.out.mono ?_; rintro e w' ⟨rfl, rfl⟩)
    go_ret
    exact ⟨rfl, Below.refl _ _⟩
set_option maxRecDepth 100000 in
set_option maxHeartbeats 4000000 in
theorem impl_cn (a n : Int) (w : World) :
    Calls Try.prog 31 #[.int .i64 a, .int .i64 n] w fun e w' => e = .returned (.int .i64 (cnN a n)) ∧ Below w.heap.size w w' := by
  by_cases h : 1 ≤ a ∧ a ≤ 4 ∧ 1 ≤ n ∧ n ≤ 20
  · obtain ⟨x, hx⟩ : ∃ x : Nat, a = x := ⟨a.toNat, by omega⟩
    obtain ⟨m, hm⟩ : ∃ m : Nat, n = m := ⟨n.toNat, by omega⟩
    subst hx; subst hm
    rw [cnN_yes (by omega)]
    have ha0 : 1 ≤ x := by omega
    have ha4 : x ≤ 4 := by omega
    have hm20 : m ≤ 20 := by omega
    have HS := Lib.hid (cl_same (a := x) (n := m) (by omega) (by omega))
    have HH := Lib.hid (has_cl (x : Int) (m : Int) true w (decide_eq_true h))
    have HD := Lib.hid (divs m w hm20)
    have hsz := dvI_size m
    have hll := dvs_len m
    clear h
    go_enter Try.func31, Try.ntmps31
    go_wp2_with (go_at_call 50; refine HH.out.mono ?_; rintro e w' ⟨rfl, rfl⟩)
    refine HD.out.mono ?_
    rintro e W1 ⟨vd, rfl, hv, b1⟩
    obtain ⟨da, dc, rfl, _⟩ := hv.form
    rw [hsz]
    have HV := Lib.hid hv.lies
    have HB1 := Lib.hid b1
    clear hv b1 HD HH
    go_wp2
    go_loopw [5, 7, 15] (fun s' d' i' wr => ∃ (i : Nat) (s : Int), i ≤ (dvs m).length ∧ i' = .int .i64 (i : Int) ∧ s' = .int .i64 s ∧ Hid (s = cnT x ((dvs m).take i)) ∧ 0 ≤ s ∧ s ≤ 1099511627776 * (i : Int) ∧ Hid (Below W1.heap.size W1 wr)) (fun _ _ i' _ => (dvs m).length - (intOf i').toNat)
    case atStart => exact ⟨0, 0, Nat.zero_le _, rfl, rfl, rfl, by omega, by omega, Below.refl _ _⟩
    case round =>
      obtain ⟨i, s, hi, rfl, rfl, HP, hs1, hs2, HB⟩ := hrel
      by_cases hlt : i < (dvs m).length
      · obtain ⟨d, hat, hd0, hdm, -, hnx⟩ := dvI_at hlt
        have hnx := hnx x
        obtain ⟨g, o, hda, hc⟩ := lies_at (enc := (Value.int .i64)) (HV.out.below HB.out) hat
        subst hda
        have hcs := cl_same (a := x) (n := d) (by omega) (by omega)
        have hv0 : 0 ≤ clV x d := Int.ediv_nonneg hcs.2.1 (by omega)
        have hv9 := hcs.2.2.2
        have HCL := Lib.hid (fun W => impl_cl (x : Int) (d : Int) W)
        rw [clN_yes (by omega)] at HCL
        obtain ⟨v, hv⟩ : ∃ v, v = clV x d := ⟨_, rfl⟩
        rw [← hv] at hnx hv0 hv9 HCL
        have HN2 : Hid (s + v = cnT x ((dvs m).take (i + 1))) := by show _ = _; rw [hnx, HP.out]
        have hlt2 : (i : Int) < ((dvs m).length : Int) := by omega
        clear hat hnx hv HP hcs
        go_wp2_with (go_at_call 29; refine (HCL.out _).mono ?_; rintro e w5 ⟨rfl, b5⟩; have HB5 := Lib.hid (HB.out.trans (b5.mono HB.out.size)); clear b5)
        go_roundw
        case rel => exact ⟨i + 1, s + v, by omega, by go_num, by go_num, HN2, by omega, by omega, HB5⟩
        case measure => simp [intOf]; omega
      · have HE : Hid (s = (cnV x m : Int)) := by show _ = _; rw [HP.out, List.take_of_length_le (by omega)]; exact HS.out.2.2.1
        go_wp2
        go_ret
        exact ⟨Fac.ret_i HE.out, HB1.out.trans (HB.out.mono HB1.out.size)⟩
  · rw [cnN_no h]
    have HH := Lib.hid (has_cl a n false w (decide_eq_false h))
    clear h
    go_enter Try.func31, Try.ntmps31
    go_wp2_with (go_at_call 50; refine HH.out.mono ?_; rintro e w' ⟨rfl, rfl⟩)
    go_ret
    exact ⟨rfl, Below.refl _ _⟩
end Lynd
end Go.Proofs.Ytcnejfihpaicdaa
