/- Several texts of this proof, one behind the other: each says ahead of it what it shows and under which conditions. -/
import Derived.Test.YtfpdikohlafpiaaGreatPW5
import Derived.Test.YtfpdikohlafpiaaGreatSeqMark
import Derived.Deep.RegionLaw
import Derived.Shelf.SlGeneric
import Derived.Shelf.SlSortCmp.Whole1
import Derived.Ground.SlsfProg
import Derived.Test.YtfpdikohlafpiaaGreatProg
import Derived.Test.YtfpdikohlafpiaaGreatPW4
import Derived.Laws.OwnMore
import Derived.Lib.SliceRun
import Derived.Test.YtfpdikohlafpiaaGreatShelf
import Derived.BigQuiet
import Derived.Deep.QuietTactic
import Derived.Test.YtfpdikohlafpiaaGreatPW1
import Derived.Test.YtfpdikohlafpiaaGreatDigits
import Derived.Deep.RegionHeld3
import Derived.Deep.DeepCutAuto
import Derived.Lib.AppendZeros
/- Contracts of CountLyndon and CountNecklaces, of the model and of the program. No conditions beyond those that each states. -/
namespace Go.Proofs.YtfpdikohlafpiaaGreat
open Go.ChangeShapes Go.WideShapes Go.ChangeAt Go.RowKit
open Go.PlainAid Plain
set_option linter.unusedVariables false
namespace Lynd
open Fac Seqs
/-- What a sum of n numbers, each at most 4^20 in size, is bounded by. -/
theorem mob_mul (m : Int) (P : Nat) (hm : m = 1 ∨ m = 0 ∨ m = -1) (hP : P ≤ 1099511627776) : -1099511627776 ≤ m * (P : Int) ∧ m * (P : Int) ≤ 1099511627776 := by
  rcases hm with rfl | rfl | rfl <;> simp <;> omega
theorem clN_yes {a n : Nat} (h : 1 ≤ a ∧ a ≤ 4 ∧ 1 ≤ n ∧ n ≤ 20) : clN a n = clV a n := by unfold clN; rw [if_pos (by omega)]; rfl
theorem clN_no {a n : Int} (h : ¬ (1 ≤ a ∧ a ≤ 4 ∧ 1 ≤ n ∧ n ≤ 20)) : clN a n = -1 := if_neg h
theorem cnN_yes {a n : Nat} (h : 1 ≤ a ∧ a ≤ 4 ∧ 1 ≤ n ∧ n ≤ 20) : cnN a n = (cnV a n : Int) := by unfold cnN; rw [if_pos (by omega)]; rfl
theorem cnN_no {a n : Int} (h : ¬ (1 ≤ a ∧ a ≤ 4 ∧ 1 ≤ n ∧ n ≤ 20)) : cnN a n = -1 := if_neg h
set_option maxRecDepth 100000 in
set_option maxHeartbeats 4000000 in
theorem spec_cl (a n : Int) (w : World) :
    Calls Tryz.prog 21 #[.int .i64 a, .int .i64 n] w fun e w' => e = .returned (.int .i64 (clN a n)) ∧ Below w.heap.size w w' := by
  by_cases h : 1 ≤ a ∧ a ≤ 4 ∧ 1 ≤ n ∧ n ≤ 20
  · obtain ⟨x, hx⟩ : ∃ x : Nat, a = x := ⟨a.toNat, by omega⟩
    obtain ⟨m, hm⟩ : ∃ m : Nat, n = m := ⟨n.toNat, by omega⟩
    subst hx; subst hm
    rw [clN_yes (by omega)]
    have ha4 : x ≤ 4 := by omega
    have hm20 : m ≤ 20 := by omega
    have ha1 : 1 ≤ (x : Int) := by omega
    have ha2 : (x : Int) ≤ 4 := by omega
    have hn1 : 1 ≤ (m : Int) := by omega
    have hn2 : (m : Int) ≤ 20 := by omega
    have HS := Lib.hid (cl_same (a := x) (n := m) (by omega) (by omega))
    clear h
    go_enter Tryz.func21, Tryz.ntmps21
    go_wp2_with (go_at_call 41; first | (with_reducible refine (l1In_yes (x : Int) _ _ _ ha1 ha2).mono ?_; rintro e w' ⟨rfl, rfl⟩) | (with_reducible refine (l1In_yes (m : Int) _ _ _ hn1 hn2).mono ?_; rintro e w' ⟨rfl, rfl⟩))
    go_loopw [5, 6] (fun s' d' wr => ∃ (k : Nat) (s : Int), k ≤ m ∧ d' = .int .i64 ((k : Int) + 1) ∧ s' = .int .i64 s ∧ Hid (s = clP x m k) ∧ -(1099511627776 * (k : Int)) ≤ s ∧ s ≤ 1099511627776 * (k : Int) ∧ Hid (Below w.heap.size w wr)) (fun _ d' _ => m + 1 - (intOf d').toNat)
    case atStart => exact ⟨0, 0, Nat.zero_le _, by go_num, rfl, rfl, by omega, by omega, Below.refl _ _⟩
    case round =>
      obtain ⟨k, s, hk, rfl, rfl, HP, hs1, hs2, HB⟩ := hrel
      by_cases hlt : k < m
      · obtain ⟨t, ht⟩ : ∃ t, t = m % (k + 1) := ⟨_, rfl⟩
        have e3 : (m : Int) % ((k : Int) + 1) = (t : Int) := by rw [ht]; rfl
        have e4 : (m : Int).tmod ((k : Int) + 1) = (t : Int) := by rw [ht]; rfl
        have HNX := Lib.hid (clP_next x m k)
        by_cases h0 : t = 0
        · have e7 : ((t : Int) == 0) = true := by simp [h0]
          have hnx := HNX.out
          rw [if_pos (by rw [← ht]; exact h0)] at hnx
          obtain ⟨q, hq⟩ : ∃ q, q = m / (k + 1) := ⟨_, rfl⟩
          have hqm : q ≤ m := by rw [hq]; exact Nat.div_le_self _ _
          have e1 : (m : Int) / ((k : Int) + 1) = (q : Int) := by rw [hq]; rfl
          have e2 : (m : Int).tdiv ((k : Int) + 1) = (q : Int) := by rw [hq]; rfl
          have hpt := pow_top (i := q) ha4 hm20 hqm
          have hmb := mob_abs (k + 1)
          have HCM := Lib.hid (fun W => spec_mob (k + 1) W (by omega) (by omega))
          have HCP := Lib.hid (fun W => spec_pw x q W ha4 (by omega))
          rw [← hq] at hnx
          obtain ⟨P, hP⟩ : ∃ P, P = x ^ q := ⟨_, rfl⟩
          obtain ⟨u, hu⟩ : ∃ u, u = mob (k + 1) := ⟨_, rfl⟩
          rw [← hP, ← hu] at hnx
          rw [← hP] at hpt HCP
          rw [← hu] at hmb HCM
          have hmm := mob_mul u P hmb hpt
          obtain ⟨v, hv⟩ : ∃ v, v = u * (P : Int) := ⟨_, rfl⟩
          rw [← hv] at hmm hnx
          have hw1 : IntKind.i64.wrap (u * (P : Int)) = v := by rw [← hv, IntKind.wrap_i64]; omega
          have hw2 : IntKind.i64.wrap (s + v) = s + v := by rw [IntKind.wrap_i64]; omega
          have HN2 : Hid (s + v = clP x m (k + 1)) := by show _ = _; rw [hnx, HP.out]
          have hkk : ((k + 1 : Nat) : Int) = (k : Int) + 1 := by omega
          have hk0 : ¬ ((k : Int) + 1 = 0) := by omega
          have hwq : IntKind.i64.wrap (q : Int) = (q : Int) := by rw [IntKind.wrap_i64]; omega
          rw [hkk] at HCM
          clear ht h0 hq hnx hP hu hmb hv HP hpt hkk
          go_wp2_with fail
          go_region_law (first | (go_simp; go_at_call 47; (with_reducible refine (HCM.out _).mono ?_); rintro e w5 ⟨rfl, rfl⟩) | (go_simp; go_at_call 42; (with_reducible refine (HCP.out _).mono ?_); rintro e w5 ⟨rfl, rfl⟩))
          all_goals
            have HB6 : Hid (Below w.heap.size w wr.drew) := HB.out.trans ((below_drew' wr).mono HB.out.size)
            clear HCM HCP hw1 hw2 e1 e2 e3 e4 e7
            go_wp2
            go_roundw
            case rel => exact ⟨k + 1, s + v, by omega, by go_num, rfl, HN2, by omega, by omega, HB6⟩
            case measure => simp [intOf]; omega
        · have e7 : ((t : Int) == 0) = false := by simp [h0]
          have HN2 : Hid (s = clP x m (k + 1)) := by show _ = _; rw [HNX.out, if_neg (by rw [← ht]; exact h0), HP.out]; omega
          clear ht h0
          go_wp2
          go_roundw
          case rel => exact ⟨k + 1, s, by omega, by go_num, rfl, HN2, by omega, by omega, HB⟩
          case measure => simp [intOf]; omega
      · obtain rfl : k = m := by omega
        have h0s : 0 ≤ s := by rw [HP.out, clP_all]; exact HS.out.2.1
        have e1 : s.tdiv (k : Int) = s / (k : Int) := Int.tdiv_eq_ediv_of_nonneg h0s
        obtain ⟨q, hq⟩ : ∃ q, q = s / (k : Int) := ⟨_, rfl⟩
        have HE : Hid (q = clV x k) := by show _ = _; rw [hq, HP.out, clP_all]; rfl
        have hq2 : s / (k : Int) = q := hq.symm
        have hqb : -9223372036854775808 ≤ q ∧ q ≤ 9223372036854775807 := by
          have h1 : q ≤ s := by rw [hq]; exact Int.ediv_le_self _ h0s
          have h2 : 0 ≤ q := by rw [hq]; exact Int.ediv_nonneg h0s (by omega)
          omega
        have hq3 : s.tdiv (k : Int) = q := by rw [e1]; exact hq2
        clear hq e1
        go_wp2
        go_ret
        exact ⟨Fac.ret_i HE.out, HB.out⟩
  · rw [clN_no h]
    by_cases h1 : 1 ≤ a ∧ a ≤ 4
    · have h2 : n < 1 ∨ 20 < n := by omega
      have h3 := h1.1
      have h4 := h1.2
      clear h h1
      go_enter Tryz.func21, Tryz.ntmps21
      go_wp2_with (go_at_call 41; first | (with_reducible refine (l1In_yes a _ _ _ h3 h4).mono ?_; rintro e w' ⟨rfl, rfl⟩) | (with_reducible refine (l1In_no n _ _ _ h2).mono ?_; rintro e w' ⟨rfl, rfl⟩))
      go_ret
      exact ⟨rfl, Below.refl _ _⟩
    · have h2 : a < 1 ∨ 4 < a := by omega
      clear h h1
      go_enter Tryz.func21, Tryz.ntmps21
      go_wp2_with (go_at_call 41; refine (l1In_no a _ _ _ h2).mono ?_; rintro e w' ⟨rfl, rfl⟩)
      go_ret
      exact ⟨rfl, Below.refl _ _⟩
theorem gcd_turn (a b : Nat) : Nat.gcd b (a % b) = Nat.gcd a b := by rw [Nat.gcd_comm b, ← Nat.gcd_rec, Nat.gcd_comm]
set_option maxRecDepth 100000 in
set_option maxHeartbeats 2000000 in
theorem spec_gcd (x y : Nat) (w : World) (hx : x ≤ 9223372036854775807) (hy : y ≤ 9223372036854775807) :
    Calls Tryz.prog 48 #[.int .i64 x, .int .i64 y] w fun e w' => e = .returned (.int .i64 (Nat.gcd x y)) ∧ w = w' := by
  go_enter Tryz.func48, Tryz.ntmps48
  go_wp2
  go_loop [0, 1] (fun a' b' => ∃ a b : Nat, a ≤ 9223372036854775807 ∧ b ≤ 9223372036854775807 ∧ a' = .int .i64 a ∧ b' = .int .i64 b ∧ Hid (Nat.gcd a b = Nat.gcd x y)) (fun _ b' => (intOf b').toNat)
  case atStart => exact ⟨x, y, hx, hy, rfl, rfl, rfl⟩
  case round =>
    obtain ⟨a, b, ha, hb, rfl, rfl, HG⟩ := hrel
    by_cases h0 : 0 < b
    · have hb0 : ((b : Int) == 0) = false := by simp; omega
      have hm : a % b < b := Nat.mod_lt _ h0
      obtain ⟨r, hr⟩ : ∃ r, r = a % b := ⟨_, rfl⟩
      have e1 : (a : Int) % (b : Int) = (r : Int) := by rw [hr]; rfl
      have e2 : (a : Int).tmod (b : Int) = (r : Int) := by rw [hr]; rfl
      have HG2 : Hid (Nat.gcd b r = Nat.gcd x y) := by show _ = _; rw [hr, gcd_turn]; exact HG.out
      rw [← hr] at hm
      clear hr
      go_wp2
      go_round
      case rel => exact ⟨b, r, by omega, by omega, rfl, rfl, HG2⟩
      case measure => simp [intOf]; omega
    · obtain rfl : b = 0 := by omega
      have HE : Hid (a = Nat.gcd x y) := by have := HG.out; rwa [Nat.gcd_zero_right] at this
      go_wp2
      go_ret
      exact ⟨Fac.ret_i (by rw [← HE.out]), rfl⟩
set_option maxRecDepth 100000 in
set_option maxHeartbeats 4000000 in
theorem spec_cn (a n : Int) (w : World) :
    Calls Tryz.prog 23 #[.int .i64 a, .int .i64 n] w fun e w' => e = .returned (.int .i64 (cnN a n)) ∧ Below w.heap.size w w' := by
  by_cases h : 1 ≤ a ∧ a ≤ 4 ∧ 1 ≤ n ∧ n ≤ 20
  · obtain ⟨x, hx⟩ : ∃ x : Nat, a = x := ⟨a.toNat, by omega⟩
    obtain ⟨m, hm⟩ : ∃ m : Nat, n = m := ⟨n.toNat, by omega⟩
    subst hx; subst hm
    rw [cnN_yes (by omega)]
    have ha4 : x ≤ 4 := by omega
    have hm20 : m ≤ 20 := by omega
    have ha1 : 1 ≤ (x : Int) := by omega
    have ha2 : (x : Int) ≤ 4 := by omega
    have hn1 : 1 ≤ (m : Int) := by omega
    have hn2 : (m : Int) ≤ 20 := by omega
    have hm0 : 0 < m := by omega
    clear h
    go_enter Tryz.func23, Tryz.ntmps23
    go_wp2_with (go_at_call 41; first | (with_reducible refine (l1In_yes (x : Int) _ _ _ ha1 ha2).mono ?_; rintro e w' ⟨rfl, rfl⟩) | (with_reducible refine (l1In_yes (m : Int) _ _ _ hn1 hn2).mono ?_; rintro e w' ⟨rfl, rfl⟩))
    go_loopw [5, 6] (fun s' d' wr => ∃ (k s : Nat), k ≤ m ∧ d' = .int .i64 (k : Int) ∧ s' = .int .i64 (s : Int) ∧ Hid (s = cnP x m k) ∧ s ≤ 1099511627776 * k ∧ Hid (Below w.heap.size w wr)) (fun _ d' _ => m - (intOf d').toNat)
    case atStart => exact ⟨0, 0, Nat.zero_le _, rfl, rfl, rfl, by omega, Below.refl _ _⟩
    case round =>
      obtain ⟨k, s, hk, rfl, rfl, HP, hs1, HB⟩ := hrel
      by_cases hlt : k < m
      · have hnx := cnP_next x m k
        have hgm : Nat.gcd m k ≤ m := Nat.gcd_le_left _ hm0
        have HCG := Lib.hid (fun W => spec_gcd m k W (by omega) (by omega))
        obtain ⟨q, hq⟩ : ∃ q, q = Nat.gcd m k := ⟨_, rfl⟩
        rw [← hq] at hnx hgm HCG
        have hpt := pow_top (i := q) ha4 hm20 hgm
        have HCP := Lib.hid (fun W => spec_pw x q W ha4 (by omega))
        obtain ⟨P, hP⟩ : ∃ P, P = x ^ q := ⟨_, rfl⟩
        rw [← hP] at hpt HCP hnx
        have HN2 : Hid (s + P = cnP x m (k + 1)) := by show _ = _; rw [hnx, HP.out]
        clear hq hnx hP HP
        go_wp2_with (first | (go_at_call 48; refine (HCG.out _).mono ?_; rintro e w5 ⟨rfl, rfl⟩) | (go_at_call 42; refine (HCP.out _).mono ?_; rintro e w5 ⟨rfl, rfl⟩))
        go_roundw
        case rel => exact ⟨k + 1, s + P, by omega, by go_num, by go_num, HN2, by omega, HB⟩
        case measure => simp [intOf]; omega
      · obtain rfl : k = m := by omega
        obtain ⟨q, hq⟩ : ∃ q, q = s / k := ⟨_, rfl⟩
        have HE : Hid (q = cnV x k) := by show _ = _; rw [hq, HP.out, cnP_all]; rfl
        have hqb : q ≤ s := by rw [hq]; exact Nat.div_le_self _ _
        have e1 : (s : Int) / (k : Int) = (q : Int) := by rw [hq]; rfl
        have e2 : (s : Int).tdiv (k : Int) = (q : Int) := by rw [hq]; rfl
        clear hq
        go_wp2
        go_ret
        exact ⟨Fac.ret_i (by rw [HE.out]), HB.out⟩
  · rw [cnN_no h]
    by_cases h1 : 1 ≤ a ∧ a ≤ 4
    · have h2 : n < 1 ∨ 20 < n := by omega
      have h3 := h1.1
      have h4 := h1.2
      clear h h1
      go_enter Tryz.func23, Tryz.ntmps23
      go_wp2_with (go_at_call 41; first | (with_reducible refine (l1In_yes a _ _ _ h3 h4).mono ?_; rintro e w' ⟨rfl, rfl⟩) | (with_reducible refine (l1In_no n _ _ _ h2).mono ?_; rintro e w' ⟨rfl, rfl⟩))
      go_ret
      exact ⟨rfl, Below.refl _ _⟩
    · have h2 : a < 1 ∨ 4 < a := by omega
      clear h h1
      go_enter Tryz.func23, Tryz.ntmps23
      go_wp2_with (go_at_call 41; refine (l1In_no a _ _ _ h2).mono ?_; rintro e w' ⟨rfl, rfl⟩)
      go_ret
      exact ⟨rfl, Below.refl _ _⟩
/-- The sum over the first divisors. -/
theorem dvI_at {n i : Nat} (h : i < (dvs n).length) : ∃ d : Nat, (dvI n)[i]? = some (d : Int) ∧ 0 < d ∧ d ≤ n ∧ (∀ x, clT x n ((dvs n).take (i + 1)) = clT x n ((dvs n).take i) + mob (n / d) * ((x ^ d : Nat) : Int)) ∧ ∀ x, cnT x ((dvs n).take (i + 1)) = cnT x ((dvs n).take i) + clV x d := by
  obtain ⟨d, hd⟩ : ∃ d, (dvs n)[i]? = some d := ⟨_, List.getElem?_eq_getElem h⟩
  have hm := dvs_mem.1 (List.mem_of_getElem? hd)
  have ht : (dvs n).take (i + 1) = (dvs n).take i ++ [d] := by
    obtain ⟨h1, rfl⟩ := List.getElem?_eq_some_iff.1 hd
    rw [List.take_succ_eq_append_getElem h1]
  refine ⟨d, by unfold dvI; rw [List.getElem?_map, hd]; rfl, hm.1, hm.2.1, fun x => ?_, fun x => ?_⟩
  · rw [ht, clT_snoc]
  · rw [ht, cnT_snoc]
theorem dvI_size (n : Nat) : (dvI n).length = (dvs n).length := by unfold dvI; rw [List.length_map]
set_option maxRecDepth 100000 in
set_option maxHeartbeats 4000000 in
theorem impl_cl (a n : Int) (w : World) :
    Calls Tryz.prog 20 #[.int .i64 a, .int .i64 n] w fun e w' => e = .returned (.int .i64 (clN a n)) ∧ Below w.heap.size w w' := by
  by_cases h : 1 ≤ a ∧ a ≤ 4 ∧ 1 ≤ n ∧ n ≤ 20
  · obtain ⟨x, hx⟩ : ∃ x : Nat, a = x := ⟨a.toNat, by omega⟩
    obtain ⟨m, hm⟩ : ∃ m : Nat, n = m := ⟨n.toNat, by omega⟩
    subst hx; subst hm
    rw [clN_yes (by omega)]
    have ha4 : x ≤ 4 := by omega
    have hm20 : m ≤ 20 := by omega
    have hm0 : 0 < m := by omega
    have HS := Lib.hid (cl_same (a := x) (n := m) (by omega) (by omega))
    have HH := Lib.hid (has_cl (x : Int) (m : Int) true w (decide_eq_true h))
    have HD := Lib.hid (divs m w hm20)
    have hsz := dvI_size m
    have hll := dvs_len m
    clear h
    go_enter Tryz.func20, Tryz.ntmps20
    go_wp2_with (go_at_call 44; refine HH.out.mono ?_; rintro e w' ⟨rfl, rfl⟩)
    refine HD.out.mono ?_
    rintro e W1 ⟨vd, rfl, hv, b1⟩
    obtain ⟨da, dc, rfl, _⟩ := hv.form
    rw [hsz]
    have HV := Lib.hid hv.lies
    have HB1 := Lib.hid b1
    clear hv b1 HD HH
    go_wp2
    go_loop [5, 7, 15] (fun s' d' i' => ∃ (i : Nat) (s : Int), i ≤ (dvs m).length ∧ i' = .int .i64 (i : Int) ∧ s' = .int .i64 s ∧ Hid (s = clT x m ((dvs m).take i)) ∧ -(1099511627776 * (i : Int)) ≤ s ∧ s ≤ 1099511627776 * (i : Int)) (fun _ _ i' => (dvs m).length - (intOf i').toNat)
    case atStart => exact ⟨0, 0, Nat.zero_le _, rfl, rfl, rfl, by omega, by omega⟩
    case round =>
      obtain ⟨i, s, hi, rfl, rfl, HP, hs1, hs2⟩ := hrel
      by_cases hlt : i < (dvs m).length
      · obtain ⟨d, hat, hd0, hdm, hnx, -⟩ := dvI_at hlt
        have hnx := hnx x
        obtain ⟨g, o, hda, hc⟩ := lies_at (enc := (Value.int .i64)) HV.out hat
        subst hda
        obtain ⟨q, hq⟩ : ∃ q, q = m / d := ⟨_, rfl⟩
        have hqm : q ≤ m := by rw [hq]; exact Nat.div_le_self _ _
        have hq0 : 0 < q := by rw [hq]; exact Nat.div_pos hdm hd0
        have e1 : (m : Int) / (d : Int) = (q : Int) := by rw [hq]; rfl
        have e2 : (m : Int).tdiv (d : Int) = (q : Int) := by rw [hq]; rfl
        have hpt := pow_top (i := d) ha4 hm20 hdm
        have hmb := mob_abs q
        have HCM := Lib.hid (fun W => impl_mob q W hq0 (by omega))
        have HCP := Lib.hid (fun W => impl_pw x d W ha4 (by omega))
        rw [← hq] at hnx
        obtain ⟨P, hP⟩ : ∃ P, P = x ^ d := ⟨_, rfl⟩
        obtain ⟨u, hu⟩ : ∃ u, u = mob q := ⟨_, rfl⟩
        rw [← hP, ← hu] at hnx
        rw [← hP] at hpt HCP
        rw [← hu] at hmb HCM
        have hmm := mob_mul u P hmb hpt
        obtain ⟨v, hv⟩ : ∃ v, v = u * (P : Int) := ⟨_, rfl⟩
        rw [← hv] at hmm hnx
        have hv2 : u * (P : Int) = v := hv.symm
        have HN2 : Hid (s + v = clT x m ((dvs m).take (i + 1))) := by show _ = _; rw [hnx, HP.out]
        have hlt2 : (i : Int) < ((dvs m).length : Int) := by omega
        clear hat hq hnx hP hu hmb hv HP hpt
        go_wp2_with (first | (go_at_call 46; refine (HCM.out _).mono ?_; rintro e w5 ⟨rfl, rfl⟩) | (go_at_call 37; refine (HCP.out _).mono ?_; rintro e w5 ⟨rfl, rfl⟩))
        go_round
        case rel => exact ⟨i + 1, s + v, by omega, by go_num, by go_num, HN2, by omega, by omega⟩
        case measure => simp [intOf]; omega
      · have hs : s = clS x m := by rw [HP.out, List.take_of_length_le (by omega)]; exact HS.out.1
        have h0s : 0 ≤ s := by rw [hs]; exact HS.out.2.1
        have e1 : s.tdiv (m : Int) = s / (m : Int) := Int.tdiv_eq_ediv_of_nonneg h0s
        obtain ⟨q, hq⟩ : ∃ q, q = s / (m : Int) := ⟨_, rfl⟩
        have HE : Hid (q = clV x m) := by show _ = _; rw [hq, hs]; rfl
        have hq2 : s / (m : Int) = q := hq.symm
        have hqb : -9223372036854775808 ≤ q ∧ q ≤ 9223372036854775807 := by
          have h1 : q ≤ s := by rw [hq]; exact Int.ediv_le_self _ h0s
          have h2 : 0 ≤ q := by rw [hq]; exact Int.ediv_nonneg h0s (by omega)
          omega
        have hq3 : s.tdiv (m : Int) = q := by rw [e1]; exact hq2
        clear hq e1 hs
        go_wp2
        go_ret
        exact ⟨Fac.ret_i HE.out, HB1.out⟩
  · rw [clN_no h]
    have HH := Lib.hid (has_cl a n false w (decide_eq_false h))
    clear h
    go_enter Tryz.func20, Tryz.ntmps20
    go_wp2_with (go_at_call 44; refine HH.out.mono ?_; rintro e w' ⟨rfl, rfl⟩)
    go_ret
    exact ⟨rfl, Below.refl _ _⟩
set_option maxRecDepth 100000 in
set_option maxHeartbeats 4000000 in
theorem impl_cn (a n : Int) (w : World) :
    Calls Tryz.prog 22 #[.int .i64 a, .int .i64 n] w fun e w' => e = .returned (.int .i64 (cnN a n)) ∧ Below w.heap.size w w' := by
  by_cases h : 1 ≤ a ∧ a ≤ 4 ∧ 1 ≤ n ∧ n ≤ 20
  · obtain ⟨x, hx⟩ : ∃ x : Nat, a = x := ⟨a.toNat, by omega⟩
    obtain ⟨m, hm⟩ : ∃ m : Nat, n = m := ⟨n.toNat, by omega⟩
    subst hx; subst hm
    rw [cnN_yes (by omega)]
    have ha0 : 1 ≤ x := by omega
    have ha4 : x ≤ 4 := by omega
    have hm20 : m ≤ 20 := by omega
    have HS := Lib.hid (cl_same (a := x) (n := m) (by omega) (by omega))
    have HH := Lib.hid (has_cl (x : Int) (m : Int) true w (decide_eq_true h))
    have HD := Lib.hid (divs m w hm20)
    have hsz := dvI_size m
    have hll := dvs_len m
    clear h
    go_enter Tryz.func22, Tryz.ntmps22
    go_wp2_with (go_at_call 44; refine HH.out.mono ?_; rintro e w' ⟨rfl, rfl⟩)
    refine HD.out.mono ?_
    rintro e W1 ⟨vd, rfl, hv, b1⟩
    obtain ⟨da, dc, rfl, _⟩ := hv.form
    rw [hsz]
    have HV := Lib.hid hv.lies
    have HB1 := Lib.hid b1
    clear hv b1 HD HH
    go_wp2
    go_loopw [5, 7, 15] (fun s' d' i' wr => ∃ (i : Nat) (s : Int), i ≤ (dvs m).length ∧ i' = .int .i64 (i : Int) ∧ s' = .int .i64 s ∧ Hid (s = cnT x ((dvs m).take i)) ∧ 0 ≤ s ∧ s ≤ 1099511627776 * (i : Int) ∧ Hid (Below W1.heap.size W1 wr)) (fun _ _ i' _ => (dvs m).length - (intOf i').toNat)
    case atStart => exact ⟨0, 0, Nat.zero_le _, rfl, rfl, rfl, by omega, by omega, Below.refl _ _⟩
    case round =>
      obtain ⟨i, s, hi, rfl, rfl, HP, hs1, hs2, HB⟩ := hrel
      by_cases hlt : i < (dvs m).length
      · obtain ⟨d, hat, hd0, hdm, -, hnx⟩ := dvI_at hlt
        have hnx := hnx x
        obtain ⟨g, o, hda, hc⟩ := lies_at (enc := (Value.int .i64)) (HV.out.below HB.out) hat
        subst hda
        have hcs := cl_same (a := x) (n := d) (by omega) (by omega)
        have hv0 : 0 ≤ clV x d := Int.ediv_nonneg hcs.2.1 (by omega)
        have hv9 := hcs.2.2.2
        have HCL := Lib.hid (fun W => impl_cl (x : Int) (d : Int) W)
        rw [clN_yes (by omega)] at HCL
        obtain ⟨v, hv⟩ : ∃ v, v = clV x d := ⟨_, rfl⟩
        rw [← hv] at hnx hv0 hv9 HCL
        have HN2 : Hid (s + v = cnT x ((dvs m).take (i + 1))) := by show _ = _; rw [hnx, HP.out]
        have hlt2 : (i : Int) < ((dvs m).length : Int) := by omega
        clear hat hnx hv HP hcs
        go_wp2_with (go_at_call 20; refine (HCL.out _).mono ?_; rintro e w5 ⟨rfl, b5⟩; have HB5 := Lib.hid (HB.out.trans (b5.mono HB.out.size)); clear b5)
        go_roundw
        case rel => exact ⟨i + 1, s + v, by omega, by go_num, by go_num, HN2, by omega, by omega, HB5⟩
        case measure => simp [intOf]; omega
      · have HE : Hid (s = (cnV x m : Int)) := by show _ = _; rw [HP.out, List.take_of_length_le (by omega)]; exact HS.out.2.2.1
        go_wp2
        go_ret
        exact ⟨Fac.ret_i HE.out, HB1.out.trans (HB.out.mono HB1.out.size)⟩
  · rw [cnN_no h]
    have HH := Lib.hid (has_cl a n false w (decide_eq_false h))
    clear h
    go_enter Tryz.func22, Tryz.ntmps22
    go_wp2_with (go_at_call 44; refine HH.out.mono ?_; rintro e w' ⟨rfl, rfl⟩)
    go_ret
    exact ⟨rfl, Below.refl _ _⟩
end Lynd
end Go.Proofs.YtfpdikohlafpiaaGreat
/- The contract of slices.SortFunc at this translation, one application of a theorem of the library. Conditions: those that it states. -/
namespace Go.Proofs
open Go.Shelf
def Tryz.sortL_ren : Go.Shelf.Ren := ⟨fun | 6 => 60 | 15 => 71 | 14 => 70 | 28 => 88 | 29 => 89 | 20 => 80 | 21 => 81 | 22 => 82 | 23 => 83 | 24 => 84 | 25 => 85 | 26 => 86 | 27 => 87 | 46 => 97 | 47 => 98 | 48 => 99 | 49 => 100 | 50 => 101 | 57 => 105 | n => n, fun | 22 => 26 | 24 => 24 | 25 => 32 | 3 => 3 | 39 => 79 | 0 => 0 | 53 => 97 | 55 => 99 | 4 => 4 | 46 => 90 | 45 => 89 | 50 => 94 | 5 => 5 | 9 => 9 | 66 => 104 | 70 => 108 | 76 => 110 | 77 => 33 | n => n, fun | n => n⟩
theorem Tryz.sortL : Go.Proofs.SlLaysF.n6 Tryz.prog Tryz.sortL_ren := {
  mixed := by kernel_rfl
  f6 := ⟨Tryz.f60.name, by decide, Tryz.func60.trans (congrArg some (by kernel_rfl))⟩
  f14 := ⟨Tryz.f70.name, by decide, Tryz.func70.trans (congrArg some (by kernel_rfl))⟩
  f15 := Tryz.func71.trans (congrArg some (by kernel_rfl))
  f20 := ⟨Tryz.f80.name, by decide, Tryz.func80.trans (congrArg some (by kernel_rfl))⟩
  f21 := ⟨Tryz.f81.name, by decide, Tryz.func81.trans (congrArg some (by kernel_rfl))⟩
  f22 := ⟨Tryz.f82.name, by decide, Tryz.func82.trans (congrArg some (by kernel_rfl))⟩
  f23 := ⟨Tryz.f83.name, by decide, Tryz.func83.trans (congrArg some (by kernel_rfl))⟩
  f24 := ⟨Tryz.f84.name, by decide, Tryz.func84.trans (congrArg some (by kernel_rfl))⟩
  f25 := ⟨Tryz.f85.name, by decide, Tryz.func85.trans (congrArg some (by kernel_rfl))⟩
  f26 := ⟨Tryz.f86.name, by decide, Tryz.func86.trans (congrArg some (by kernel_rfl))⟩
  f27 := ⟨Tryz.f87.name, by decide, Tryz.func87.trans (congrArg some (by kernel_rfl))⟩
  f28 := Tryz.func88.trans (congrArg some (by kernel_rfl))
  f29 := Tryz.func89.trans (congrArg some (by kernel_rfl))
  f46 := ⟨Tryz.f97.name, by decide, Tryz.func97.trans (congrArg some (by kernel_rfl))⟩
  f47 := Tryz.func98.trans (congrArg some (by kernel_rfl))
  f48 := Tryz.func99.trans (congrArg some (by kernel_rfl))
  f49 := ⟨Tryz.f100.name, by decide, Tryz.func100.trans (congrArg some (by kernel_rfl))⟩
  f50 := ⟨Tryz.f101.name, by decide, Tryz.func101.trans (congrArg some (by kernel_rfl))⟩
  f57 := ⟨Tryz.f105.name, by decide, Tryz.func105.trans (congrArg some (by kernel_rfl))⟩
  t0 := Tryz.underlying0
  a0 := Tryz.isAgg0
  z0 := Tryz.sizeOf0
  v0 := Tryz.zeroValue0
  t3 := Tryz.underlying3
  a3 := Tryz.isAgg3
  z3 := Tryz.sizeOf3
  v3 := Tryz.zeroValue3
  t4 := Tryz.underlying4
  a4 := Tryz.isAgg4
  z4 := Tryz.sizeOf4
  v4 := Tryz.zeroValue4
  t5 := Tryz.underlying5
  a5 := Tryz.isAgg5
  z5 := Tryz.sizeOf5
  v5 := Tryz.zeroValue5
  t9 := Tryz.underlying9
  a9 := Tryz.isAgg9
  z9 := Tryz.sizeOf9
  v9 := Tryz.zeroValue9
  t22 := Tryz.underlying26
  a22 := Tryz.isAgg26
  z22 := Tryz.sizeOf26
  v22 := Tryz.zeroValue26
  a24 := Tryz.isAgg24
  z24 := Tryz.sizeOf24
  t25 := Tryz.underlying32
  a25 := Tryz.isAgg32
  z25 := Tryz.sizeOf32
  v25 := Tryz.zeroValue32
  t39 := Tryz.underlying79
  a39 := Tryz.isAgg79
  z39 := Tryz.sizeOf79
  v39 := Tryz.zeroValue79
  t45 := Tryz.underlying89
  a45 := Tryz.isAgg89
  z45 := Tryz.sizeOf89
  v45 := Tryz.zeroValue89
  t46 := Tryz.underlying90
  a46 := Tryz.isAgg90
  z46 := Tryz.sizeOf90
  v46 := Tryz.zeroValue90
  t50 := Tryz.underlying94
  a50 := Tryz.isAgg94
  z50 := Tryz.sizeOf94
  v50 := Tryz.zeroValue94
  t53 := Tryz.underlying97
  a53 := Tryz.isAgg97
  z53 := Tryz.sizeOf97
  v53 := Tryz.zeroValue97
  t55 := Tryz.underlying99
  a55 := Tryz.isAgg99
  z55 := Tryz.sizeOf99
  v55 := Tryz.zeroValue99
  t66 := Tryz.underlying104
  a66 := Tryz.isAgg104
  z66 := Tryz.sizeOf104
  v66 := Tryz.zeroValue104
  t70 := Tryz.underlying108
  a70 := Tryz.isAgg108
  z70 := Tryz.sizeOf108
  v70 := Tryz.zeroValue108
  t76 := Tryz.underlying110
  a76 := Tryz.isAgg110
  z76 := Tryz.sizeOf110
  v76 := Tryz.zeroValue110
  t77 := Tryz.underlying33
  a77 := Tryz.isAgg33
  z77 := Tryz.sizeOf33
  v77 := Tryz.zeroValue33 }
end Go.Proofs
/- A slice of parts of words of the call's own: what sorting it, cutting it off and clearing the rest leave of it. No conditions beyond those that each states. -/
namespace Go.Proofs.YtfpdikohlafpiaaGreat
open Go.ChangeShapes Go.WideShapes Go.ChangeAt Go.RowKit
open Go.PlainAid Plain
set_option linter.unusedVariables false
namespace Fac
open Seqs
/-- A slice that reads as a word in the world w0. -/
def Part (w0 : World) : Type := { p : Value × List Int // Lies (Value.int .i64) w0 p.1 p.2 }
def Part.v {w0 : World} (x : Part w0) : Value := x.1.1
def Part.k {w0 : World} (x : Part w0) : List Int := x.1.2
theorem Part.lies {w0 : World} (x : Part w0) : Lies (Value.int .i64) w0 x.v x.k := x.2
def Part.mk {w0 : World} {v : Value} {xs : List Int} (h : Lies (Value.int .i64) w0 v xs) : Part w0 := ⟨(v, xs), h⟩
theorem Part.one {w0 : World} (x : Part w0) : x.v.oneCell' = true := by
  obtain ⟨_, a, c, h, _⟩ := x.lies
  rw [h]
  rfl
theorem lies_none (w : World) : Lies (Value.int .i64) w (.slice none 0 0) [] := ⟨by simp, none, 0, rfl, fun _ => rfl, fun i x h => by simp at h⟩
instance (w0 : World) : Inhabited (Part w0) := ⟨⟨(.slice none 0 0, []), lies_none w0⟩⟩
section
variable {α : Type} {enc : α → Value} {e : TypeId} {w : World} {base : Nat} {xs : List α}
/-- What is behind the first kk elements may turn. -/
theorem own_tail {n cap g kk : Nat} : ∀ (vs : List Value) (o : Nat) (w : World) (X : List Value), kk ≤ o → w.ownsRow base e 1 (.slice (some ⟨g, 0, none⟩) n cap) n X → o + vs.length ≤ n → ∃ X', X'.take kk = X.take kk ∧ (w.setCells g o vs).ownsRow base e 1 (.slice (some ⟨g, 0, none⟩) n cap) n X' ∧ w.grownBy (w.setCells g o vs) (some g)
  | [], o, w, X, _, h, _ => ⟨X, rfl, h, World.grownBy.refl _ _⟩
  | u :: vs, o, w, X, hk, h, hl => by
    have hl' : o + 1 + vs.length ≤ n := by simp at hl; omega
    have h1 := h.stored o u
    obtain ⟨X', h2, h3, h4⟩ := own_tail (kk := kk) vs (o + 1) _ _ (by omega) h1.1 hl'
    refine ⟨X', ?_, h3, grown_trans' h1.2 h4⟩
    rw [h2, List.take_set, List.set_eq_of_length_le (by rw [List.length_take]; omega)]
/-- The slice cut off behind its first kk elements. -/
theorem own_cut {n cap g kk : Nat} {w : World} {X : List Value} (h : w.ownsRow base e 1 (.slice (some ⟨g, 0, none⟩) n cap) n X) (hk : kk ≤ n) : w.ownsRow base e 1 (.slice (some ⟨g, 0, none⟩) kk cap) kk (X.take kk) := by
  obtain ⟨hl, h⟩ := h
  rcases h with ⟨hv, _⟩ | ⟨g', cap', cur, hv, h1, h2, h3, h4, h5, h6⟩
  · cases hv
  · injection hv with e1 e2 e3
    injection e1 with e1
    injection e1 with e1
    subst e1; subst e3
    rw [Nat.mul_one] at hl h5 h6
    refine ⟨by rw [List.length_take]; omega, .inr ⟨g, cap, cur, rfl, h1, h2, by omega, h4, by omega, ?_⟩⟩
    rw [Nat.mul_one, ← h6, List.take_take, Nat.min_eq_left hk]
theorem has_cut {n cap g kk : Nat} {ys : List α} (h : Has enc e w base (.slice (some ⟨g, 0, none⟩) n cap) xs) (hn : n = xs.length) (hk : kk ≤ n) (hy : xs.take kk = ys) (vs : List Value) (hv : vs = [] ∨ kk + vs.length ≤ n) :
    Has enc e (w.setCells g kk vs) base (.slice (some ⟨g, 0, none⟩) kk cap) ys ∧ w.grownBy (w.setCells g kk vs) (some g) := by
  subst hn
  have h' : w.ownsRow base e 1 (.slice (some ⟨g, 0, none⟩) xs.length cap) xs.length (xs.map enc) := h
  obtain ⟨X', h1, h2, h3⟩ : ∃ X', X'.take kk = (xs.map enc).take kk ∧ (w.setCells g kk vs).ownsRow base e 1 (.slice (some ⟨g, 0, none⟩) xs.length cap) xs.length X' ∧ w.grownBy (w.setCells g kk vs) (some g) := by
    rcases hv with rfl | hv
    · exact ⟨_, rfl, h', World.grownBy.refl _ _⟩
    · exact own_tail vs kk w _ (Nat.le_refl _) h' hv
  refine ⟨?_, h3⟩
  have h4 := own_cut h2 hk
  rw [h1, ← List.map_take, hy] at h4
  show World.ownsRow _ _ _ _ _ _ _
  have : ys.length = kk := by rw [← hy, List.length_take]; omega
  rw [this]
  exact h4
/-- One element stored. -/
theorem has_store {n cap g : Nat} (h : Has enc e w base (.slice (some ⟨g, 0, none⟩) n cap) xs) (hn : n = xs.length) (j : Nat) (x : α) : Has enc e (w.setCell ⟨g, j, none⟩ (enc x)) base (.slice (some ⟨g, 0, none⟩) n cap) (xs.set j x) ∧ w.grownBy (w.setCell ⟨g, j, none⟩ (enc x)) (some g) := by
  subst hn
  have h' : w.ownsRow base e 1 (.slice (some ⟨g, 0, none⟩) xs.length cap) xs.length (xs.map enc) := h
  have h1 := h'.stored j (enc x)
  refine ⟨?_, h1.2⟩
  show World.ownsRow _ _ _ _ _ _ _
  rw [List.length_set, List.map_set]
  exact h1.1
end
open Go.Sort in
theorem holds_block {α : Type} [Inhabited α] {enc : α → Value} {w : World} {g : Nat} {cur : Array Value} {e : TypeId} {ss : List α} (hb : w.heap[g]? = some (.cells cur e (0, 0))) (ht : cur.toList.take ss.length = ss.map enc) : Holds enc w g 0 ss.toArray := by
  intro j hj
  have hj' : j < ss.length := by simpa using hj
  refine ⟨?_, by simp [World.frozen?, hb]⟩
  have h1 : (cur.toList.take ss.length)[j]? = (ss.map enc)[j]? := by rw [ht]
  rw [List.getElem?_take_of_lt hj'] at h1
  simp only [World.cell?, hb, Nat.zero_add]
  simp only [Option.isSome_none, Bool.false_eq_true, if_false]
  rw [← Array.getElem?_toList, h1]
  simp [hj']
open Go.Sort in
theorem heap_sorted {α : Type} [Inhabited α] {enc : α → Value} {w : World} {g n : Nat} {os : Array Obj} {cur : Array Value} {e : TypeId} {fr : Nat × Nat} (d : Array α) (hb : w.heap[g]? = some (.cells cur e fr)) :
    (grow (putRow enc (Sort.ahead w n) g 0 d) os).heap[g]? = some (.cells (putCells enc 0 d cur) e fr) := by
  have hg : g < w.heap.size := (Array.getElem?_eq_some_iff.1 hb).1
  rw [heap_grow_old _ _ (by simpa using hg)]
  simp [putRow, mapBlock, Sort.ahead, Array.getElem?_modify, hb, onCells]
open Go.Sort in
theorem grown_sorted {α : Type} [Inhabited α] {enc : α → Value} {w : World} {g n : Nat} {os : Array Obj} (d : Array α) : w.grownBy (grow (putRow enc (Sort.ahead w n) g 0 d) os) (some g) := by
  refine ⟨rfl, rfl, rfl, by simp, fun k hk hne => ?_⟩
  rw [heap_grow_old _ _ (by simpa using hk)]
  have : g ≠ k := fun e => hne (by rw [e])
  simp [putRow, mapBlock, Sort.ahead, Array.getElem?_modify, this]
open Go.Sort in
theorem take_put {α : Type} [Inhabited α] {enc : α → Value} (cur : Array Value) (ts : List α) (h : ts.length ≤ cur.size) : (putCells enc 0 ts.toArray cur).toList.take ts.length = ts.map enc := by
  apply List.ext_getElem?
  intro j
  by_cases hj : j < ts.length
  · rw [List.getElem?_take_of_lt hj, Array.getElem?_toList]
    simp [putCells, hj, show j < cur.size by omega]
  · rw [List.getElem?_take_eq_none (by omega), List.getElem?_eq_none (by simp; omega)]
open Go.Sort in
theorem own_sorted {α : Type} [Inhabited α] {enc : α → Value} {w : World} {base g cap n : Nat} {e : TypeId} {os : Array Obj} {cur : Array Value} {ss ts : List α} (hl : ts.length = ss.length) (hbase : base ≤ g) (hb : w.heap[g]? = some (.cells cur e (0, 0)))
    (h1 : ss.length ≤ cap) (h2 : cap ≤ maxLen) (h3 : cur.size = cap * 1) :
    (grow (putRow enc (Sort.ahead w n) g 0 ts.toArray) os).ownsRow base e 1 (.slice (some ⟨g, 0, none⟩) ss.length cap) ss.length (ts.map enc) :=
  ⟨by simp [hl], .inr ⟨g, cap, _, rfl, hbase, heap_sorted _ hb, h1, h2, by simp [putCells, h3], by rw [Nat.mul_one, ← hl]; exact take_put cur ts (by omega)⟩⟩
/-- The order that the comparison gives. -/
def cfP {w0 : World} (x y : Part w0) : Int := cmpW x.k y.k
theorem lt_yes {w0 : World} {x y : Part w0} : ltOf (cfP (w0 := w0)) x y = true ↔ cmpW x.k y.k < 0 := decide_eq_true_iff
theorem lt_no {w0 : World} {x y : Part w0} : ltOf (cfP (w0 := w0)) x y = false ↔ ¬ cmpW x.k y.k < 0 := decide_eq_false_iff_not
theorem cmpW_ntrans {u v t : List Int} (h1 : ¬ cmpW u v < 0) (h2 : ¬ cmpW v t < 0) : ¬ cmpW u t < 0 := fun h => by
  rcases cmpW_three u v with a | a | a
  · omega
  · have e := cmpW_zero _ _ a
    subst e
    exact h2 h
  · have a' : cmpW v u < 0 := by rw [cmpW_neg]; omega
    exact h2 (cmpW_trans _ _ _ a' h)
theorem swoP (w0 : World) : Sort.SWO (ltOf (cfP (w0 := w0))) where
  irrefl x := lt_no.2 (by rw [cmpW_self]; omega)
  trans x y z h1 h2 := lt_yes.2 (cmpW_trans _ _ _ (lt_yes.1 h1) (lt_yes.1 h2))
  ntrans x y z h1 h2 := lt_no.2 (cmpW_ntrans (lt_no.1 h1) (lt_no.1 h2))
/-- slices.SortFunc(words, CompareWords). -/
theorem sorted (v : Value) (w0 w : World) (L : List (Part w0)) (hb : Below w0.heap.size w0 w) (hv : Has Part.v 24 w w0.heap.size v L) (hn : L.length ≤ 100000) (h0 : 0 < L.length) :
    Calls Tryz.prog 60 #[v, .func (.func 61) #[] #[]] w fun e w' => e = .returned (.tuple #[]) ∧ ∃ L' : List (Part w0), L'.Perm L ∧ (L'.Pairwise fun x y => cmpW x.k y.k ≤ 0) ∧ Has Part.v 24 w' w0.heap.size v L' ∧ Below w0.heap.size w0 w' := by
  have eg : ∀ args w, (callFunc 61 args).run Tryz.prog w = .ok (.enter 61 args) w := enters_of Tryz.func61 (by kernel_rfl) rfl
  rcases hv.2 with ⟨_, hz⟩ | ⟨g, cap, cur, rfl, hg, hcur, h1, h2, h3, h4⟩
  · omega
  rw [Nat.mul_one] at h4
  have hH := holds_block (enc := Part.v) hcur h4
  have hglt : g < w.heap.size := (Array.getElem?_eq_some_iff.1 hcur).1
  have hcmp : Go.Proofs.CmpReads Tryz.prog 61 #[] Part.v (cfP (w0 := w0)) g 0 L.toArray.size w := fun m os dk hs x y => by
    have hgr : w.grownBy (Go.Proofs.sortWorld Part.v w g 0 m dk os) (some g) := grown_sorted dk
    have hb' : Below w0.heap.size w0 (Go.Proofs.sortWorld Part.v w g 0 m dk os) := hb.grown hgr hb.size (fun k hk => by cases hk; exact hg)
    refine (impl_cmp x.v y.v x.k y.k _ (x.lies.below hb') (y.lies.below hb')).mono fun e w' h => ⟨h.1, 0, ?_⟩
    rw [← h.2]
    rfl
  have hS := Go.Proofs.Any.slices_SortFunc Tryz.sortL Part.v (fun x => x.one) cfP (swoP w0) 61 #[] g 0 cap L.toArray w eg hcmp.lays hH hglt (by simp; omega)
  have hsz : L.toArray.size = L.length := by simp
  rw [hsz] at hS
  refine Calls.mono (show Calls Tryz.prog 60 #[.slice (some ⟨g, 0, none⟩) L.length cap, .func (.func 61) #[] #[]] w _ from hS) fun e w' ⟨he, d', n, os, hp, hs, hw⟩ => ⟨he, d'.toList, ?_, ?_, ?_, ?_⟩
  · have := hp.2.2
    rw [show d'.extract 0 L.length = d' from by rw [← hsz, ← hp.1]; simp, show L.toArray.extract 0 L.length = L.toArray from by simp] at this
    exact this
  · refine List.pairwise_iff_getElem.2 fun i j hi hj hij => ?_
    have hd : d'.size = L.length := by rw [hp.1, hsz]
    have h5 := lt_no.1 (hs i j (Nat.zero_le _) hij (by simpa [hd] using hj))
    rw [getElem!_pos d' j (by simpa using hj), getElem!_pos d' i (by simpa using hi)] at h5
    have h6 := cmpW_neg (d'.toList[i]).k (d'.toList[j]).k
    have h7 : ¬ cmpW (d'.toList[j]).k (d'.toList[i]).k < 0 := h5
    omega
  · have hd : d'.toList.length = L.length := by rw [Array.length_toList, hp.1, hsz]
    rw [hw]
    have h5 := own_sorted (enc := Part.v) (w := w) (base := w0.heap.size) (n := n) (os := os) (ss := L) (ts := d'.toList) hd hg hcur h1 h2 h3
    rw [show d'.toList.toArray = d' from by simp] at h5
    show World.ownsRow _ _ _ _ _ _ _
    rw [hd]
    exact h5
  · rw [hw]
    exact hb.grown (grown_sorted d') hb.size (fun k hk => by cases hk; exact hg)
theorem size_tr : Tryz.prog.elem 26 = 24 := by kernel_rfl
/-- 's[l:]' and 's[:h]' of a slice of rows of the call's own. -/
theorem slice_from (g n c l : Nat) (L : Int) (hl : l < n) (hc : n ≤ c) (hL : L = l) (W : World) : (Instr.slice 26 (.slice (some ⟨g, 0, none⟩) n c) (some (.int .i64 L)) none none).run Tryz.prog W = .ok (.slice (some ⟨g, l, none⟩) (n - l) (c - l)) W := by
  subst hL
  have := run_slice_l (P := Tryz.prog) (w := W) (t := 26) (a := some ⟨g, 0, none⟩) (len := n) (cap := c) (by rw [size_tr]; exact Tryz.underlying26) .i64 (l : Int) (by omega) (by omega)
  rw [this, size_tr]
  simp [go_sem, Result.andThen, show ¬ c = l from by omega, addr_plus]
theorem slice_to (g n c h : Nat) (hh : h ≤ c) (h0 : 0 < c) (W : World) : (Instr.slice 26 (.slice (some ⟨g, 0, none⟩) n c) none (some (.int .i64 (h : Int))) none).run Tryz.prog W = .ok (.slice (some ⟨g, 0, none⟩) h c) W := by
  have := run_slice_h (P := Tryz.prog) (w := W) (t := 26) (a := some ⟨g, 0, none⟩) (len := n) (cap := c) (by rw [size_tr]; exact Tryz.underlying26) .i64 (h : Int) (by omega) (by omega)
  rw [this, size_tr]
  simp [go_sem, Result.andThen, show ¬ c = 0 from by omega]
theorem zero_tr (w : World) : (zeroValue 24).run Tryz.prog w = .ok (.slice none 0 0) w := by kernel_rfl
/-- 'clear(s)', s a part of a slice of the call's own up to its end. -/
theorem run_clear {α : Type} {enc : α → Value} {e : TypeId} {w : World} {base g n c kk : Nat} {xs : List α} (h : Has enc e w base (.slice (some ⟨g, 0, none⟩) n c) xs) (hn : n = xs.length) (hk : kk < n) (ty : TypeId) (c' : Nat) :
    (Builtin.clear_ #[26] ty #[.slice (some ⟨g, kk, none⟩) (n - kk) c']).run Tryz.prog w = .ok (.tuple #[]) (w.setCells g kk (List.replicate (n - kk) (.slice none 0 0))) := by
  have h' : w.ownsRow base e 1 (.slice (some ⟨g, 0, none⟩) xs.length c) xs.length (xs.map enc) := by rw [hn] at h; exact h
  refine Lib.run_clear_slice w 26 24 ty (.slice none 0 0) Tryz.underlying26 zero_tr rfl rfl g kk (n - kk) c' (by omega) (fun j hj => ?_) fun j _ => h'.frozenAt (kk + j)
  rw [h'.cellAt (kk + j) (by omega)]
  simp [show kk + j < xs.length from by omega]
theorem has_cap {α : Type} {enc : α → Value} {e : TypeId} {w : World} {base n c : Nat} {a : Option Addr} {xs : List α} (h : Has enc e w base (.slice a n c) xs) : n = xs.length ∧ n ≤ c := by
  rcases h.2 with ⟨hv, hn⟩ | ⟨g, cap, cur, hv, _, _, hc, _⟩
  · injection hv with e1 e2 e3; omega
  · injection hv with e1 e2 e3; omega
end Fac
end Go.Proofs.YtfpdikohlafpiaaGreat
/- Contracts of the library's sort and compaction at a slice of parts of words. No conditions beyond those that each states. -/
namespace Go.Proofs.YtfpdikohlafpiaaGreat
open Go.ChangeShapes Go.WideShapes Go.ChangeAt Go.RowKit
open Go.PlainAid Plain
set_option linter.unusedVariables false
namespace Fac
open Seqs
theorem ins_none (p : Option Addr) (cap : Nat) (fv : Value) (w : World) :
    Calls Tryz.prog 80 #[.slice p 0 cap, .int .i64 0, .int .i64 0, fv] w fun e w' => e = .returned (.tuple #[]) ∧ w = w' := by
  go_enter Tryz.func80, Tryz.ntmps80
  go_wp2
  refine wp_loop_rounds 1 ?_
  rw [rounds_succ]
  go_wp2
  go_end0
  exact ⟨rfl, rfl⟩
theorem pdq_none (p : Option Addr) (cap : Nat) (lim : Int) (fv : Value) (w : World) :
    Calls Tryz.prog 70 #[.slice p 0 cap, .int .i64 0, .int .i64 0, .int .i64 lim, fv] w fun e w' => e = .returned (.tuple #[]) ∧ w = w' := by
  go_enter Tryz.func70, Tryz.ntmps70
  go_wp2
  refine wp_loop_rounds 1 ?_
  rw [rounds_succ]
  go_wp2_with (go_at_call 80; refine (ins_none _ _ _ _).mono ?_; rintro e w' ⟨rfl, rfl⟩)
  (try simp only [Exit.inBlock, Exit.then]); refine bodyPost_ret (results_none rfl _ _ _) rfl ?_
  exact ⟨rfl, rfl⟩
theorem sort_none (p : Option Addr) (cap : Nat) (fv : Value) (w : World) :
    Calls Tryz.prog 60 #[.slice p 0 cap, fv] w fun e w' => e = .returned (.tuple #[]) ∧ w = w' := by
  have hl : ∀ W, Calls Tryz.prog 71 #[.int .u64 0] W fun e w' => e = .returned (.int .i64 (Lib.bitLen 0 : Nat)) ∧ w' = W := fun W => Tryz.bits_Len 0 W (by omega) (by omega)
  go_enter Tryz.func60, Tryz.ntmps60
  go_wp2_with (first | (go_at_call 71; refine (hl _).mono ?_; rintro e w' ⟨rfl, rfl⟩) | (go_at_call 70; refine (pdq_none _ _ _ _ _).mono ?_; rintro e w' ⟨rfl, rfl⟩))
  go_end0
  exact ⟨rfl, rfl⟩
theorem sort_any (v : Value) (w0 w : World) (L : List (Part w0)) (hb : Below w0.heap.size w0 w) (hv : Has Part.v 24 w w0.heap.size v L) (hn : L.length ≤ 100000) :
    Calls Tryz.prog 60 #[v, .func (.func 61) #[] #[]] w fun e w' => e = .returned (.tuple #[]) ∧ ∃ L' : List (Part w0), L'.Perm L ∧ (L'.Pairwise fun x y => cmpW x.k y.k ≤ 0) ∧ Has Part.v 24 w' w0.heap.size v L' ∧ Below w0.heap.size w0 w' := by
  rcases Nat.eq_zero_or_pos L.length with h0 | h0
  · obtain rfl : L = [] := List.eq_nil_of_length_eq_zero h0
    obtain ⟨a, c, rfl, _⟩ := hv.form
    refine (sort_none a c _ w).mono fun e w' h => ?_
    obtain ⟨rfl, rfl⟩ := h
    exact ⟨rfl, [], List.Perm.refl _, List.Pairwise.nil, hv, hb⟩
  · exact sorted v w0 w L hb hv hn h0
theorem eq_q {u v : Value} {xs ys : List Int} {w : World} {n : Nat} {c : Bool} (h1 : Lies (Value.int .i64) w u xs) (h2 : Lies (Value.int .i64) w v ys) (hc : decide (xs = ys) = c) :
    Calls Tryz.prog 63 #[u, v] (w.drewN n) fun e w' => e = .returned (.bool c) ∧ ∃ m, w' = w.drewN m :=
  (equal_ints u v xs ys (w.drewN n) (Lies_drewN h1 n) (Lies_drewN h2 n)).mono fun _ _ ⟨h, m, hm⟩ => ⟨by rw [h, hc], n + m, by rw [hm, World.drewN_drewN]⟩
theorem has_part {w0 w : World} {base : Nat} {a : Option Addr} {n c i : Nat} {x : Part w0} {L : List (Part w0)} (h : Has Part.v 24 w base (.slice a n c) L) (hx : L[i]? = some x) : ∃ g, a = some ⟨g, 0, none⟩ ∧ w.cell? ⟨g, i, none⟩ = some x.v ∧ ∃ b d, x.v = .slice b x.k.length d := by
  obtain ⟨p, o, ha, hc⟩ := lies_at h.lies hx
  obtain ⟨a', c', hv, hg⟩ := h.form
  injection hv with e1 e2 e3
  obtain ⟨g, hg⟩ := hg (by have := (List.getElem?_eq_some_iff.1 hx).1; omega)
  rw [e1, hg] at ha
  injection ha with ha
  injection ha with h1 h2
  subst h1; subst h2
  rw [Nat.zero_add] at hc
  obtain ⟨_, b, d, hv, _⟩ := x.lies
  exact ⟨g, by rw [e1, hg], hc, b, d, hv⟩
theorem dd_len {w0 : World} (L : List (Part w0)) : (dd Part.k L).length ≤ L.length := by
  have : ∀ (p : List Int) (l : List (Part w0)), (ddF Part.k p l).length ≤ l.length := fun p l => by
    induction l generalizing p with
    | nil => simp [ddF]
    | cons y l ih =>
      unfold ddF
      have := ih (y.k)
      split <;> simp <;> omega
  cases L with
  | nil => simp [dd]
  | cons x l => have := this x.k l; simp [dd]; exact this
theorem take_two {α : Type} {l : List α} {k : Nat} {y : α} (h : l[k]? = some y) : l.take (k + 1) = l.take k ++ [y] := by
  obtain ⟨h1, rfl⟩ := List.getElem?_eq_some_iff.1 h
  exact List.take_succ_eq_append_getElem h1
theorem has_frozen {α : Type} {enc : α → Value} {e : TypeId} {w : World} {base g n c : Nat} {xs : List α} (h : Has enc e w base (.slice (some ⟨g, 0, none⟩) n c) xs) (hn : n = xs.length) (j : Nat) : w.frozen? ⟨g, j, none⟩ = false := by
  subst hn
  have h' : w.ownsRow base e 1 (.slice (some ⟨g, 0, none⟩) xs.length c) xs.length (xs.map enc) := h
  exact h'.frozenAt j
set_option maxRecDepth 100000 in
set_option maxHeartbeats 4000000 in
theorem compact (v : Value) (w0 w : World) (L : List (Part w0)) (hb : Below w0.heap.size w0 w) (hv : Has Part.v 24 w w0.heap.size v L) (hn : L.length ≤ 100000) :
    Calls Tryz.prog 62 #[v, .func (.func 63) #[] #[]] w fun e w' => ∃ v', e = .returned v' ∧ Has Part.v 24 w' w0.heap.size v' (dd Part.k L) ∧ Below w0.heap.size w0 w' := by
  have eg : ∀ args w, (callFunc 63 args).run Tryz.prog w = .ok (.enter 63 args) w := enters_of Tryz.func63 (by kernel_rfl) rfl
  obtain ⟨a, c, rfl, _⟩ := hv.form
  have HV := Lib.hid hv
  have HB := Lib.hid hb
  clear hv hb
  by_cases h2 : L.length < 2
  · have hdd : dd Part.k L = L := by
      have := dd_one (key := Part.k) L
      rwa [List.take_of_length_le (by omega)] at this
    go_enter Tryz.func62, Tryz.ntmps62
    go_wp2
    go_ret
    exact ⟨_, rfl, by rw [hdd]; exact HV.out, HB.out⟩
  · go_enter Tryz.func62, Tryz.ntmps62
    go_wp2
    go_loopw [5] (fun k' wr => ∃ k : Nat, k + 1 ≤ L.length ∧ k' = .int .i64 ((k : Int) + 1) ∧ Hid (dd Part.k (L.take (k + 1)) = L.take (k + 1)) ∧ Hid (Has Part.v 24 wr w0.heap.size (.slice a L.length c) L) ∧ Hid (Below w0.heap.size w0 wr)) (fun k' _ => L.length - (intOf k').toNat)
    case atStart => exact ⟨0, by omega, rfl, dd_one L, HV, HB⟩
    case round =>
      obtain ⟨k, hk, rfl, HD, HV, HB⟩ := hrel
      obtain ⟨W4, rfl⟩ : ∃ W : World, W = wr := ⟨_, rfl⟩
      by_cases hlt : k + 1 < L.length
      · obtain ⟨x, hx⟩ : ∃ x, L[k]? = some x := ⟨_, List.getElem?_eq_getElem (by omega)⟩
        obtain ⟨y, hy⟩ : ∃ y, L[k + 1]? = some y := ⟨_, List.getElem?_eq_getElem hlt⟩
        obtain ⟨g, ha, c1, xb, xd, hxv⟩ := has_part HV.out hx
        subst ha
        obtain ⟨_, ha, c2, yb, yd, hyv⟩ := has_part HV.out hy
        cases ha
        have HXL := Lib.hid (x.lies.below HB.out)
        have HYL := Lib.hid (y.lies.below HB.out)
        rw [hxv] at c1 HXL
        rw [hyv] at c2 HYL
        have HS := Lib.hid (dd_snoc (key := Part.k) (l := L) hx hy)
        have HX := Lib.hid hy
        have hcap := (has_cap HV.out).2
        clear hx hy hxv hyv
        have hwr : IntKind.i64.wrap ((k : Int) + 1 - 1) = (k : Int) := by rw [IntKind.wrap_i64]; omega
        have hwr2 : IntKind.i64.wrap (k : Int) = (k : Int) := by rw [IntKind.wrap_i64]; omega
        have hl1 : k < L.length := by omega
        have hl2 : (k : Int) + 1 < (L.length : Int) := by omega
        have hl3 : (0 : Int) ≤ (k : Int) + 1 := by omega
        have hl4 : ((k : Int) + 1).toNat = k + 1 := by omega
        have hl5 : (k : Int) < (L.length : Int) := by omega
        by_cases he : y.k = x.k
        · have HQ := Lib.hid (decide_eq_true he)
          have HS2 : Hid (L.take (k + 1) = dd Part.k (L.take (k + 2))) := by
            have := HS.out
            rw [if_pos he, List.append_nil, HD.out] at this
            exact this.symm
          clear he HS HD
          go_wp2
          go_quiet ((go_at_fn 63; exact eq_q HYL.out HXL.out HQ.out))
          clear hwr hwr2 hl4
          have hsl := slice_from g L.length c (k + 1) ((k : Int) + 1) hlt hcap (by omega)
          have HB1 := Lib.hid (below_drewN HB.out nq)
          have HV1 := Lib.hid (HV.out.below (below_drewN (Below.refl _ _) nq))
          go_wp2_with fail
          go_loopw [5, 7] (fun k' m' wr => ∃ (q kk : Nat) (M : List (Part w0)), k + 1 + (q + 1) ≤ L.length ∧ k' = .int .i64 kk ∧ m' = .int .i64 ((q : Int) + 1) ∧ kk ≤ k + 1 + q ∧ Hid (M.length = L.length ∧ M.take kk = dd Part.k (L.take (k + 1 + q + 1)) ∧ ∀ i, k + 1 + q ≤ i → M[i]? = L[i]?) ∧ Hid (Has Part.v 24 wr w0.heap.size (.slice (some ⟨g, 0, none⟩) L.length c) M) ∧ Hid (Below w0.heap.size w0 wr)) (fun _ m' _ => L.length - (intOf m').toNat)
          case atStart => exact ⟨0, k + 1, L, by omega, by go_num, rfl, by omega, ⟨rfl, HS2.out, fun _ _ => rfl⟩, HV1, HB1⟩
          case round =>
            obtain ⟨q, kk, M, hq, rfl, rfl, hkk, HI, HVr, HBr⟩ := hrel
            have hcap2 := (has_cap HVr.out).2
            by_cases hlt2 : k + 1 + (q + 1) < L.length
            · obtain ⟨x2, hx2⟩ : ∃ x, L[k + 1 + q]? = some x := ⟨_, List.getElem?_eq_getElem (by omega)⟩
              obtain ⟨y2, hy2⟩ : ∃ y, L[k + 1 + q + 1]? = some y := ⟨_, List.getElem?_eq_getElem (by omega)⟩
              obtain ⟨_, ha, d1, xb2, xd2, hxv⟩ := has_part HVr.out ((HI.out.2.2 _ (by omega)).trans hx2)
              cases ha
              obtain ⟨_, ha, d2, yb2, yd2, hyv⟩ := has_part HVr.out ((HI.out.2.2 _ (by omega)).trans hy2)
              cases ha
              have HXL2 := Lib.hid (x2.lies.below HBr.out)
              have HYL2 := Lib.hid (y2.lies.below HBr.out)
              rw [hxv] at d1 HXL2
              rw [hyv] at d2 HYL2
              have HYV := Lib.hid hyv
              have HSS := Lib.hid (dd_snoc (key := Part.k) (l := L) hx2 hy2)
              have HY2 := Lib.hid hy2
              rw [show k + 1 + q + 1 = k + 1 + (q + 1) from by omega] at d2
              have hw1 : IntKind.i64.wrap ((q : Int) + 1 - 1) = (q : Int) := by rw [IntKind.wrap_i64]; omega
              have hw2 : IntKind.i64.wrap (q : Int) = (q : Int) := by rw [IntKind.wrap_i64]; omega
              have hm1 : q < L.length - (k + 1) := by omega
              have hm2 : (q : Int) + 1 < ((L.length - (k + 1) : Nat) : Int) := by omega
              have hm3 : (0 : Int) ≤ (q : Int) + 1 := by omega
              have hm4 : ((q : Int) + 1).toNat = q + 1 := by omega
              have hm5 : (q : Int) < ((L.length - (k + 1) : Nat) : Int) := by omega
              clear hx2 hy2 hxv hyv
              by_cases he2 : y2.k = x2.k
              · have HQ2 := Lib.hid (decide_eq_true he2)
                have HN2 : Hid (M.take kk = dd Part.k (L.take (k + 1 + (q + 1) + 1))) := by
                  have := HSS.out
                  rw [if_pos he2, List.append_nil] at this
                  exact HI.out.2.1.trans this.symm
                have HI2 : Hid (∀ i, k + 1 + (q + 1) ≤ i → M[i]? = L[i]?) := fun i hi => HI.out.2.2 i (by omega)
                have HI1 := Lib.hid HI.out.1
                clear he2 HSS HI HYV
                go_wp2
                go_quiet ((go_at_fn 63; exact eq_q HYL2.out HXL2.out HQ2.out))
                clear hw1 hw2 hm4
                go_wp2
                go_roundw
                case rel => exact ⟨q + 1, kk, M, by omega, rfl, by go_num, by omega, ⟨HI1.out, HN2.out, HI2.out⟩, HVr.out.below (below_drewN (Below.refl _ _) _), below_drewN HBr.out _⟩
                case measure => simp [intOf]; omega
              · have HQ2 := Lib.hid (decide_eq_false he2)
                have hkl : kk < M.length := by rw [HI.out.1]; omega
                have HN2 : Hid ((M.set kk y2).take (kk + 1) = dd Part.k (L.take (k + 1 + (q + 1) + 1))) := by
                  have := HSS.out
                  rw [if_neg he2, ← HI.out.2.1] at this
                  show _ = _
                  rw [show k + 1 + (q + 1) + 1 = k + 1 + q + 2 from by omega, this, List.take_succ_eq_append_getElem (by simpa using hkl), List.take_set, List.set_eq_of_length_le (by rw [List.length_take]; omega)]
                  simp
                have HI2 : Hid (∀ i, k + 1 + (q + 1) ≤ i → (M.set kk y2)[i]? = L[i]?) := fun i hi => by
                  rw [List.getElem?_set_ne (by omega)]
                  exact HI.out.2.2 i (by omega)
                have HI1 : Hid ((M.set kk y2).length = L.length) := by show _ = _; rw [List.length_set]; exact HI.out.1
                obtain ⟨z, hz⟩ : ∃ z, M[kk]? = some z := ⟨_, List.getElem?_eq_getElem hkl⟩
                obtain ⟨_, ha, d3, _, _, _⟩ := has_part HVr.out hz
                cases ha
                have hkL : kk < L.length := by rw [← HI.out.1]; exact hkl
                have hkL2 : (kk : Int) < (L.length : Int) := by omega
                have HL1 := Lib.hid HI.out.1
                clear he2 HSS HI hz hkl
                go_wp2
                go_quiet ((go_at_fn 63; exact eq_q HYL2.out HXL2.out HQ2.out))
                clear hw1 hw2
                have HV5 := Lib.hid (HVr.out.below (below_drewN (Below.refl _ _) nq))
                have HB5 := Lib.hid (below_drewN HBr.out nq)
                have hst := has_store HV5.out HL1.out.symm kk y2
                rw [HYV.out] at hst
                have HST := Lib.hid hst
                have m3 := has_frozen HV5.out HL1.out.symm kk
                have m1 : (wr.drewN nq).cell? ⟨g, kk, none⟩ = some z.v := d3
                have HBS : Hid (Below w0.heap.size w0 ((wr.drewN nq).setCell ⟨g, kk, none⟩ (.slice yb2 y2.k.length yd2))) := HB5.out.grown hst.2 HB5.out.size (fun k hk => by cases hk; exact (HV5.out.lt g rfl).1)
                clear hst
                go_wp2
                go_roundw
                case rel => exact ⟨q + 1, kk + 1, M.set kk y2, by omega, by go_num, by go_num, by omega, ⟨HI1.out, HN2.out, HI2.out⟩, HST.out.1, HBS⟩
                case measure => simp [intOf]; omega
            · have hend : k + 1 + (q + 1) = L.length := by omega
              have HE : Hid (M.take kk = dd Part.k L) := by
                have := HI.out.2.1
                rw [List.take_of_length_le (show L.length ≤ k + 1 + q + 1 by omega)] at this
                exact this
              have HL1 := Lib.hid HI.out.1
              have hkl : kk < L.length := by omega
              have hsf := slice_from g L.length c kk (kk : Int) hkl hcap2 rfl
              have hcl := fun ty => run_clear HVr.out HL1.out.symm hkl ty (c - kk)
              have hsto := slice_to g L.length c kk (by omega) (by omega)
              have HCUT := Lib.hid (has_cut HVr.out HL1.out.symm (Nat.le_of_lt hkl) HE.out (List.replicate (L.length - kk) (.slice none 0 0)) (.inr (by rw [List.length_replicate]; omega)))
              have hm9 : ¬ ((q : Int) + 1 < ((L.length - (k + 1) : Nat) : Int)) := by omega
              clear hend HI
              go_wp2
              go_ret
              exact ⟨_, rfl, HCUT.out.1, HBr.out.grown HCUT.out.2 HBr.out.size (fun k hk => by cases hk; exact (HVr.out.lt g rfl).1)⟩
        · have HQ := Lib.hid (decide_eq_false he)
          have HS2 : Hid (dd Part.k (L.take (k + 1 + 1)) = L.take (k + 1 + 1)) := by
            have := HS.out
            rw [if_neg he, HD.out] at this
            show _ = _
            rw [show k + 1 + 1 = k + 2 from rfl, this]
            exact (take_two HX.out).symm
          clear he HS HD
          go_wp2
          go_quiet ((go_at_fn 63; exact eq_q HYL.out HXL.out HQ.out))
          clear hwr hwr2 hl4
          go_wp2
          go_roundw
          case rel => exact ⟨k + 1, by omega, by go_num, HS2, HV.out.below (below_drewN (Below.refl _ _) _), below_drewN HB.out _⟩
          case measure => simp [intOf]; omega
      · have HE : Hid (dd Part.k L = L) := by
          have := HD.out
          rw [List.take_of_length_le (by omega)] at this
          exact this
        go_wp2
        go_ret
        exact ⟨_, rfl, by rw [HE.out]; exact HV.out, HB.out⟩
end Fac
end Go.Proofs.YtfpdikohlafpiaaGreat
/- Contracts of the program's differentWords, FactorsOf and CountFactors. No conditions beyond those that each states. -/
namespace Go.Proofs.YtfpdikohlafpiaaGreat
open Go.ChangeShapes Go.WideShapes Go.ChangeAt Go.RowKit
open Go.PlainAid Plain
set_option linter.unusedVariables false
namespace Fac
open Seqs
/-- The slice of parts, its first i elements words of the call's own. -/
structure Half (w0 w : World) (a : Option Addr) (n c : Nat) (us : List Value) (rows : List (List Int)) (D : List (Part w0)) (hi : Nat) : Prop where
  top : Has id 24 w w0.heap.size (.slice a n c) (us ++ D.map Part.v)
  rows : OwnRows w w0.heap.size hi us rows
  lo : w0.heap.size ≤ hi
  le : hi ≤ w.heap.size
  below : Below w0.heap.size w0 w
theorem has_id {w0 w : World} {base : Nat} {v : Value} {D : List (Part w0)} (h : Has Part.v 24 w base v D) : Has id 24 w base v (D.map Part.v) := by
  show World.ownsRow _ _ _ _ _ _ _
  rw [List.length_map, List.map_id]
  exact h
theorem Half.start {w0 w : World} {a : Option Addr} {n c : Nat} {D : List (Part w0)} (h : Has Part.v 24 w w0.heap.size (.slice a n c) D) (hb : Below w0.heap.size w0 w) : Half w0 w a n c [] [] D w0.heap.size :=
  ⟨has_id h, OwnRows.nil _ _ _, Nat.le_refl _, hb.size, hb⟩
theorem Half.step {w0 w : World} {g n c : Nat} {us : List Value} {rows : List (List Int)} {x : Part w0} {D : List (Part w0)} {hi : Nat} (h : Half w0 w (some ⟨g, 0, none⟩) n c us rows (x :: D) hi) {w' : World} {v' : Value} (hv : Has (Value.int .i64) 3 w' w.heap.size v' x.k) (hb : Below w.heap.size w w') :
    Half w0 (w'.setCell ⟨g, us.length, none⟩ v') (some ⟨g, 0, none⟩) n c (us ++ [v']) (rows ++ [x.k]) D w'.heap.size ∧ (w'.cell? ⟨g, us.length, none⟩ = some x.v) ∧ w'.frozen? ⟨g, us.length, none⟩ = false := by
  have ht := h.top.below hb
  have hn : n = (us ++ (x :: D).map Part.v).length := (has_cap ht).1
  have hst := has_store (enc := id) ht hn us.length v'
  have h' : w'.ownsRow w0.heap.size 24 1 (.slice (some ⟨g, 0, none⟩) (us ++ (x :: D).map Part.v).length c) (us ++ (x :: D).map Part.v).length ((us ++ (x :: D).map Part.v).map id) := by rw [hn] at ht; exact ht
  have hrows := (h.rows.below hb).snoc ((OwnI.of_gives hv).mono h.le (Nat.le_refl _) (Nat.le_refl _)) h.lo (Nat.le_trans h.le hb.size)
  refine ⟨⟨?_, hrows.top_grown ht hst.2 |>.mono (by simp) (by simp), Nat.le_trans h.lo (Nat.le_trans h.le hb.size), by simp, ?_⟩, ?_, h'.frozenAt _⟩
  · have := hst.1
    rw [List.map_cons, List.set_append_right _ _ (Nat.le_refl _), Nat.sub_self, List.set_cons_zero] at this
    rw [List.append_assoc]
    exact this
  · exact (h.below.trans (hb.mono h.below.size)).grown hst.2 (Nat.le_trans h.below.size hb.size) (fun k hk => by cases hk; exact (ht.lt g rfl).1)
  · have hlt : us.length < (us ++ (x :: D).map Part.v).length := by simp
    have := h'.cellAt us.length (by omega)
    rw [this]
    simp
set_option maxRecDepth 100000 in
set_option maxHeartbeats 2000000 in
theorem diff (v : Value) (w0 w : World) (L : List (Part w0)) (hb : Below w0.heap.size w0 w) (hv : Has Part.v 24 w w0.heap.size v L) (hn : L.length ≤ 100000) (hk : ∀ x ∈ L, x.k.length ≤ 1048576) :
    Calls Tryz.prog 53 #[v] w fun e w' => ∃ v' us, e = .returned v' ∧ OwnR w' w0.heap.size w'.heap.size v' us (sdl (L.map Part.k)) ∧ Below w0.heap.size w0 w' := by
  have HK := Lib.hid hk
  have HV := Lib.hid hv
  have HB := Lib.hid hb
  clear hk hv hb
  go_enter Tryz.func53, Tryz.ntmps53
  go_wp2_with fail
  refine (sort_any v w0 _ L HB.out HV.out hn).mono ?_
  rintro e W1 ⟨rfl, L', hperm, hpw, hv1, hb1⟩
  have HP := Lib.hid hperm
  have hlen : L'.length = L.length := hperm.length_eq
  have HD := Lib.hid (dd_sdl (key := Part.k) hpw (hperm.map Part.k))
  have HDK : Hid (∀ x ∈ dd Part.k L', x.k.length ≤ 1048576) := fun x hx => HK.out x (hperm.mem_iff.1 (dd_mem _ _ hx))
  have HB1 := Lib.hid hb1
  have HV1 := Lib.hid hv1
  have hddl := dd_len L'
  clear hperm hpw hb1 hv1
  go_wp2_with fail
  refine (compact v w0 _ L' HB1.out HV1.out (by omega)).mono ?_
  rintro e W2 ⟨v2, rfl, hv2, hb2⟩
  obtain ⟨D, hDD⟩ : ∃ D, D = dd Part.k L' := ⟨_, rfl⟩
  rw [← hDD] at HD HDK hv2 hddl
  obtain ⟨a, c, rfl, hag⟩ := hv2.form
  have HH := Lib.hid (Half.start hv2 hb2)
  have hDl : D.length ≤ 100000 := by omega
  clear hDD hv2 hb2 hlen hddl
  go_wp2
  go_loopw [12] (fun i' wr => ∃ (i : Nat) (us : List Value) (hi : Nat), i ≤ D.length ∧ i' = .int .i64 i ∧ Hid (us.length = i) ∧ Hid (Half w0 wr a D.length c us ((D.take i).map Part.k) (D.drop i) hi)) (fun i' _ => D.length - (intOf i').toNat)
  case atStart => exact ⟨0, [], _, Nat.zero_le _, rfl, rfl, by rw [List.take_zero, List.drop_zero]; exact HH⟩
  case round =>
    obtain ⟨i, us, hi, hi', rfl, HU, HHr⟩ := hrel
    obtain rfl : us.length = i := HU.out
    clear HU
    by_cases hlt : us.length < D.length
    · obtain ⟨x, hx⟩ : ∃ x, D[us.length]? = some x := ⟨_, List.getElem?_eq_getElem hlt⟩
      obtain ⟨hx1, hx2⟩ := List.getElem?_eq_some_iff.1 hx
      have hHr := HHr.out
      rw [List.drop_eq_getElem_cons hlt, hx2] at hHr
      have HC := Lib.hid hHr
      obtain ⟨g, rfl⟩ := hag (by omega)
      obtain ⟨p, o, ha, c1⟩ := lies_at (enc := id) hHr.top.lies (i := us.length) (x := x.v) (by simp)
      injection ha with ha
      injection ha with ha1 ha2
      subst ha1; subst ha2
      rw [Nat.zero_add] at c1
      have HT : Hid ((D.take (us.length + 1)).map Part.k = (D.take us.length).map Part.k ++ [x.k]) := by
        show _ = _
        rw [List.take_succ_eq_append_getElem hx1, hx2, List.map_append]
        rfl
      have hxm := HDK.out x (List.mem_of_getElem? hx)
      have hxl := x.lies.below hHr.below
      obtain ⟨_, xb, xd, hxv, _⟩ := x.lies
      rw [hxv] at hxl
      have c2 : wr.cell? ⟨g, us.length, none⟩ = some (.slice xb x.k.length xd) := by rw [c1]; exact congrArg some hxv
      have HCL := Lib.hid (Digits.clone_lies _ x.k wr hxl hxm)
      clear hx hx1 hx2 hHr c1 hxl hxv hxm HHr
      go_wp2_with fail
      refine HCL.out.mono ?_
      rintro e W5 ⟨v5, rfl, hv5, b5⟩
      obtain ⟨h6, c6, f6⟩ := HC.out.step hv5 b5
      obtain ⟨va, vc, rfl, _⟩ := hv5.form
      have H6 := Lib.hid h6
      clear h6 hv5 b5 c2 HCL HC
      go_wp2
      go_roundw
      case rel => exact ⟨us.length + 1, us ++ [.slice va x.k.length vc], _, by omega, by go_num, by show _ = _; simp, by rw [HT.out]; exact H6⟩
      case measure => simp [intOf]; omega
    · have HE : Hid (Half w0 wr a D.length c us (sdl (L.map Part.k)) [] hi) := by
        have h1 := HHr.out
        rw [List.take_of_length_le (by omega), List.drop_of_length_le (by omega), HD.out] at h1
        exact h1
      go_wp2
      go_ret
      have h1 := HE.out.top
      rw [List.map_nil, List.append_nil] at h1
      exact ⟨_, us, rfl, ⟨h1, fun k hk => (h1.lt k hk).2, Nat.le_refl _, HE.out.rows.mono HE.out.le (Nat.le_refl _)⟩, HE.out.below⟩
end Fac
end Go.Proofs.YtfpdikohlafpiaaGreat
/- Contracts of the program's search for a part, OccurrencesOf and IsFactor. No conditions beyond those that each states. -/
namespace Go.Proofs.YtfpdikohlafpiaaGreat
open Go.ChangeShapes Go.WideShapes Go.ChangeAt Go.RowKit
open Go.PlainAid Plain
set_option linter.unusedVariables false
namespace Fac
open Seqs
theorem has_set {α : Type} {enc : α → Value} {e : TypeId} {w : World} {base b o : Nat} {v : Value} {xs : List α} (h : Has enc e w base v xs) (hn : v.ownBlock ≠ some b) (x : Value) : Has enc e (w.setCell ⟨b, o, none⟩ x) base v xs :=
  h.of_same fun k hk => by
    have : b ≠ k := fun e => hn (by rw [hk, e])
    simp [World.setCell, Array.getElem?_modify, this]
/-- The borders of the first letters. -/
def bdT (u : List Int) (i : Nat) : List Int := (List.range (i + 1)).map (bd u)
theorem bdT_at (u : List Int) {i j : Nat} (h : j ≤ i) : (bdT u i)[j]? = some (bd u j) := by simp [bdT, show j < i + 1 from by omega]
theorem bdT_len (u : List Int) (i : Nat) : (bdT u i).length = i + 1 := by simp [bdT]
theorem bdT_succ (u : List Int) (i : Nat) : bdT u (i + 1) = bdT u i ++ [bd u (i + 1)] := by simp [bdT, List.range_succ (n := i + 1)]
theorem lies_some {w : World} {a : Option Addr} {n c : Nat} {xs : List Int} {i : Nat} {x : Int} (h : Lies (Value.int .i64) w (.slice a n c) xs) (hx : xs[i]? = some x) : ∃ b off, a = some ⟨b, off, none⟩ ∧ w.cell? ⟨b, off + i, none⟩ = some (.int .i64 x) := by
  obtain ⟨_, a', c', hv, _, hc⟩ := h
  injection hv with e1 e2 e3
  subst e1
  exact hc i x hx
theorem lies_form {w : World} {v : Value} {xs : List Int} (h : Lies (Value.int .i64) w v xs) : ∃ a c, v = .slice a xs.length c := by
  obtain ⟨_, a, c, rfl, _⟩ := h
  exact ⟨a, c, rfl⟩
/-- What newFinder hands back: the part itself and its borders in a slice of the call's own. -/
def GivesF (vp : Value) (u : List Int) (w : World) (e : Ending) (w' : World) : Prop := ∃ vb, e = .returned (.agg #[vp, vb]) ∧ Has (Value.int .i64) 3 w' w.heap.size vb (bdT u u.length) ∧ Below w.heap.size w w'
end Fac
end Go.Proofs.YtfpdikohlafpiaaGreat
/- Contracts of the program's OccurrencesOf and IsFactor. No conditions beyond those that each states. -/
namespace Go.Proofs.YtfpdikohlafpiaaGreat
open Go.ChangeShapes Go.WideShapes Go.ChangeAt Go.RowKit
open Go.PlainAid Plain
set_option linter.unusedVariables false
namespace Fac
open Seqs
/-- The part stands at the end of the first e letters: one more place. -/
theorem mt_case {u t : List Int} : (mt u t (u.length + 1) = u.length ∧ u <:+ t ∧ mt u t u.length = bd u u.length) ∨ (mt u t (u.length + 1) < u.length ∧ ¬ u <:+ t ∧ mt u t u.length = mt u t (u.length + 1)) := by
  have h := mt_range u t
  by_cases hu : u <:+ t
  · exact .inl ⟨(mt_full hu).1, hu, (mt_full hu).2⟩
  · refine .inr ⟨?_, hu, (mt_not hu).symm⟩
    rcases Int.lt_or_eq_of_le h.2 with h1 | h1
    · exact h1
    · exact absurd (mt_is h1) hu
theorem mt_lt (u t : List Int) : -1 ≤ mt u t u.length ∧ mt u t u.length < u.length := gr_ge _ _
theorem mt_step {u w : List Int} {e : Nat} {x : Int} (hx : w[e]? = some x) : fa u (mt u (w.take e) u.length) x = mt u (w.take (e + 1)) (u.length + 1) := by
  obtain ⟨h1, h2⟩ := List.getElem?_eq_some_iff.1 hx
  rw [List.take_succ_eq_append_getElem h1, h2, mt_snoc]
theorem suf_len {u w : List Int} {e : Nat} (h : u <:+ w.take e) : u.length ≤ e := by
  have := h.length_le
  rw [List.length_take] at this
  omega
end Fac
end Go.Proofs.YtfpdikohlafpiaaGreat
/- Contracts of the program's FactorsOf, CountFactors and ReturnWords. No conditions beyond those that each states. -/
namespace Go.Proofs.YtfpdikohlafpiaaGreat
open Go.ChangeShapes Go.WideShapes Go.ChangeAt Go.RowKit
open Go.PlainAid Plain
set_option linter.unusedVariables false
namespace Fac
open Seqs
theorem rk_no {xs : List Int} {n : Int} {W : World} {e : Ending} {W' : World} (h : facK xs n = false) (hg : GivesRK [] false W e W') : GivesRK (facV xs n) (facK xs n) W e W' := by rw [facV_no h, h]; exact hg
theorem rk_yes {xs : List Int} {n : Nat} {W : World} {e : Ending} {W' : World} (h : facK xs n = true) (hg : GivesRK (sdl (wins xs n)) true W e W') : GivesRK (facV xs n) (facK xs n) W e W' := by rw [facV_yes h, h]; exact hg
theorem ownR_nil (w : World) (lo : Nat) : OwnR w lo w.heap.size (.slice none 0 0) [] [] := ⟨World.ownsRow_nil _ _ _ _, (fun k hk => by cases hk), Nat.le_refl _, OwnRows.nil _ _ _⟩
theorem facK_B {xs : List Int} {n : Int} (h : facB xs = true) (h1 : 0 ≤ n) (h2 : n ≤ 40) : facK xs n = true := by simp [facK, h, h1, h2]
theorem facB_len {xs : List Int} (h : facB xs = true) : xs.length ≤ 128 := by simp only [facB, Bool.and_eq_true, decide_eq_true_eq] at h; exact h.2
set_option maxRecDepth 100000 in
set_option maxHeartbeats 4000000 in
/-- The different parts of n letters, in order. -/
theorem parts (u : Value) (xs : List Int) (N : Nat) (w w1 : World) (h : LiesC w u xs) (hb : Below w.heap.size w w1) (h128 : xs.length ≤ 128) (hN40 : N ≤ 128) :
    Calls Tryz.prog 31 #[u, .int .i64 N] w1 fun e w' => ∃ v us, e = .returned v ∧ OwnR w' w.heap.size w'.heap.size v us (sdl (wins xs N)) ∧ Below w.heap.size w w' := by
  obtain ⟨j0, hj, hy0, hy1, hy2⟩ := info_parts infoR'
  obtain ⟨a, ca, rfl, hcap⟩ := h.form
  have HX := Lib.hid h
  have hsm := h.1.1
  have HB1 := Lib.hid hb
  clear h hb
  go_enter Tryz.func31, Tryz.ntmps31
  go_wp2
  go_loopw [5, 12] (fun o' i' wr => ∃ (i : Nat) (vo : Value) (L : List (Part w)), i ≤ xs.length + 1 - N ∧ i' = .int .i64 i ∧ vo = o' ∧ Hid (Has Part.v 24 wr w.heap.size vo L) ∧ Hid (L.map Part.k = (wins xs N).take i) ∧ Hid (Below w.heap.size w wr)) (fun _ i' _ => xs.length + 1 - (intOf i').toNat)
  case atStart => exact ⟨0, _, [], Nat.zero_le _, rfl, rfl, World.ownsRow_nil _ _ _ _, rfl, HB1⟩
  case round =>
    obtain ⟨i, vo, L, hi', rfl, rfl, HOr, HLr, HBr⟩ := hrel
    by_cases hlt : i + N ≤ xs.length
    · obtain ⟨a1, c1, hsl, hcut⟩ := HX.out.slice (l := i) (h := i + N) (by omega) hlt (L := (i : Int)) (H := (i : Int) + (N : Int)) rfl (by omega)
      rw [show i + N - i = N from by omega] at hsl hcut
      have hlL : L.length ≤ 129 := by
        have := congrArg List.length HLr.out
        rw [List.length_map, List.length_take, wins_len] at this
        omega
      obtain ⟨va, vc, hvo, _⟩ := HOr.out.form
      subst hvo
      have HP : Hid ((L ++ [Part.mk hcut.1]).map Part.k = (wins xs N).take (i + 1)) := by
        show _ = _
        rw [wins_take hlt, List.map_append, HLr.out]
        rfl
      have HCT := Lib.hid hcut
      have hrg : (i : Int) < (xs.length : Int) - (N : Int) + 1 := by omega
      go_wp2_with (refine append_one (enc := Part.v) (e := 24) wr rfl _ _ 26 rfl w.heap.size j0 (.slice none 0 0) 24 Tryz.underlying26 hj hy0 hy1 hy2 rfl (.slice va L.length vc) L rfl HOr.out (Part.mk HCT.out.1) rfl (fun x => x.one) (by omega) (by omega) HBr.out.size ?_; intro v' w1 ho hg; have HO2 := Lib.hid ho; have HB2 := Lib.hid (HOr.out.frame HBr.out (Nat.le_refl _) hg); clear hg ho)
      go_roundw
      case rel => exact ⟨i + 1, _, _, by omega, by go_num, rfl, HO2, HP, HB2⟩
      case measure => simp [intOf]; omega
    · have hE : L.map Part.k = wins xs N := by
        have := HLr.out
        rwa [wins_all (by omega)] at this
      have hlL : L.length ≤ 100000 := by
        have := congrArg List.length hE
        rw [List.length_map, wins_len] at this
        omega
      have HD := Lib.hid (diff vo w wr L HBr.out HOr.out hlL fun x hx => by
        have := wins_row (xs := xs) (n := N) (p := x.k) (by rw [← hE]; exact List.mem_map_of_mem hx)
        omega)
      rw [hE] at HD
      have hrg : ¬ (i : Int) < (xs.length : Int) - (N : Int) + 1 := by omega
      clear hE hlL
      go_wp2_with fail
      refine HD.out.mono ?_
      rintro e W5 ⟨v5, us5, rfl, ho5, b5⟩
      have HO5 := Lib.hid ho5
      have HB5 := Lib.hid b5
      clear ho5 b5 HD
      go_wp2
      go_ret
      exact ⟨_, us5, rfl, HO5.out, HB5.out⟩
end Fac
end Go.Proofs.YtfpdikohlafpiaaGreat
/- Contracts of slices.Grow and slices.Concat at ints, and of the program's ConjugatesOf and LeastConjugate. No conditions beyond those that each states. -/
namespace Go.Proofs.YtfpdikohlafpiaaGreat
open Go.ChangeShapes Go.WideShapes Go.ChangeAt Go.RowKit
open Go.PlainAid Plain
set_option linter.unusedVariables false
namespace Lynd
open Fac Seqs
theorem tot_rows {k : Nat} : ∀ (l : List (List Int)), (∀ x ∈ l, x.length ≤ k) → tot l ≤ l.length * k
  | [], _ => by simp [tot]
  | x :: l, h => by
    have h1 := tot_rows l fun y hy => h y (List.mem_cons_of_mem _ hy)
    have h2 := h x (by simp)
    have e : tot (x :: l) = x.length + tot l := by simp [tot]
    rw [e, List.length_cons, Nat.succ_mul]
    omega
theorem conjV_size (u : List Int) : tot (conjV u) ≤ 4096 := by
  have h1 := tot_rows (k := 64) (conjV u) fun x hx => by have := conjV_row hx; omega
  have h2 := conjV_len u
  omega
theorem two_cells (w : World) (x y : Value) : ∀ (j : Nat) (u : Value), [x, y][j]? = some u → (w.alloc (.cells #[x, y] 24)).cell? ⟨w.heap.size, j, none⟩ = some u := by
  intro j u hj
  rw [cell_of_row _ w.heap.size j #[x, y] 24 (0, 0) (heap_alloc_new w _)]
  simpa using hj
theorem size_zeros (n : Nat) : (Builtin.zeroCells (Value.int .i64 0).cells n).size = n := by simp [Builtin.zeroCells, Value.cells]
set_option maxRecDepth 100000 in
set_option maxHeartbeats 2000000 in
/-- slices.Grow(nil, n): an empty slice with room. -/
theorem grow_nil (n : Nat) (w : World) (h0 : 0 < n) (hn : n ≤ 4194304) :
    Calls Tryz.prog 54 #[.slice none 0 0, .int .i64 n] w (Gives (Value.int .i64) 3 [] w) := by
  obtain ⟨i0, hi, hz0, hz1, hz2⟩ := info_parts Ints.infoI
  have hrz : ∀ ty, (Builtin.append_ #[24, 3] ty #[.slice none 0 0, .int .i64 (n : Int)]).run Tryz.prog w = .ok (.slice (some ⟨w.heap.size, 0, none⟩) n (grownCap w n 0 3)) (w.drew.alloc (.cells (Builtin.zeroCells (Value.int .i64 0).cells n ++ Builtin.zeroCells (Value.int .i64 0).cells (grownCap w n 0 3 - n)) 3)) := fun ty =>
    Lib.run_append_nil_zeros w 24 3 ty 3 i0 (.int .i64 0) .i64 .i64 Tryz.underlying24 Tryz.underlying3 hi hz0 n h0 (by omega) (by omega) (by rw [hz2]; omega)
  have hGn : n ≤ grownCap w n 0 3 := grownCap_ge w _ _ _
  have hGm : grownCap w n 0 3 ≤ maxLen := grownCap_le_maxLen w n 0 3 (by unfold maxLen; omega)
  obtain ⟨G, hG⟩ : ∃ G, G = grownCap w n 0 3 := ⟨_, rfl⟩
  rw [← hG] at hrz hGn hGm
  have hG63 : G ≤ 9223372036854775807 := by unfold maxLen at hGm; omega
  have HH : Hid (Has (Value.int .i64) 3 (w.drew.alloc (.cells (Builtin.zeroCells (Value.int .i64 0).cells n ++ Builtin.zeroCells (Value.int .i64 0).cells (G - n)) 3)) w.heap.size (.slice (some ⟨w.heap.size, 0, none⟩) 0 G) []) :=
    ⟨rfl, .inr ⟨w.heap.size, G, _, rfl, Nat.le_refl _, heap_alloc_new w.drew _, Nat.zero_le _, hGm, by rw [Array.size_append, size_zeros, size_zeros]; omega, by simp⟩⟩
  have HB : Hid (Below w.heap.size w (w.drew.alloc (.cells (Builtin.zeroCells (Value.int .i64 0).cells n ++ Builtin.zeroCells (Value.int .i64 0).cells (G - n)) 3))) := (below_drew' w).alloc (Nat.le_refl _) _
  obtain ⟨W1, hW1⟩ : ∃ W, W = w.drew.alloc (.cells (Builtin.zeroCells (Value.int .i64 0).cells n ++ Builtin.zeroCells (Value.int .i64 0).cells (G - n)) 3) := ⟨_, rfl⟩
  rw [← hW1] at HH HB hrz
  clear hG hW1
  go_enter Tryz.func54, Tryz.ntmps54
  go_wp2_with (at_builtin; refine Lib.wpList_append_run _ rfl _ _ _ _ rfl _ _ rfl rfl _ _ (hrz _) ?_)
  all_goals
    go_ret
    exact ⟨_, rfl, HH.out, HB.out⟩
set_option maxRecDepth 100000 in
set_option maxHeartbeats 4000000 in
/-- slices.Concat(u, u). -/
theorem concat2 (B : Nat) (a : Option Addr) (c : Nat) (u : List Int) (w : World) (hc0 : w.cell? ⟨B, 0, none⟩ = some (.slice a u.length c)) (hc1 : w.cell? ⟨B, 1, none⟩ = some (.slice a u.length c)) (h : Lies (Value.int .i64) w (.slice a u.length c) u) (h0 : 0 < u.length) (hs : u.length ≤ 1048576) :
    Calls Tryz.prog 32 #[.slice (some ⟨B, 0, none⟩) 2 2] w (Gives (Value.int .i64) 3 (u ++ u) w) := by
  obtain ⟨i0, hi, hz0, hz1, hz2⟩ := info_parts Ints.infoI
  have HU := Lib.hid h
  have HC0 := Lib.hid hc0
  have HC1 := Lib.hid hc1
  have HG := Lib.hid (grow_nil (u.length + u.length) w (by omega) (by omega))
  obtain ⟨n, hn⟩ : ∃ n, n = u.length := ⟨_, rfl⟩
  have HN := Lib.hid hn
  rw [← hn] at HC0 HC1 HU hc0 hc1 h0 hs HG
  rw [show ((n + n : Nat) : Int) = (n : Int) + (n : Int) from by omega] at HG
  clear h hn
  go_enter Tryz.func32, Tryz.ntmps32
  go_wp2
  go_loop [3, 5, 11] (fun s' x' i' => (i' = .int .i64 0 ∧ s' = .int .i64 0) ∨ (i' = .int .i64 1 ∧ s' = .int .i64 (n : Int)) ∨ (i' = .int .i64 2 ∧ s' = .int .i64 ((n : Int) + (n : Int)))) (fun _ _ i' => 2 - (intOf i').toNat)
  case atStart => exact .inl ⟨rfl, rfl⟩
  case round =>
    rcases hrel with ⟨rfl, rfl⟩ | ⟨rfl, rfl⟩ | ⟨rfl, rfl⟩
    · go_wp2
      go_round
      case rel => exact .inr (.inl ⟨by go_num, by go_num⟩)
      case measure => simp [intOf]
    · go_wp2
      go_round
      case rel => exact .inr (.inr ⟨by go_num, by go_num⟩)
      case measure => simp [intOf]
    · clear hc0 hc1
      go_wp2_with fail
      refine HG.out.mono ?_
      rintro e W1 ⟨v1, rfl, hv1, b1⟩
      have HV1 := Lib.hid hv1
      have HB1 := Lib.hid b1
      clear hv1 b1 HG
      go_wp2
      go_loopw [6, 8, 27] (fun r' x' i' wr => ∃ (i : Nat) (vr : Value) (L : List Int), i ≤ 2 ∧ i' = .int .i64 i ∧ vr = r' ∧ Hid (Has (Value.int .i64) 3 wr w.heap.size vr L) ∧ Hid (L ++ (if i = 0 then u ++ u else if i = 1 then u else []) = u ++ u) ∧ L.length ≤ 2097152 ∧ Hid (Below w.heap.size w wr)) (fun _ _ i' _ => 2 - (intOf i').toNat)
      case atStart => exact ⟨0, v1, [], by omega, rfl, rfl, HV1, rfl, by simp, HB1⟩
      case round =>
        clear HV1 HB1
        obtain ⟨i, vr, L, hi2, rfl, rfl, HV, HL, hll, HB⟩ := hrel
        obtain ⟨ra, rc, hvr, _⟩ := HV.out.form
        by_cases hlt : i < 2
        · have hcell : wr.cell? ⟨B, i, none⟩ = some (.slice a n c) := by
            rcases (show i = 0 ∨ i = 1 by omega) with rfl | rfl
            · exact (HB.out.cell (World.block_lt_of_cell? _ _ HC0.out)).trans HC0.out
            · exact (HB.out.cell (World.block_lt_of_cell? _ _ HC1.out)).trans HC1.out
          have HU1 := Lib.hid (HU.out.below HB.out)
          have hul : L.length + u.length ≤ 2097152 := by
            have := congrArg List.length HL.out
            rw [List.length_append, List.length_append] at this
            have hN := HN.out
            rcases (show i = 0 ∨ i = 1 by omega) with rfl | rfl
            · rw [if_pos rfl, List.length_append] at this; omega
            · rw [if_neg (by omega), if_pos rfl] at this; omega
          have HL2 : Hid ((L ++ u) ++ (if i + 1 = 0 then u ++ u else if i + 1 = 1 then u else []) = u ++ u) := by
            show _ = _
            have := HL.out
            rcases (show i = 0 ∨ i = 1 by omega) with rfl | rfl
            · simpa using this
            · simpa using this
          subst hvr
          go_wp2_with (at_builtin; refine append_lies (enc := (Value.int .i64)) (e := 3) wr rfl (.tmp 31) (.tmp 32) 24 rfl w.heap.size i0 (.int .i64 0) 8 Tryz.underlying24 hi hz0 hz1 hz2 rfl (.slice ra L.length rc) L rfl HV.out (.slice a n c) u rfl HU1.out (fun _ => rfl) (by omega) (by omega) HB.out.size ?_; intro vn wn hn hgn; have HV2 := Lib.hid hn; have HB2 := Lib.hid (HV.out.frame HB.out (Nat.le_refl _) hgn); clear hn hgn)
          go_roundw
          case rel => exact ⟨i + 1, _, _, by omega, by go_num, rfl, HV2, HL2, by rw [List.length_append]; exact hul, HB2⟩
          case measure => simp [intOf]; omega
        · obtain rfl : i = 2 := by omega
          have HE : Hid (L = u ++ u) := by have := HL.out; show _ = _; simpa using this
          clear hvr
          go_wp2
          go_ret
          exact ⟨_, rfl, by rw [← HE.out]; exact HV.out, HB.out⟩
set_option maxRecDepth 100000 in
set_option maxHeartbeats 2000000 in
theorem impl_conj (v : Value) (u : List Int) (w : World) (h : Lies (Value.int .i64) w v u) (hs : u.length ≤ 1048576) :
    Calls Tryz.prog 14 #[v] w (GivesR (conjV u) w) := by
  obtain ⟨_, a, ca, rfl, _, _⟩ := id h
  have HX := Lib.hid h
  clear h
  by_cases h0 : 0 < u.length
  · have hd0 : ((u.length : Int) == 0) = false := by simp; intro e; rw [e] at h0; simp at h0
    by_cases h64 : u.length ≤ 64
    · have hd64 := decide_eq_false (show ¬ (u.length : Int) > 64 by omega)
      have HE := Lib.hid (conjV_eq h0 h64)
      have hcc := concat2 w.heap.size a ca u (w.alloc (.cells #[.slice a u.length ca, .slice a u.length ca] 24)) (two_cells w _ _ 0 _ rfl) (two_cells w _ _ 1 _ rfl) (lies_alloc HX.out _) h0 hs
      have HCC := Lib.hid hcc
      have HB0 : Hid (Below w.heap.size w (w.alloc (.cells #[.slice a u.length ca, .slice a u.length ca] 24))) := (Below.refl _ _).alloc (Nat.le_refl _) _
      clear hcc
      go_enter Tryz.func14, Tryz.ntmps14
      go_wp2_with fail
      obtain ⟨W0, hW0⟩ : ∃ W, W = w.alloc (.cells #[.slice a u.length ca, .slice a u.length ca] 24) := ⟨_, rfl⟩
      rw [← hW0] at HCC HB0 ⊢
      clear hW0
      refine HCC.out.mono ?_
      rintro e W1 ⟨v1, rfl, hv1, b1⟩
      have HP := Lib.hid (parts v1 (u ++ u) u.length W1 W1 (LiesC.of_has hv1) (Below.refl _ _) (by simp; omega) (by omega))
      obtain ⟨a1, c1, rfl, _⟩ := hv1.form
      rw [← HE.out] at HP
      have HB1 := Lib.hid (HB0.out.trans (b1.mono HB0.out.size))
      have hll : (u ++ u).length = u.length + u.length := by simp
      obtain ⟨m, hm⟩ : ∃ m, m = (u ++ u).length := ⟨_, rfl⟩
      rw [← hm] at HP ⊢
      clear hv1 b1 HCC hm hll
      go_wp2_with fail
      refine HP.out.mono ?_
      rintro e W5 ⟨v5, us5, rfl, ho5, b5⟩
      have HO5 := Lib.hid ho5
      have HB5 := Lib.hid (HB1.out.trans (b5.mono HB1.out.size))
      have HLO := Lib.hid HB1.out.size
      clear ho5 b5 HP
      go_wp2
      go_ret
      have hr := HO5.out
      exact ⟨_, us5, rfl, ⟨hr.top.mono HLO.out, hr.lt, hr.le, hr.rows.lower HLO.out⟩, HB5.out⟩
    · have hd64 := decide_eq_true (show (u.length : Int) > 64 by omega)
      have HE := Lib.hid (conjV_big (u := u) (by omega))
      go_enter Tryz.func14, Tryz.ntmps14
      go_wp2
      go_ret
      exact ⟨_, [], rfl, by rw [HE.out]; exact ownR_nil _ _, Below.refl _ _⟩
  · have hd0 : ((u.length : Int) == 0) = true := by simp; exact List.eq_nil_of_length_eq_zero (by omega)
    have HE := Lib.hid (conjV_nil (u := u) (by omega))
    go_enter Tryz.func14, Tryz.ntmps14
    go_wp2
    go_ret
    exact ⟨_, [], rfl, by rw [HE.out]; exact ownR_nil _ _, Below.refl _ _⟩
set_option maxRecDepth 100000 in
set_option maxHeartbeats 2000000 in
theorem impl_lc (v : Value) (u : List Int) (w : World) (h : Lies (Value.int .i64) w v u) (hs : u.length ≤ 1048576) :
    Calls Tryz.prog 12 #[v] w (Gives (Value.int .i64) 3 (lcV u) w) := by
  have HC := Lib.hid (impl_conj v u w h hs)
  have HCL := Lib.hid (fun (W : World) (hb : Below w.heap.size w W) => Digits.clone_lies v u W (h.below hb) hs)
  obtain ⟨_, a, ca, rfl, _, _⟩ := id h
  clear h
  obtain ⟨L, hL⟩ : ∃ L, conjV u = L := ⟨_, rfl⟩
  rw [hL] at HC
  cases L with
  | nil =>
    rw [conjV_none hL]
    clear hL
    go_enter Tryz.func12, Tryz.ntmps12
    go_wp2_with fail
    refine HC.out.mono ?_
    rintro e W1 ⟨v1, us, rfl, ho, b1⟩
    have hlen := ho.rows.len
    obtain ⟨a1, c1, rfl, _⟩ := ho.top.form
    rw [hlen]
    have HB1 := Lib.hid b1
    clear ho hlen b1 HC
    go_wp2_with fail
    refine (HCL.out _ HB1.out).mono ?_
    rintro e W2 ⟨v2, rfl, hv2, b2⟩
    have HV2 := Lib.hid (hv2.mono HB1.out.size)
    have HB2 := Lib.hid (HB1.out.trans (b2.mono HB1.out.size))
    clear hv2 b2
    go_wp2
    go_ret
    exact ⟨_, rfl, HV2.out, HB2.out⟩
  | cons x l =>
    rw [lcV_head hL]
    clear hL
    go_enter Tryz.func12, Tryz.ntmps12
    go_wp2_with fail
    refine HC.out.mono ?_
    rintro e W1 ⟨v1, us, rfl, ho, b1⟩
    have hlen := ho.rows.len
    obtain ⟨uu, huu⟩ : ∃ uu, us[0]? = some uu := ⟨_, List.getElem?_eq_getElem (by rw [hlen]; simp)⟩
    have hsm := ho.top.small
    obtain ⟨a1, c1, rfl, _⟩ := ho.top.form
    obtain ⟨g, o, rfl, hcell⟩ := lies_at (enc := id) ho.top.lies huu
    have hr := ho.rows.row 0 uu x huu rfl
    obtain ⟨ea, ec, rfl⟩ := hr.form
    have HR := Lib.hid hr.has
    have HB1 := Lib.hid b1
    rw [hlen, List.length_cons] at hsm ⊢
    have hcell2 : W1.cell? ⟨g, o, none⟩ = some (.slice ea x.length ec) := hcell
    clear ho hlen huu hcell hr b1 HC
    obtain ⟨m, hm⟩ : ∃ m, m = l.length + 1 := ⟨_, rfl⟩
    rw [← hm] at hsm ⊢
    have hm0 : 0 < m := by omega
    have hmd : ((m : Int) == 0) = false := by simp; omega
    clear hm
    go_wp2
    go_ret
    exact ⟨_, rfl, HR.out, HB1.out⟩
end Lynd
end Go.Proofs.YtfpdikohlafpiaaGreat
/- Contracts of the model's l11Word and LyndonWords. No conditions beyond those that each states. -/
namespace Go.Proofs.YtfpdikohlafpiaaGreat
open Go.ChangeShapes Go.WideShapes Go.ChangeAt Go.RowKit
open Go.PlainAid Plain
set_option linter.unusedVariables false
namespace Lynd
open Fac Seqs
theorem wd_step {a n m c d : Nat} {suf : List Int} (h : wd a n c = wd a (m + 1) d ++ suf) : wd a n c = wd a m (d / a) ++ (((d % a : Nat) : Int) :: suf) := by
  rw [h]
  show (wd a m (d / a) ++ [((d % a : Nat) : Int)]) ++ suf = _
  rw [List.append_assoc]
  rfl
theorem rep_set (m : Nat) (x : Int) (suf : List Int) : (List.replicate (m + 1) (0 : Int) ++ suf).set m x = List.replicate m 0 ++ (x :: suf) := by
  rw [List.replicate_succ', List.append_assoc, List.set_append_right _ _ (by simp)]
  simp
set_option maxRecDepth 100000 in
set_option maxHeartbeats 2000000 in
theorem spec_word (a n c : Nat) (w : World) (ha : 0 < a) (ha4 : a ≤ 4) (hn : n ≤ 8) (hc : c ≤ 1000000) :
    Calls Tryz.prog 43 #[.int .i64 a, .int .i64 n, .int .i64 c] w (Gives (Value.int .i64) 3 (wd a n c) w) := by
  obtain ⟨i0, hi, hz0, hz1, hz2⟩ := info_parts Ints.infoI
  go_enter Tryz.func43, Tryz.ntmps43
  go_upto_region 2 with (at_make; refine wpList_make_full w rfl _ _ 24 rfl w.heap.size 3 i0 (.int .i64 0) 1 Tryz.underlying24 hi hz0 hz1 .i64 .i64 _ _ n rfl rfl rfl rfl (by rw [hz2]; omega) (by unfold maxLen; omega) (Nat.le_refl _) ?_; intro w1 hown hgrow)
  have HO : Hid (Has (Value.int .i64) 3 w1 w.heap.size (.slice (some ⟨w.heap.size, 0, none⟩) n n) (List.replicate n 0 ++ [])) := by rw [List.append_nil]; exact Ints.made_has hown
  have HB := Lib.hid (below_of_grown hgrow)
  obtain ⟨g, hg⟩ : ∃ g, g = w.heap.size := ⟨_, rfl⟩
  have HG := Lib.hid hg
  rw [← hg] at HO ⊢
  clear hown hgrow hg
  go_wp2
  go_loopw [2, 8] (fun c' i' wr => ∃ (m d : Nat) (suf : List Int), m ≤ n ∧ d ≤ 1000000 ∧ c' = .int .i64 d ∧ i' = .int .i64 ((m : Int) - 1) ∧ Hid (n = m + suf.length) ∧ Hid (wd a n c = wd a m d ++ suf) ∧ Hid (Has (Value.int .i64) 3 wr g (.slice (some ⟨g, 0, none⟩) n n) (List.replicate m 0 ++ suf)) ∧ Hid (Below w.heap.size w wr)) (fun _ i' _ => (intOf i' + 1).toNat)
  case atStart => exact ⟨n, c, [], Nat.le_refl _, hc, rfl, by go_num, rfl, (List.append_nil _).symm, HO, HB⟩
  case round =>
    clear HO HB
    obtain ⟨m, d, suf, hm, hd, rfl, rfl, HN, HW, HO, HB⟩ := hrel
    by_cases h0 : 0 < m
    · obtain ⟨j, rfl⟩ : ∃ j, m = j + 1 := ⟨m - 1, by omega⟩
      have hjn : j < n := by omega
      have hln : n = (List.replicate (j + 1) (0 : Int) ++ suf).length := by rw [List.length_append, List.length_replicate]; exact HN.out
      have HS := Lib.hid (wd_step HW.out)
      obtain ⟨_, _, ha2, c1⟩ := lies_at (enc := (Value.int .i64)) HO.out.lies (i := j) (x := 0) (by rw [List.getElem?_append_left (by simp)]; simp)
      injection ha2 with ha2
      injection ha2 with e1 e2
      subst e1; subst e2
      rw [Nat.zero_add] at c1
      have f1 := has_frozen HO.out hln j
      have hst := has_store HO.out hln j ((d % a : Nat) : Int)
      rw [rep_set] at hst
      obtain ⟨r, hr⟩ : ∃ r, r = d % a := ⟨_, rfl⟩
      obtain ⟨q, hq⟩ : ∃ q, q = d / a := ⟨_, rfl⟩
      have hqd : q ≤ d := by rw [hq]; exact Nat.div_le_self _ _
      have e3 : (d : Int) % (a : Int) = (r : Int) := by rw [hr]; rfl
      have e4 : (d : Int).tmod (a : Int) = (r : Int) := by rw [hr]; rfl
      have e5 : (d : Int) / (a : Int) = (q : Int) := by rw [hq]; rfl
      have e6 : (d : Int).tdiv (a : Int) = (q : Int) := by rw [hq]; rfl
      rw [← hr] at hst HS
      rw [← hq] at HS
      have HST := Lib.hid hst.1
      have hgw := (HO.out.lt g rfl).1
      have HB2 := Lib.hid (HB.out.grown hst.2 HB.out.size (fun k hk => by cases hk; rw [HG.out]; exact Nat.le_refl _))
      have HN2 : Hid (n = j + ((r : Int) :: suf).length) := by show _ = _; rw [List.length_cons]; have := HN.out; omega
      have hj1 : ((j + 1 : Nat) : Int) - 1 = (j : Int) := by omega
      clear hst hr hq hln hgw
      go_wp2
      go_roundw
      case rel => exact ⟨j, q, _, by omega, by omega, rfl, by go_num, HN2, HS, HST, HB2⟩
      case measure => simp [intOf]
    · obtain rfl : m = 0 := by omega
      have HE : Hid (suf = wd a n c) := by have := HW.out; rw [show wd a 0 d = [] from rfl, List.nil_append] at this; exact this.symm
      have HOE : Hid (Has (Value.int .i64) 3 wr w.heap.size (.slice (some ⟨g, 0, none⟩) n n) (wd a n c)) := by
        have := HO.out
        rw [List.replicate_zero, List.nil_append, HE.out] at this
        rw [← HG.out]
        exact this
      go_wp2
      go_ret
      exact ⟨_, rfl, HOE.out, HB.out⟩
theorem lw_no {a n : Int} {w w' : World} {v : Value} (h : lwK a n = false) (ho : OwnV w' w.heap.size w'.heap.size v []) (hb : Below w.heap.size w w') : GivesVK (lwV a n) (lwK a n) w (.returned (.tuple #[v, .bool false])) w' := by
  have e : lwV a n = [] := by unfold lwV; rw [if_neg (by rw [h]; simp)]
  rw [e, h]
  exact ⟨v, rfl, ho, hb⟩
theorem lw_yes {a n : Nat} {w w' : World} {v : Value} (h : lwK a n = true) (ho : OwnV w' w.heap.size w'.heap.size v (lynW a n)) (hb : Below w.heap.size w w') : GivesVK (lwV a n) (lwK a n) w (.returned (.tuple #[v, .bool true])) w' := by
  have e : lwV a n = lynW a n := by unfold lwV; rw [if_pos h]; rfl
  rw [e, h]
  exact ⟨v, rfl, ho, hb⟩
set_option maxRecDepth 100000 in
set_option maxHeartbeats 4000000 in
theorem spec_lw (a n : Int) (w : World) :
    Calls Tryz.prog 19 #[.int .i64 a, .int .i64 n] w (GivesVK (lwV a n) (lwK a n) w) := by
  obtain ⟨j0, hj, hy0, hy1, hy2⟩ := info_parts infoR'
  have HB : Hid (Below w.heap.size w (w.alloc (Obj.cells #[] 24))) := (Below.refl _ _).alloc (Nat.le_refl _) _
  have HO : Hid (RowsV (w.alloc (Obj.cells #[] 24)) w.heap.size w.heap.size (.slice (some ⟨w.heap.size, 0, none⟩) 0 0) []) := RowsV.nil (has_lit0 (enc := id) rfl (Nat.le_refl _))
  by_cases h : 1 ≤ a ∧ a ≤ 4 ∧ 1 ≤ n ∧ n ≤ 8
  · obtain ⟨x, hx⟩ : ∃ x : Nat, a = x := ⟨a.toNat, by omega⟩
    obtain ⟨m, hm⟩ : ∃ m : Nat, n = m := ⟨n.toNat, by omega⟩
    subst hx; subst hm
    have ha0 : 0 < x := by omega
    have ha4 : x ≤ 4 := by omega
    have hm8 : m ≤ 8 := by omega
    have ha1 : 1 ≤ (x : Int) := by omega
    have ha2 : (x : Int) ≤ 4 := by omega
    have hn1 : 1 ≤ (m : Int) := by omega
    have hn2 : (m : Int) ≤ 8 := by omega
    have hpt := pow_top (i := m) ha4 (show m ≤ 20 by omega) (Nat.le_refl _)
    have HCP := Lib.hid (fun W => spec_pw x m W ha4 (by omega))
    have hkk : lwK (x : Int) (m : Int) = decide (x ^ m ≤ 300) := by unfold lwK; rw [decide_eq_true h, Bool.true_and]; rfl
    obtain ⟨P, hP⟩ : ∃ P, P = x ^ m := ⟨_, rfl⟩
    rw [← hP] at hpt HCP hkk
    have HPP := Lib.hid hP
    clear h hP
    by_cases h3 : P ≤ 300
    · have HK : Hid (lwK (x : Int) (m : Int) = true) := by show _ = _; rw [hkk, decide_eq_true h3]
      have hd3 := decide_eq_false (show ¬ (P : Int) > 300 by omega)
      clear hkk
      go_enter Tryz.func19, Tryz.ntmps19
      go_wp2_with (first | (go_at_call 41; first | (with_reducible refine (l1In_yes (x : Int) _ _ _ ha1 ha2).mono ?_; rintro e w' ⟨rfl, rfl⟩) | (with_reducible refine (l1In_yes (m : Int) _ _ _ hn1 hn2).mono ?_; rintro e w' ⟨rfl, rfl⟩)) | (go_at_call 42; refine (HCP.out _).mono ?_; rintro e w5 ⟨rfl, rfl⟩))
      go_loopw [6, 7, 8] (fun o' c' x' wr => ∃ (c : Nat) (vo : Value) (L : List (List Int)), c ≤ P ∧ c' = .int .i64 c ∧ vo = o' ∧ Hid (L = ((allW x m).take c).filter lyB) ∧ L.length ≤ c ∧ Hid (RowsV wr w.heap.size w.heap.size vo L) ∧ Hid (Below w.heap.size w wr)) (fun _ c' _ _ => P - (intOf c').toNat)
      case atStart => exact ⟨0, _, [], Nat.zero_le _, rfl, rfl, rfl, by simp, HO, HB⟩
      case round =>
        clear HO HB
        obtain ⟨c, vo, L, hc, rfl, rfl, HL, hll, HO, HB⟩ := hrel
        obtain ⟨va, vc, hvo⟩ := HO.out.form
        subst hvo
        by_cases hlt : c < P
        · have HW := Lib.hid (spec_word x m c wr ha0 ha4 hm8 (by omega))
          have hnx := lynW_take (a := x) (n := m) (c := c) (by rw [← HPP.out]; exact hlt)
          obtain ⟨X, hX⟩ : ∃ X, X = wd x m c := ⟨_, rfl⟩
          rw [← hX] at HW hnx
          rw [← HL.out] at hnx
          have HNX := Lib.hid hnx
          have hlt2 : (c : Int) < (P : Int) := by omega
          obtain ⟨b, hb⟩ : ∃ b, b = lyB X := ⟨_, rfl⟩
          rw [← hb] at HNX
          have HBB := Lib.hid hb
          clear hnx hX hb
          go_wp2_with (go_at_call 42; refine (HCP.out _).mono ?_; rintro e w5 ⟨rfl, rfl⟩)
          refine HW.out.mono ?_
          rintro e W4 ⟨v4, rfl, h4, b4⟩
          have HLY := Lib.hid (spec_lyn v4 X W4 (LiesC.of_has h4))
          obtain ⟨xa, xc, hx4, _⟩ := h4.form
          have HV4 := Lib.hid (h4.mono HB.out.size)
          have HB4 := Lib.hid (HB.out.trans (b4.mono HB.out.size))
          have HO4 := Lib.hid (HO.out.below b4)
          rw [← HBB.out] at HLY
          subst hx4
          clear h4 b4 HW
          go_wp2_with fail
          refine HLY.out.mono ?_
          rintro e W5 ⟨rfl, b5⟩
          have HV5 := Lib.hid (HV4.out.below b5)
          have HB5 := Lib.hid (HB4.out.trans (b5.mono HB4.out.size))
          have HO5 := Lib.hid (HO4.out.below b5)
          have HL5 := Lib.hid HB5.out.size
          clear b5 HLY HV4 HB4 HO4 HBB
          cases b with
          | false =>
            have HN2 : Hid (L = ((allW x m).take (c + 1)).filter lyB) := by have := HNX.out; show _ = _; simpa using this.symm
            go_wp2
            go_roundw
            case rel => exact ⟨c + 1, _, L, by omega, by go_num, rfl, HN2, by omega, HO5, HB5⟩
            case measure => simp [intOf]; omega
          | true =>
            have HN2 : Hid (L ++ [X] = ((allW x m).take (c + 1)).filter lyB) := by have := HNX.out; show _ = _; simpa using this.symm
            have hrl : L.length ≤ 10000000 := by omega
            go_wp2_with (refine wpList_append_rowV rfl _ _ 26 rfl j0 Tryz.underlying26 hj hy0 hy1 hy2 _ rfl HO5.out _ X HV5.out _ rfl rfl hrl HL5.out ?_; intro v6 w6 ho6 hg6; have HO6 := Lib.hid ho6; have HB6 := Lib.hid (HO5.out.frame HB5.out (Nat.le_refl _) hg6); clear ho6 hg6)
            go_roundw
            case rel => exact ⟨c + 1, _, _, by omega, by go_num, rfl, HN2, by rw [List.length_append]; simp; omega, HO6, HB6⟩
            case measure => simp [intOf]; omega
        · have hlt2 : ¬ (c : Int) < (P : Int) := by omega
          have HE : Hid (L = lynW x m) := by
            show _ = _
            rw [HL.out, List.take_of_length_le (by rw [allW_len, ← HPP.out]; omega)]
            rfl
          go_wp2_with (go_at_call 42; refine (HCP.out _).mono ?_; rintro e w5 ⟨rfl, rfl⟩)
          go_ret2
          exact lw_yes HK.out (by rw [← HE.out]; exact HO.out.own) HB.out
    · have HK : Hid (lwK (x : Int) (m : Int) = false) := by show _ = _; rw [hkk, decide_eq_false h3]
      have hd3 := decide_eq_true (show (P : Int) > 300 by omega)
      clear hkk
      go_enter Tryz.func19, Tryz.ntmps19
      go_wp2_with (first | (go_at_call 41; first | (with_reducible refine (l1In_yes (x : Int) _ _ _ ha1 ha2).mono ?_; rintro e w' ⟨rfl, rfl⟩) | (with_reducible refine (l1In_yes (m : Int) _ _ _ hn1 hn2).mono ?_; rintro e w' ⟨rfl, rfl⟩)) | (go_at_call 42; refine (HCP.out _).mono ?_; rintro e w5 ⟨rfl, rfl⟩))
      go_ret2
      exact lw_no HK.out HO.out.own HB.out
  · have HK : Hid (lwK a n = false) := by show _ = _; unfold lwK; rw [decide_eq_false h, Bool.false_and]
    by_cases h1 : 1 ≤ a ∧ a ≤ 4
    · have h2 : n < 1 ∨ 8 < n := by omega
      have h3 := h1.1
      have h4 := h1.2
      clear h h1
      go_enter Tryz.func19, Tryz.ntmps19
      go_wp2_with (go_at_call 41; first | (with_reducible refine (l1In_yes a _ _ _ h3 h4).mono ?_; rintro e w' ⟨rfl, rfl⟩) | (with_reducible refine (l1In_no n _ _ _ h2).mono ?_; rintro e w' ⟨rfl, rfl⟩))
      go_ret2
      exact lw_no HK.out HO.out.own HB.out
    · have h2 : a < 1 ∨ 4 < a := by omega
      clear h h1
      go_enter Tryz.func19, Tryz.ntmps19
      go_wp2_with (go_at_call 41; with_reducible refine (l1In_no a _ _ _ h2).mono ?_; rintro e w' ⟨rfl, rfl⟩)
      go_ret2
      exact lw_no HK.out HO.out.own HB.out
end Lynd
end Go.Proofs.YtfpdikohlafpiaaGreat
/- Contracts of the program's isRightSpecial and RightSpecial, and of the library's IndexFunc and DeleteFunc at its closure. No conditions beyond those that each states. -/
namespace Go.Proofs.YtfpdikohlafpiaaGreat
open Go.ChangeShapes Go.WideShapes Go.ChangeAt Go.RowKit
open Go.PlainAid Plain
set_option linter.unusedVariables false
namespace Fac
open Seqs
theorem occ_nat' {xs ys : List Int} {k : Nat} (h : k < (occ xs ys).length) : ∃ p : Nat, (occ xs ys)[k]? = some (p : Int) ∧ p + ys.length ≤ xs.length := by
  obtain ⟨x, hx⟩ : ∃ x, (occ xs ys)[k]? = some x := ⟨_, List.getElem?_eq_getElem h⟩
  have h1 := occ_at hx
  refine ⟨x.toNat, ?_, by omega⟩
  rw [hx]; congr 1; omega
/-- Slices of ints of the call's own, with their numbers, no two in one block. -/
structure FamP (w : World) (lo hi : Nat) (ps : List (Value × List Int)) : Prop where
  own : ∀ p ∈ ps, OwnI w lo hi p.1 p.2
  apart : ps.Pairwise fun p q => p.1.ownBlock = none ∨ p.1.ownBlock ≠ q.1.ownBlock
theorem FamP.below {w w' : World} {lo hi : Nat} {ps : List (Value × List Int)} (h : FamP w lo hi ps) (hb : Below w.heap.size w w') : FamP w' lo hi ps := ⟨fun p hp => (h.own p hp).below hb, h.apart⟩
theorem FamP.filter {w : World} {lo hi : Nat} {ps : List (Value × List Int)} (h : FamP w lo hi ps) (f : Value × List Int → Bool) : FamP w lo hi (ps.filter f) := ⟨fun p hp => h.own p (List.mem_filter.1 hp).1, h.apart.filter f⟩
theorem FamP.set {w : World} {lo hi g : Nat} {ps : List (Value × List Int)} (h : FamP w lo hi ps) (hg : ∀ p ∈ ps, p.1.ownBlock ≠ some g) (j : Nat) (x : Value) : FamP (w.setCell ⟨g, j, none⟩ x) lo hi ps := ⟨fun p hp => (h.own p hp).set (a := ⟨g, j, none⟩) (hg p hp) x, h.apart⟩
theorem FamP.grown {w w' : World} {lo hi g : Nat} {ps : List (Value × List Int)} (h : FamP w lo hi ps) (hg : ∀ p ∈ ps, p.1.ownBlock ≠ some g) (hw : w.grownBy w' (some g)) : FamP w' lo hi ps :=
  ⟨fun p hp => ⟨(h.own p hp).has.grown hw (by
    cases hb : p.1.ownBlock with
    | none => exact .inl rfl
    | some k => exact .inr (by rw [← hb]; exact hg p hp)), (h.own p hp).lt, Nat.le_trans (h.own p hp).le hw.size⟩, h.apart⟩
theorem FamP.rows {w : World} {lo hi : Nat} {ps : List (Value × List Int)} (h : FamP w lo hi ps) : OwnRows w lo hi (ps.map Prod.fst) (ps.map Prod.snd) := by
  refine ⟨by simp, fun i u r hu hr => ?_, fun i j u u' hu hu' hij => ?_⟩
  · rw [List.getElem?_map, Option.map_eq_some_iff] at hu hr
    obtain ⟨p, hp, rfl⟩ := hu
    obtain ⟨q, hq, rfl⟩ := hr
    obtain rfl := Option.some.inj (hp.symm.trans hq)
    exact h.own p (List.mem_of_getElem? hp)
  · rw [List.getElem?_map, Option.map_eq_some_iff] at hu hu'
    obtain ⟨p, hp, rfl⟩ := hu
    obtain ⟨q, hq, rfl⟩ := hu'
    obtain ⟨h1, rfl⟩ := List.getElem?_eq_some_iff.1 hp
    obtain ⟨h2, rfl⟩ := List.getElem?_eq_some_iff.1 hq
    rcases Nat.lt_or_gt_of_ne hij with hl | hl
    · exact List.pairwise_iff_getElem.1 h.apart i j h1 h2 hl
    · have := List.pairwise_iff_getElem.1 h.apart j i h2 h1 hl
      cases hb : (ps[i]).1.ownBlock with
      | none => exact .inl rfl
      | some k =>
        refine .inr fun e => ?_
        rcases this with h5 | h5
        · rw [h5] at e; cases e
        · exact h5 (by rw [← e, hb])
theorem FamP.of_rows {w : World} {lo hi : Nat} {us : List Value} {rows : List (List Int)} (h : OwnRows w lo hi us rows) : FamP w lo hi (us.zip rows) := by
  refine ⟨fun p hp => ?_, List.pairwise_iff_getElem.2 fun i j hi hj hij => ?_⟩
  · obtain ⟨i, hi⟩ := List.getElem?_of_mem hp
    rw [List.getElem?_zip_eq_some] at hi
    exact h.row i _ _ hi.1 hi.2
  · have h1 : i < us.length := by rw [List.length_zip] at hi; omega
    have h2 : j < us.length := by rw [List.length_zip] at hj; omega
    have := h.apart i j _ _ (List.getElem?_eq_getElem h1) (List.getElem?_eq_getElem h2) (by omega)
    simpa using this
/-- What IndexFunc finds: the first of the slices that goes, or none. -/
def IdxR (ps : List (Value × List Int)) (xs : List Int) (r : Int) : Prop := (r = -1 ∧ ∀ p ∈ ps, rsB xs p.2 = true) ∨ ∃ i : Nat, r = i ∧ i < ps.length ∧ (∀ p ∈ ps.take i, rsB xs p.2 = true) ∧ ∀ p, ps[i]? = some p → rsB xs p.2 = false
def IdxE (ps : List (Value × List Int)) (xs : List Int) (w : World) (e : Ending) (w' : World) : Prop := ∃ r : Int, e = .returned (.int .i64 r) ∧ IdxR ps xs r ∧ Below w.heap.size w w'
theorem top_at {w : World} {lo n c : Nat} {a : Option Addr} {ps : List (Value × List Int)} {M : List Value} {i : Nat} {y : Value} (h : Has id 24 w lo (.slice a n c) M) (hy : M[i]? = some y) : ∃ g, a = some ⟨g, 0, none⟩ ∧ w.cell? ⟨g, i, none⟩ = some y := by
  obtain ⟨p, o, ha, hc⟩ := lies_at (enc := id) h.lies hy
  obtain ⟨a', c', hv, hg⟩ := h.form
  injection hv with e1 e2 e3
  obtain ⟨g, hg⟩ := hg (by have := (List.getElem?_eq_some_iff.1 hy).1; omega)
  rw [e1, hg] at ha
  injection ha with ha
  injection ha with h1 h2
  subst h1; subst h2
  rw [Nat.zero_add] at hc
  exact ⟨g, by rw [e1, hg], hc⟩
end Fac
end Go.Proofs.YtfpdikohlafpiaaGreat
