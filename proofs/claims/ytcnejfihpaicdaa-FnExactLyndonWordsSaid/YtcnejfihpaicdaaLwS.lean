/- Contracts of the model's l11Word and LyndonWords. No conditions beyond those that each states. -/
import Derived.Test.YtcnejfihpaicdaaLynC2
import Derived.Test.YtcnejfihpaicdaaLynS
import Derived.Test.YtcnejfihpaicdaaDiffI
namespace Go.Proofs.Ytcnejfihpaicdaa
open Go.ChangeShapes Go.WideShapes Go.ChangeAt Go.RowKit
open Go.PlainAid Plain
set_option linter.unusedVariables false
namespace Lynd
open Fac Seqs
theorem wd_step {a n m c d : Nat} {suf : List Int} (h : wd a n c = wd a (m + 1) d ++ suf) : wd a n c = wd a m (d / a) ++ (((d % a : Nat) : Int) :: suf) := by
  rw [h]
  show (wd a m (d / a) ++ [((d % a : Nat) : Int)]) ++ suf = _
  rw [List.append_assoc]
  rfl
theorem rep_set (m : Nat) (x : Int) (suf : List Int) : (List.replicate (m + 1) (0 : Int) ++ suf).set m x = List.replicate m 0 ++ (x :: suf) := by
  rw [List.replicate_succ', List.append_assoc, List.set_append_right _ _ (by simp)]
  simp
set_option maxRecDepth 100000 in
set_option maxHeartbeats 2000000 in
theorem spec_word (a n c : Nat) (w : World) (ha : 0 < a) (ha4 : a ≤ 4) (hn : n ≤ 8) (hc : c ≤ 1000000) :
    Calls Try.prog 43 #[.int .i64 a, .int .i64 n, .int .i64 c] w (Gives (Value.int .i64) 3 (wd a n c) w) := by
  obtain ⟨i0, hi, hz0, hz1, hz2⟩ := info_parts Ints.infoI
  go_enter Try.func43, Try.ntmps43
  go_upto_region 2 with (at_make; refine wpList_make_full w rfl _ _ 22 rfl w.heap.size 3 i0 (.int .i64 0) 1 Try.underlying22 hi hz0 hz1 .i64 .i64 _ _ n rfl rfl rfl rfl (by rw [hz2]; omega) (by unfold maxLen; omega) (Nat.le_refl _) ?_; intro w1 hown hgrow)
  have HO : Hid (Has (Value.int .i64) 3 w1 w.heap.size (.slice (some ⟨w.heap.size, 0, none⟩) n n) (List.replicate n 0 ++ [])) := by rw [List.append_nil]; exact Ints.made_has hown
  have HB := Lib.hid (below_of_grown hgrow)
  obtain ⟨g, hg⟩ : ∃ g, g = w.heap.size := ⟨_, rfl⟩
  have HG := Lib.hid hg
  rw [← hg] at HO ⊢
  clear hown hgrow hg
  go_wp2
  go_loopw [2, 8] (fun c' i' wr => ∃ (m d : Nat) (suf : List Int), m ≤ n ∧ d ≤ 1000000 ∧ c' = .int .i64 d ∧ i' = .int .i64 ((m : Int) - 1) ∧ Hid (n = m + suf.length) ∧ Hid (wd a n c = wd a m d ++ suf) ∧ Hid (Has (Value.int .i64) 3 wr g (.slice (some ⟨g, 0, none⟩) n n) (List.replicate m 0 ++ suf)) ∧ Hid (Below w.heap.size w wr)) (fun _ i' _ => (intOf i' + 1).toNat)
  case atStart => exact ⟨n, c, [], Nat.le_refl _, hc, rfl, by go_num, rfl, (List.append_nil _).symm, HO, HB⟩
  case round =>
    clear HO HB
    obtain ⟨m, d, suf, hm, hd, rfl, rfl, HN, HW, HO, HB⟩ := hrel
    by_cases h0 : 0 < m
    · obtain ⟨j, rfl⟩ : ∃ j, m = j + 1 := ⟨m - 1, by omega⟩
      have hjn : j < n := by omega
      have hln : n = (List.replicate (j + 1) (0 : Int) ++ suf).length := by rw [List.length_append, List.length_replicate]; exact HN.out
      have HS := Lib.hid (wd_step HW.out)
      obtain ⟨_, _, ha2, c1⟩ := lies_at (enc := (Value.int .i64)) HO.out.lies (i := j) (x := 0) (by rw [List.getElem?_append_left (by simp)]; simp)
      injection ha2 with ha2
      injection ha2 with e1 e2
      subst e1; subst e2
      rw [Nat.zero_add] at c1
      have f1 := has_frozen HO.out hln j
      have hst := has_store HO.out hln j ((d % a : Nat) : Int)
      rw [rep_set] at hst
      obtain ⟨r, hr⟩ : ∃ r, r = d % a := ⟨_, rfl⟩
      obtain ⟨q, hq⟩ : ∃ q, q = d / a := ⟨_, rfl⟩
      have hqd : q ≤ d := by rw [hq]; exact Nat.div_le_self _ _
      have e3 : (d : Int) % (a : Int) = (r : Int) := by rw [hr]; rfl
      have e4 : (d : Int).tmod (a : Int) = (r : Int) := by rw [hr]; rfl
      have e5 : (d : Int) / (a : Int) = (q : Int) := by rw [hq]; rfl
      have e6 : (d : Int).tdiv (a : Int) = (q : Int) := by rw [hq]; rfl
      rw [← hr] at hst HS
      rw [← hq] at HS
      have HST := Lib.hid hst.1
      have hgw := (HO.out.lt g rfl).1
      have HB2 := Lib.hid (HB.out.grown hst.2 HB.out.size (fun k hk => by cases hk; rw [HG.out]; exact Nat.le_refl _))
      have HN2 : Hid (n = j + ((r : Int) :: suf).length) := by show _ = _; rw [List.length_cons]; have := HN.out; omega
      have hj1 : ((j + 1 : Nat) : Int) - 1 = (j : Int) := by omega
      clear hst hr hq hln hgw
      go_wp2
      go_roundw
      case rel => exact ⟨j, q, _, by omega, by omega, rfl, by go_num, HN2, HS, HST, HB2⟩
      case measure => simp [intOf]
    · obtain rfl : m = 0 := by omega
      have HE : Hid (suf = wd a n c) := by have := HW.out; rw [show wd a 0 d = [] from rfl, List.nil_append] at this; exact this.symm
      have HOE : Hid (Has (Value.int .i64) 3 wr w.heap.size (.slice (some ⟨g, 0, none⟩) n n) (wd a n c)) := by
        have := HO.out
        rw [List.replicate_zero, List.nil_append, HE.out] at this
        rw [← HG.out]
        exact this
      go_wp2
      go_ret
      exact ⟨_, rfl, HOE.out, HB.out⟩
theorem lw_no {a n : Int} {w w' : World} {v : Value} (h : lwK a n = false) (ho : OwnV w' w.heap.size w'.heap.size v []) (hb : Below w.heap.size w w') : GivesVK (lwV a n) (lwK a n) w (.returned (.tuple #[v, .bool false])) w' := by
  have e : lwV a n = [] := by unfold lwV; rw [if_neg (by rw [h]; simp)]
  rw [e, h]
  exact ⟨v, rfl, ho, hb⟩
theorem lw_yes {a n : Nat} {w w' : World} {v : Value} (h : lwK a n = true) (ho : OwnV w' w.heap.size w'.heap.size v (lynW a n)) (hb : Below w.heap.size w w') : GivesVK (lwV a n) (lwK a n) w (.returned (.tuple #[v, .bool true])) w' := by
  have e : lwV a n = lynW a n := by unfold lwV; rw [if_pos h]; rfl
  rw [e, h]
  exact ⟨v, rfl, ho, hb⟩
set_option maxRecDepth 100000 in
set_option maxHeartbeats 4000000 in
theorem spec_lw (a n : Int) (w : World) :
    Calls Try.prog 26 #[.int .i64 a, .int .i64 n] w (GivesVK (lwV a n) (lwK a n) w) := by
  obtain ⟨j0, hj, hy0, hy1, hy2⟩ := info_parts infoR'
  have HB : Hid (Below w.heap.size w (w.alloc (Obj.cells #[] 22))) := (Below.refl _ _).alloc (Nat.le_refl _) _
  have HO : Hid (RowsV (w.alloc (Obj.cells #[] 22)) w.heap.size w.heap.size (.slice (some ⟨w.heap.size, 0, none⟩) 0 0) []) := RowsV.nil (has_lit0 (enc := id) rfl (Nat.le_refl _))
  by_cases h : 1 ≤ a ∧ a ≤ 4 ∧ 1 ≤ n ∧ n ≤ 8
  · obtain ⟨x, hx⟩ : ∃ x : Nat, a = x := ⟨a.toNat, by omega⟩
    obtain ⟨m, hm⟩ : ∃ m : Nat, n = m := ⟨n.toNat, by omega⟩
    subst hx; subst hm
    have ha0 : 0 < x := by omega
    have ha4 : x ≤ 4 := by omega
    have hm8 : m ≤ 8 := by omega
    have ha1 : 1 ≤ (x : Int) := by omega
    have ha2 : (x : Int) ≤ 4 := by omega
    have hn1 : 1 ≤ (m : Int) := by omega
    have hn2 : (m : Int) ≤ 8 := by omega
    have hpt := pow_top (i := m) ha4 (show m ≤ 20 by omega) (Nat.le_refl _)
    have HCP := Lib.hid (fun W => spec_pw x m W ha4 (by omega))
    have hkk : lwK (x : Int) (m : Int) = decide (x ^ m ≤ 300) := by unfold lwK; rw [decide_eq_true h, Bool.true_and]; rfl
    obtain ⟨P, hP⟩ : ∃ P, P = x ^ m := ⟨_, rfl⟩
    rw [← hP] at hpt HCP hkk
    have HPP := Lib.hid hP
    clear h hP
    by_cases h3 : P ≤ 300
    · have HK : Hid (lwK (x : Int) (m : Int) = true) := by show _ = _; rw [hkk, decide_eq_true h3]
      have hd3 := decide_eq_false (show ¬ (P : Int) > 300 by omega)
      clear hkk
      go_enter Try.func26, Try.ntmps26
      go_wp2_with (first | (go_at_call 41; first | (with_reducible refine (l1In_yes (x : Int) _ _ _ ha1 ha2).mono ?_; rintro e w' ⟨rfl, rfl⟩) | (with_reducible refine (l1In_yes (m : Int) _ _ _ hn1 hn2).mono ?_; rintro e w' ⟨rfl, rfl⟩)) | (go_at_call 42; refine (HCP.out _).mono ?_; rintro e w5 ⟨rfl, rfl⟩))
      go_loopw [6, 7, 8] (fun o' c' x' wr => ∃ (c : Nat) (vo : Value) (L : List (List Int)), c ≤ P ∧ c' = .int .i64 c ∧ vo = o' ∧ Hid (L = ((allW x m).take c).filter lyB) ∧ L.length ≤ c ∧ Hid (RowsV wr w.heap.size w.heap.size vo L) ∧ Hid (Below w.heap.size w wr)) (fun _ c' _ _ => P - (intOf c').toNat)
      case atStart => exact ⟨0, _, [], Nat.zero_le _, rfl, rfl, rfl, by simp, HO, HB⟩
      case round =>
        clear HO HB
        obtain ⟨c, vo, L, hc, rfl, rfl, HL, hll, HO, HB⟩ := hrel
        obtain ⟨va, vc, hvo⟩ := HO.out.form
        subst hvo
        by_cases hlt : c < P
        · have HW := Lib.hid (spec_word x m c wr ha0 ha4 hm8 (by omega))
          have hnx := lynW_take (a := x) (n := m) (c := c) (by rw [← HPP.out]; exact hlt)
          obtain ⟨X, hX⟩ : ∃ X, X = wd x m c := ⟨_, rfl⟩
          rw [← hX] at HW hnx
          rw [← HL.out] at hnx
          have HNX := Lib.hid hnx
          have hlt2 : (c : Int) < (P : Int) := by omega
          obtain ⟨b, hb⟩ : ∃ b, b = lyB X := ⟨_, rfl⟩
          rw [← hb] at HNX
          have HBB := Lib.hid hb
          clear hnx hX hb
          go_wp2_with (go_at_call 42; refine (HCP.out _).mono ?_; rintro e w5 ⟨rfl, rfl⟩)
          refine HW.out.mono ?_
          rintro e W4 ⟨v4, rfl, h4, b4⟩
          have HLY := Lib.hid (spec_lyn v4 X W4 (LiesC.of_has h4))
          obtain ⟨xa, xc, hx4, _⟩ := h4.form
          have HV4 := Lib.hid (h4.mono HB.out.size)
          have HB4 := Lib.hid (HB.out.trans (b4.mono HB.out.size))
          have HO4 := Lib.hid (HO.out.below b4)
          rw [← HBB.out] at HLY
          subst hx4
          clear h4 b4 HW
          go_wp2_with fail
          refine HLY.out.mono ?_
          rintro e W5 ⟨rfl, b5⟩
          have HV5 := Lib.hid (HV4.out.below b5)
          have HB5 := Lib.hid (HB4.out.trans (b5.mono HB4.out.size))
          have HO5 := Lib.hid (HO4.out.below b5)
          have HL5 := Lib.hid HB5.out.size
          clear b5 HLY HV4 HB4 HO4 HBB
          cases b with
          | false =>
            have HN2 : Hid (L = ((allW x m).take (c + 1)).filter lyB) := by have := HNX.out; show _ = _; simpa using this.symm
            go_wp2
            go_roundw
            case rel => exact ⟨c + 1, _, L, by omega, by go_num, rfl, HN2, by omega, HO5, HB5⟩
            case measure => simp [intOf]; omega
          | true =>
            have HN2 : Hid (L ++ [X] = ((allW x m).take (c + 1)).filter lyB) := by have := HNX.out; show _ = _; simpa using this.symm
            have hrl : L.length ≤ 10000000 := by omega
            go_wp2_with (refine wpList_append_rowV rfl _ _ 26 rfl j0 Try.underlying26 hj hy0 hy1 hy2 _ rfl HO5.out _ X HV5.out _ rfl rfl hrl HL5.out ?_; intro v6 w6 ho6 hg6; have HO6 := Lib.hid ho6; have HB6 := Lib.hid (HO5.out.frame HB5.out (Nat.le_refl _) hg6); clear ho6 hg6)
            go_roundw
            case rel => exact ⟨c + 1, _, _, by omega, by go_num, rfl, HN2, by rw [List.length_append]; simp; omega, HO6, HB6⟩
            case measure => simp [intOf]; omega
        · have hlt2 : ¬ (c : Int) < (P : Int) := by omega
          have HE : Hid (L = lynW x m) := by
            show _ = _
            rw [HL.out, List.take_of_length_le (by rw [allW_len, ← HPP.out]; omega)]
            rfl
          go_wp2_with (go_at_call 42; refine (HCP.out _).mono ?_; rintro e w5 ⟨rfl, rfl⟩)
          go_ret2
          exact lw_yes HK.out (by rw [← HE.out]; exact HO.out.own) HB.out
    · have HK : Hid (lwK (x : Int) (m : Int) = false) := by show _ = _; rw [hkk, decide_eq_false h3]
      have hd3 := decide_eq_true (show (P : Int) > 300 by omega)
      clear hkk
      go_enter Try.func26, Try.ntmps26
      go_wp2_with (first | (go_at_call 41; first | (with_reducible refine (l1In_yes (x : Int) _ _ _ ha1 ha2).mono ?_; rintro e w' ⟨rfl, rfl⟩) | (with_reducible refine (l1In_yes (m : Int) _ _ _ hn1 hn2).mono ?_; rintro e w' ⟨rfl, rfl⟩)) | (go_at_call 42; refine (HCP.out _).mono ?_; rintro e w5 ⟨rfl, rfl⟩))
      go_ret2
      exact lw_no HK.out HO.out.own HB.out
  · have HK : Hid (lwK a n = false) := by show _ = _; unfold lwK; rw [decide_eq_false h, Bool.false_and]
    by_cases h1 : 1 ≤ a ∧ a ≤ 4
    · have h2 : n < 1 ∨ 8 < n := by omega
      have h3 := h1.1
      have h4 := h1.2
      clear h h1
      go_enter Try.func26, Try.ntmps26
      go_wp2_with (go_at_call 41; first | (with_reducible refine (l1In_yes a _ _ _ h3 h4).mono ?_; rintro e w' ⟨rfl, rfl⟩) | (with_reducible refine (l1In_no n _ _ _ h2).mono ?_; rintro e w' ⟨rfl, rfl⟩))
      go_ret2
      exact lw_no HK.out HO.out.own HB.out
    · have h2 : a < 1 ∨ 4 < a := by omega
      clear h h1
      go_enter Try.func26, Try.ntmps26
      go_wp2_with (go_at_call 41; with_reducible refine (l1In_no a _ _ _ h2).mono ?_; rintro e w' ⟨rfl, rfl⟩)
      go_ret2
      exact lw_no HK.out HO.out.own HB.out
end Lynd
end Go.Proofs.Ytcnejfihpaicdaa
