/- Contracts of ParseInt in the program and in the model: each returns the number it has read where the text is that number's numeral with at most nine digits, else 0 and false; what was in memory stays as it was. The program's asks that the library's table of powers of ten hold its numbers. -/
import Derived.Test.YtkplmhnhpkpppaaDoorRows
import Derived.WalkKit
import Derived.ProofKit
import Derived.OpenShut
import Derived.ShutString
import Derived.PlainAid
import Derived.Lib.Hide
import Derived.Lib.OthersKept
import Derived.Laws.RangeAny
import Derived.WalkSmall
import Derived.BigQuiet
import Derived.Test.YtkplmhnhpkpppaaDoorPlain
import Derived.Test.YtkplmhnhpkpppaaDoorKit
import Derived.Test.YtkplmhnhpkpppaaDoorParseVal
import Derived.Test.YtkplmhnhpkpppaaDoorIntFmt
import Derived.Test.YtkplmhnhpkpppaaDoorShelf
namespace Go.Proofs.YtkplmhnhpkpppaaDoor
open Go.ChangeShapes Go.WideShapes Go.ChangeAt Go.RowKit
open Go.ChangeMaps (open_string shut_string)
open Go.PlainAid Plain
set_option linter.unusedVariables false
namespace Parse
theorem ret_ib {a b : Int} {c d : Bool} (h : a = b) (k : c = d) : Ending.returned (.tuple #[.int .i64 a, .bool c]) = Ending.returned (.tuple #[.int .i64 b, .bool d]) := by rw [h, k]
/-- What ParseInt returns. -/
instance (s : ByteArray) : Decidable (SpecGood s) := by unfold SpecGood; infer_instance
def resV (s : ByteArray) : Int := if SpecGood s then sn s else 0
def resB (s : ByteArray) : Bool := decide (SpecGood s)
theorem res_yes {s : ByteArray} (h : SpecGood s) : resV s = sn s ∧ resB s = true := ⟨if_pos h, by simp [resB, h]⟩
theorem res_no {s : ByteArray} (h : ¬ SpecGood s) : resV s = 0 ∧ resB s = false := ⟨if_neg h, by simp [resB, h]⟩
theorem beq_str {a b : ByteArray} (h : a = b) : (a.toList == b.toList) = true := by rw [h]; simp
theorem bne_str {a b : ByteArray} (h : a ≠ b) : (a.toList == b.toList) = false := by
  rw [Lib.toList_data, Lib.toList_data]
  refine beq_eq_false_iff_ne.2 (fun e => h ?_)
  apply ByteArray.ext
  exact Array.toList_inj.1 e

set_option maxHeartbeats 4000000 in
theorem spec_any (s : ByteArray) (w : World) (hs : s.size ≤ maxLen) :
    Calls Tryd.prog 20 #[.string s] w fun e w' => e = .returned (.tuple #[.int .i64 (resV s), .bool (resB s)]) ∧ Below w.heap.size w w' := by
  unfold maxLen at hs
  have hbt := get_bt s
  go_enter Tryd.func20, Tryd.ntmps20
  go_wp2
  go_loop [4, 5, 6] (fun n' k' i' => ∃ i : Nat, i ≤ 11 ∧ i ≤ s.size ∧ i' = .int .i64 i ∧ n' = .int .i64 (pnl (bseg s 0 i)) ∧ k' = .int .i64 ((pkl (bseg s 0 i) : Nat) : Int)) (fun _ _ i' => 11 - (intOf i').toNat)
  case atStart => exact ⟨0, by omega, by omega, rfl, rfl, rfl⟩
  case round =>
    obtain ⟨i, hi11, his, rfl, rfl, rfl⟩ := hrel
    have hbd := pnl_bd (bseg s 0 i) i (bseg_length s i 0)
    have hpw := pow10_le i hi11
    have hp0 : 0 ≤ pnl (bseg s 0 i) := hbd.1
    have hp1 : pnl (bseg s 0 i) ≤ 100000000000 := by omega
    have hk1 : pkl (bseg s 0 i) ≤ 11 := by omega
    clear hbd hpw
    by_cases hgo : i < s.size ∧ i < 11
    · obtain ⟨hlt, hlt11⟩ := hgo
      have hsnoc := Lib.hid (show bseg s 0 (i + 1) = bseg s 0 i ++ [bt s i] from by rw [bseg_snoc, Nat.zero_add])
      have hb0 := bt_nonneg s i
      have hb1 := bt_le s i
      have hd1 : decide (i < s.size) = true := by simp [hlt]
      by_cases h48 : 48 ≤ bt s i
      · by_cases h57 : bt s i ≤ 57
        · have HD := Lib.hid (show isDig (bt s i) from ⟨h48, h57⟩)
          have hd48 : decide (48 ≤ bt s i) = true := by simp [h48]
          go_wp2
          go_round
          case rel => exact ⟨i + 1, by omega, by omega, by go_num, by rw [hsnoc.out, pnl_yes HD.out], by rw [hsnoc.out, pkl_yes HD.out]; go_num⟩
          case measure => simp [intOf]; omega
        · have HD := Lib.hid (show ¬ isDig (bt s i) from fun h => by unfold isDig at h; omega)
          have hd48 : decide (48 ≤ bt s i) = true := by simp [h48]
          go_wp2
          go_round
          case rel => exact ⟨i + 1, by omega, by omega, by go_num, by rw [hsnoc.out, pnl_no HD.out], by rw [hsnoc.out, pkl_no HD.out]⟩
          case measure => simp [intOf]; omega
      · have HD := Lib.hid (show ¬ isDig (bt s i) from fun h => by unfold isDig at h; omega)
        have hd48 : decide (48 ≤ bt s i) = false := by simp; omega
        go_wp2
        go_round
        case rel => exact ⟨i + 1, by omega, by omega, by go_num, by rw [hsnoc.out, pnl_no HD.out], by rw [hsnoc.out, pkl_no HD.out]⟩
        case measure => simp [intOf]; omega
    · have him : min s.size 11 = i := by omega
      obtain ⟨n, hn⟩ : ∃ n, n = pnl (bseg s 0 i) := ⟨_, rfl⟩
      obtain ⟨k, hk⟩ : ∃ k, k = pkl (bseg s 0 i) := ⟨_, rfl⟩
      have HK := Lib.hid (show sk s = k from by rw [hk, sk, him])
      have HN : Hid (sn s = if 0 < s.size ∧ bt s 0 = 45 then -n else n) := by
        show sn s = _
        rw [hn, sn, him]
      rw [← hn] at hp0 hp1 ⊢
      rw [← hk] at hk1 ⊢
      clear hn hk him
      by_cases hz : i < s.size
      · have hdi : decide (i < s.size) = true := by simp [hz]
        have hi1 : ¬ i < 11 := fun h => hgo ⟨hz, h⟩
        have hdj : decide (i < 11) = false := by simp; omega
        have hdl : decide (10 < s.size) = true := by simp; omega
        have hd1 : decide (0 < s.size) = true := by simp; omega
        have hlt0 : 0 < s.size := by omega
        have HR := Lib.hid (res_no (s := s) (fun h => by have h1 := h.2.1; omega))
        by_cases hmin : bt s 0 = 45
        · have hq1 : (bt s 0 == 45) = true := by simp [hmin]
          clear HN hmin
          by_cases hk9 : 9 < k
          · have hdk : decide (9 < k) = true := by simp [hk9]
            go_wp2
            go_ret2
            exact ⟨ret_ib HR.out.1.symm HR.out.2.symm, Below.refl _ _⟩
          · have hdk : decide (9 < k) = false := by simp; omega
            go_wp2
            go_ret2
            exact ⟨ret_ib HR.out.1.symm HR.out.2.symm, Below.refl _ _⟩
        · have hq1 : (bt s 0 == 45) = false := by simp [hmin]
          clear HN hmin
          by_cases hk9 : 9 < k
          · have hdk : decide (9 < k) = true := by simp [hk9]
            go_wp2
            go_ret2
            exact ⟨ret_ib HR.out.1.symm HR.out.2.symm, Below.refl _ _⟩
          · have hdk : decide (9 < k) = false := by simp; omega
            go_wp2
            go_ret2
            exact ⟨ret_ib HR.out.1.symm HR.out.2.symm, Below.refl _ _⟩
      · have hdi : decide (i < s.size) = false := by simp; omega
        by_cases hmin : 0 < s.size ∧ bt s 0 = 45
        · have hq1 : (bt s 0 == 45) = true := by simp [hmin.2]
          have hd1 : decide (0 < s.size) = true := by simp [hmin.1]
          have hlt0 : 0 < s.size := hmin.1
          have HM := Lib.hid (show sn s = -n from by rw [HN.out, if_pos hmin])
          clear HN hmin
          by_cases hk9 : 9 < k
          · have HR := Lib.hid (res_no (s := s) (fun h => by have h1 := h.1; rw [HK.out] at h1; omega))
            have hdk : decide (9 < k) = true := by simp [hk9]
            go_wp2
            go_ret2
            exact ⟨ret_ib HR.out.1.symm HR.out.2.symm, Below.refl _ _⟩
          · have hdk : decide (9 < k) = false := by simp; omega
            by_cases h10 : 10 < s.size
            · have HR := Lib.hid (res_no (s := s) (fun h => by have h1 := h.2.1; omega))
              have hdl : decide (10 < s.size) = true := by simp [h10]
              go_wp2
              go_ret2
              exact ⟨ret_ib HR.out.1.symm HR.out.2.symm, Below.refl _ _⟩
            · have hdl : decide (10 < s.size) = false := by simp; omega
              by_cases he : itoaS (-n) = s
              · have HR := Lib.hid (res_yes (s := s) ⟨by rw [HK.out]; omega, by omega, by rw [HM.out]; exact he⟩)
                have hq2 := beq_str he
                clear he
                go_wp2_with (go_at_call 19; refine (IntFmt.spec_any _ _ (by omega) (by omega)).mono ?_; rintro e w1 ⟨rfl, hb1⟩)
                go_ret2
                exact ⟨ret_ib (by rw [HR.out.1, HM.out]) HR.out.2.symm, hb1⟩
              · have HR := Lib.hid (res_no (s := s) (fun h => by have h1 := h.2.2; rw [HM.out] at h1; exact he h1))
                have hq2 := bne_str he
                clear he
                go_wp2_with (go_at_call 19; refine (IntFmt.spec_any _ _ (by omega) (by omega)).mono ?_; rintro e w1 ⟨rfl, hb1⟩)
                go_ret2
                exact ⟨ret_ib HR.out.1.symm HR.out.2.symm, hb1⟩
        · by_cases hlt0 : 0 < s.size
          · have hq1 : (bt s 0 == 45) = false := by
              have : bt s 0 ≠ 45 := fun h => hmin ⟨hlt0, h⟩
              simp [this]
            have hd1 : decide (0 < s.size) = true := by simp [hlt0]
            have HM := Lib.hid (show sn s = n from by rw [HN.out, if_neg hmin])
            clear HN hmin
            by_cases hk9 : 9 < k
            · have HR := Lib.hid (res_no (s := s) (fun h => by have h1 := h.1; rw [HK.out] at h1; omega))
              have hdk : decide (9 < k) = true := by simp [hk9]
              go_wp2
              go_ret2
              exact ⟨ret_ib HR.out.1.symm HR.out.2.symm, Below.refl _ _⟩
            · have hdk : decide (9 < k) = false := by simp; omega
              by_cases h10 : 10 < s.size
              · have HR := Lib.hid (res_no (s := s) (fun h => by have h1 := h.2.1; omega))
                have hdl : decide (10 < s.size) = true := by simp [h10]
                go_wp2
                go_ret2
                exact ⟨ret_ib HR.out.1.symm HR.out.2.symm, Below.refl _ _⟩
              · have hdl : decide (10 < s.size) = false := by simp; omega
                by_cases he : itoaS (n) = s
                · have HR := Lib.hid (res_yes (s := s) ⟨by rw [HK.out]; omega, by omega, by rw [HM.out]; exact he⟩)
                  have hq2 := beq_str he
                  clear he
                  go_wp2_with (go_at_call 19; refine (IntFmt.spec_any _ _ (by omega) (by omega)).mono ?_; rintro e w1 ⟨rfl, hb1⟩)
                  go_ret2
                  exact ⟨ret_ib (by rw [HR.out.1, HM.out]) HR.out.2.symm, hb1⟩
                · have HR := Lib.hid (res_no (s := s) (fun h => by have h1 := h.2.2; rw [HM.out] at h1; exact he h1))
                  have hq2 := bne_str he
                  clear he
                  go_wp2_with (go_at_call 19; refine (IntFmt.spec_any _ _ (by omega) (by omega)).mono ?_; rintro e w1 ⟨rfl, hb1⟩)
                  go_ret2
                  exact ⟨ret_ib HR.out.1.symm HR.out.2.symm, hb1⟩
          · have hd1 : decide (0 < s.size) = false := decide_eq_false hlt0
            have HM := Lib.hid (show sn s = n from by rw [HN.out, if_neg hmin])
            clear HN hmin
            by_cases hk9 : 9 < k
            · have HR := Lib.hid (res_no (s := s) (fun h => by have h1 := h.1; rw [HK.out] at h1; omega))
              have hdk : decide (9 < k) = true := by simp [hk9]
              go_wp2
              go_ret2
              exact ⟨ret_ib HR.out.1.symm HR.out.2.symm, Below.refl _ _⟩
            · have hdk : decide (9 < k) = false := by simp; omega
              by_cases h10 : 10 < s.size
              · exact absurd h10 (by omega)
              · have hdl : decide (10 < s.size) = false := by simp; omega
                by_cases he : itoaS (n) = s
                · have HR := Lib.hid (res_yes (s := s) ⟨by rw [HK.out]; omega, by omega, by rw [HM.out]; exact he⟩)
                  have hq2 := beq_str he
                  clear he
                  go_wp2_with (go_at_call 19; refine (IntFmt.spec_any _ _ (by omega) (by omega)).mono ?_; rintro e w1 ⟨rfl, hb1⟩)
                  go_ret2
                  exact ⟨ret_ib (by rw [HR.out.1, HM.out]) HR.out.2.symm, hb1⟩
                · have HR := Lib.hid (res_no (s := s) (fun h => by have h1 := h.2.2; rw [HM.out] at h1; exact he h1))
                  have hq2 := bne_str he
                  clear he
                  go_wp2_with (go_at_call 19; refine (IntFmt.spec_any _ _ (by omega) (by omega)).mono ?_; rintro e w1 ⟨rfl, hb1⟩)
                  go_ret2
                  exact ⟨ret_ib HR.out.1.symm HR.out.2.symm, hb1⟩
end Parse
end Go.Proofs.YtkplmhnhpkpppaaDoor
