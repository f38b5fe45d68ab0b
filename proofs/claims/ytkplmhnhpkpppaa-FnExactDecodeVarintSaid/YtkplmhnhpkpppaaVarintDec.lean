/- Contracts of DecodeVarint in the program and in the model: for every string within the form's reach both return what 'scan' finds. -/
import Derived.Test.YtkplmhnhpkpppaaRows
import Derived.WalkKit
import Derived.ProofKit
import Derived.OpenShut
import Derived.ShutString
import Derived.PlainAid
import Derived.Lib.Hide
import Derived.BigQuiet
import Derived.Deep.QuietTactic
import Derived.Deep.RegionWith
import Derived.Test.YtkplmhnhpkpppaaPlain
import Derived.Test.YtkplmhnhpkpppaaKit
import Derived.Test.YtkplmhnhpkpppaaCommon
import Derived.Test.YtkplmhnhpkpppaaVarintVal
import Derived.Test.YtkplmhnhpkpppaaVarintEnc
namespace Go.Proofs.Ytkplmhnhpkpppaa
open Go.ChangeShapes Go.WideShapes Go.ChangeAt Go.RowKit
open Go.ChangeMaps (open_string shut_string)
open Go.PlainAid Plain
set_option linter.unusedVariables false
namespace VarintDec

theorem ret_two {a b a' b' : Int} (h : a = a') (k : b = b') : Ending.returned (.tuple #[.int .i64 a, .int .i64 b]) = Ending.returned (.tuple #[.int .i64 a', .int .i64 b']) := by rw [h, k]

theorem impl_any (s : ByteArray) (w : World) (hs : s.size ≤ maxLen) :
    Calls Try.prog 16 #[.string s] w fun e w' => e = .returned (.tuple #[.int .i64 (scan s 7 0).1, .int .i64 (scan s 7 0).2]) ∧ w = w' := by
  unfold maxLen at hs
  have hbt := get_bt s
  go_enter Try.func16, Try.ntmps16
  go_wp2
  go_loop [4, 5] (fun n i => ∃ k : Nat, k ≤ 7 ∧ i = .int .i64 k ∧ n = .int .i64 (cvo s 0 k) ∧ Hid (scan s (7 - k) k = scan s 7 0)) (fun _ i => 7 - (intOf i).toNat)
  case atStart => exact ⟨0, by omega, rfl, rfl, rfl⟩
  case round =>
    obtain ⟨k, hk, rfl, rfl, hscan⟩ := hrel
    by_cases hlt : k < s.size
    · by_cases h7 : k < 7
      · have hp := cvo_small s 0 k (by omega)
        have hb0 := bt_nonneg s k
        have hb1 := bt_le s k
        have HN := Lib.hid (scan_at s k h7 hscan.out hlt)
        clear hscan
        by_cases hc : 128 ≤ bt s k
        · go_wp2
          go_round
          case rel => exact ⟨k + 1, by omega, by go_num, by rw [or_cvo s k h7], by rw [HN.out, if_pos hc]; rfl⟩
          case measure => simp [intOf]; omega
        · by_cases hz : 0 < k
          · by_cases hb : bt s k = 0
            · have HB := Lib.hid (show scan s 7 0 = (0, 0) from by rw [HN.out, if_neg hc, if_pos ⟨hz, hb⟩])
              have hbb : (bt s k == 0) = true := by simp [hb]
              have hkk : decide (0 < k) = true := by simp [hz]
              clear hb
              go_wp2
              go_ret2
              exact ⟨ret_two (by rw [HB.out]) (by rw [HB.out]), rfl⟩
            · have HB := Lib.hid (show scan s 7 0 = (cvo s 0 (k + 1), (k : Int) + 1) from by rw [HN.out, if_neg hc, if_neg (fun h => hb h.2)])
              have hbb : (bt s k == 0) = false := by simp [hb]
              have hkk : decide (0 < k) = true := by simp [hz]
              go_wp2
              go_ret2
              exact ⟨ret_two (by rw [HB.out, or_cvo s k h7]) (by rw [HB.out]), rfl⟩
          · have HB := Lib.hid (show scan s 7 0 = (cvo s 0 (k + 1), (k : Int) + 1) from by rw [HN.out, if_neg hc, if_neg (fun h => hz h.1)])
            go_wp2
            go_ret2
            exact ⟨ret_two (by rw [HB.out, or_cvo s k h7]) (by rw [HB.out]), rfl⟩
      · have HO := Lib.hid (scan_out s k hk hscan.out (.inr (by omega)))
        go_wp2
        go_ret2
        exact ⟨ret_two (by rw [HO.out]) (by rw [HO.out]), rfl⟩
    · have HO := Lib.hid (scan_out s k hk hscan.out (.inl (by omega)))
      go_wp2
      go_ret2
      exact ⟨ret_two (by rw [HO.out]) (by rw [HO.out]), rfl⟩

theorem spec_any (s : ByteArray) (w : World) (hs : s.size ≤ maxLen) :
    Calls Try.prog 15 #[.string s] w fun e w' => e = .returned (.tuple #[.int .i64 (scan s 7 0).1, .int .i64 (scan s 7 0).2]) ∧ Below w.heap.size w w' := by
  unfold maxLen at hs
  have hbt := get_bt s
  go_enter Try.func15, Try.ntmps15
  go_wp2
  go_loopw [4] (fun i wr => ∃ k : Nat, 1 ≤ k ∧ k ≤ 8 ∧ i = .int .i64 k ∧ Below w.heap.size w wr ∧ Hid (∀ q, 1 ≤ q → q < k → q ≤ s.size → gd s 0 q = false)) (fun i _ => 8 - (intOf i).toNat)
  case atStart => exact ⟨1, by omega, by omega, rfl, Below.refl _ _, fun q h1 h2 => by omega⟩
  case round =>
    obtain ⟨k, hk1, hk8, rfl, hbel, hno⟩ := hrel
    by_cases h7 : k ≤ 7
    · by_cases hlt : k ≤ s.size
      · have h7i : decide (k ≤ 7) = true := by simp [h7]
        have hlti : decide (k ≤ s.size) = true := by simp [hlt]
        obtain ⟨wo, hwo⟩ : ∃ wo : World, wo = wr := ⟨_, rfl⟩
        subst hwo
        go_wp2
        go_loop [5, 6] (fun n i => ∃ q : Int, -1 ≤ q ∧ q < k ∧ i = .int .i64 q ∧ n = .int .i64 (cvo s (q + 1).toNat (k - (q + 1).toNat))) (fun _ i => (intOf i + 1).toNat)
        case atStart => exact ⟨(k : Int) - 1, by omega, by omega, by go_num, by rw [show ((k : Int) - 1 + 1).toNat = k from by omega, Nat.sub_self]; rfl⟩
        case round =>
          obtain ⟨q, hq1, hq2, rfl, rfl⟩ := hrel
          by_cases hq : 0 ≤ q
          · obtain ⟨t, rfl⟩ := Int.eq_ofNat_of_zero_le hq
            have hp := cvo_small s (t + 1) (k - (t + 1)) (by omega)
            have hb0 := bt_nonneg s t
            have hb1 := bt_le s t
            go_wp2
            go_round
            case rel => exact ⟨(t : Int) - 1, by omega, by omega, by go_num, by rw [show ((t : Int) - 1 + 1).toNat = t from by omega, show k - t = k - (t + 1) + 1 from by omega, cvo_succ]⟩
            case measure => simp [intOf]
          · obtain rfl : q = -1 := by omega
            have hv := cvo_small7 s 0 k h7
            by_cases hg : gd s 0 k = true
            · have hcmp := (cmp_gd s k hk1 h7 hlt).trans hg
              have HR := Lib.hid (scan_yes s k h7 hlt hg)
              clear hg
              go_wp2
              go_region_with (go_at_call 13; refine (VarintEnc.spec_ok _ _ (by omega) (by omega)).mono ?_; rintro e w1 ⟨rfl, hb1⟩)
              go_wp2
              go_ret2
              exact ⟨ret_two (by rw [HR.out]) (by rw [HR.out]), hbel.trans (Below.mono ((Below.drew (Below.refl wo.heap.size wo)).trans hb1) hbel.size)⟩
            · have hcmp := (cmp_gd s k hk1 h7 hlt).trans (show gd s 0 k = false by simpa using hg)
              have HN : Hid (∀ q, 1 ≤ q → q < k + 1 → q ≤ s.size → gd s 0 q = false) := fun q h1 h2 h3 => by
                by_cases e : q = k
                · subst e; simpa using hg
                · exact hno.out q h1 (by omega) h3
              clear hg hno
              go_wp2
              go_region_with (go_at_call 13; refine (VarintEnc.spec_ok _ _ (by omega) (by omega)).mono ?_; rintro e w1 ⟨rfl, hb1⟩)
              go_wp2
              go_roundw
              case rel => exact ⟨k + 1, by omega, by omega, by go_num, hbel.trans (Below.mono ((Below.drew (Below.refl wo.heap.size wo)).trans hb1) hbel.size), HN⟩
              case measure => simp [intOf]; omega
      · have hlti : decide (k ≤ s.size) = false := by simp; omega
        have HR := Lib.hid (scan_no s fun q h1 h2 h3 => hno.out q h1 (by omega) h3)
        clear hno
        go_wp2
        go_ret2
        exact ⟨ret_two (by rw [HR.out]) (by rw [HR.out]), hbel⟩
    · have HR := Lib.hid (scan_no s fun q h1 h2 h3 => hno.out q h1 (by omega) h3)
      clear hno
      go_wp2
      go_ret2
      exact ⟨ret_two (by rw [HR.out]) (by rw [HR.out]), hbel⟩
end VarintDec
end Go.Proofs.Ytkplmhnhpkpppaa
