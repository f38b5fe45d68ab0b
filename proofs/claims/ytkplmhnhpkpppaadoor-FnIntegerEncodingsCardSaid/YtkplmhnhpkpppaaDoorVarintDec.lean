/- Contracts of DecodeVarint in the program and in the model: for every string within the form's reach both return what 'scan' finds. -/
import Derived.Test.YtkplmhnhpkpppaaDoorRows
import Derived.WalkKit
import Derived.ProofKit
import Derived.OpenShut
import Derived.ShutString
import Derived.PlainAid
import Derived.Lib.Hide
import Derived.BigQuiet
import Derived.Deep.QuietTactic
import Derived.Deep.RegionWith
import Derived.Test.YtkplmhnhpkpppaaDoorPlain
import Derived.Test.YtkplmhnhpkpppaaDoorKit
import Derived.Test.YtkplmhnhpkpppaaDoorCommon
import Derived.Test.YtkplmhnhpkpppaaDoorVarintVal
import Derived.Test.YtkplmhnhpkpppaaDoorVarintEnc
namespace Go.Proofs.YtkplmhnhpkpppaaDoor
open Go.ChangeShapes Go.WideShapes Go.ChangeAt Go.RowKit
open Go.ChangeMaps (open_string shut_string)
open Go.PlainAid Plain
set_option linter.unusedVariables false
namespace VarintDec

theorem ret_two {a b a' b' : Int} (h : a = a') (k : b = b') : Ending.returned (.tuple #[.int .i64 a, .int .i64 b]) = Ending.returned (.tuple #[.int .i64 a', .int .i64 b']) := by rw [h, k]

theorem impl_any (s : ByteArray) (w : World) (hs : s.size ≤ maxLen) :
    Calls Tryd.prog 10 #[.string s] w fun e w' => e = .returned (.tuple #[.int .i64 (scan s 7 0).1, .int .i64 (scan s 7 0).2]) ∧ w = w' := by
  unfold maxLen at hs
  have hbt := get_bt s
  go_enter Tryd.func10, Tryd.ntmps10
  go_wp2
  go_loop [4, 5] (fun n i => ∃ k : Nat, k ≤ 7 ∧ i = .int .i64 k ∧ n = .int .i64 (cvo s 0 k) ∧ Hid (scan s (7 - k) k = scan s 7 0)) (fun _ i => 7 - (intOf i).toNat)
  case atStart => exact ⟨0, by omega, rfl, rfl, rfl⟩
  case round =>
    obtain ⟨k, hk, rfl, rfl, hscan⟩ := hrel
    by_cases hlt : k < s.size
    · by_cases h7 : k < 7
      · have hp := cvo_small s 0 k (by omega)
        have hb0 := bt_nonneg s k
        have hb1 := bt_le s k
        have HN := Lib.hid (scan_at s k h7 hscan.out hlt)
        clear hscan
        by_cases hc : 128 ≤ bt s k
        · go_wp2
          go_round
          case rel => exact ⟨k + 1, by omega, by go_num, by rw [or_cvo s k h7], by rw [HN.out, if_pos hc]; rfl⟩
          case measure => simp [intOf]; omega
        · by_cases hz : 0 < k
          · by_cases hb : bt s k = 0
            · have HB := Lib.hid (show scan s 7 0 = (0, 0) from by rw [HN.out, if_neg hc, if_pos ⟨hz, hb⟩])
              have hbb : (bt s k == 0) = true := by simp [hb]
              have hkk : decide (0 < k) = true := by simp [hz]
              clear hb
              go_wp2
              go_ret2
              exact ⟨ret_two (by rw [HB.out]) (by rw [HB.out]), rfl⟩
            · have HB := Lib.hid (show scan s 7 0 = (cvo s 0 (k + 1), (k : Int) + 1) from by rw [HN.out, if_neg hc, if_neg (fun h => hb h.2)])
              have hbb : (bt s k == 0) = false := by simp [hb]
              have hkk : decide (0 < k) = true := by simp [hz]
              go_wp2
              go_ret2
              exact ⟨ret_two (by rw [HB.out, or_cvo s k h7]) (by rw [HB.out]), rfl⟩
          · have HB := Lib.hid (show scan s 7 0 = (cvo s 0 (k + 1), (k : Int) + 1) from by rw [HN.out, if_neg hc, if_neg (fun h => hz h.1)])
            go_wp2
            go_ret2
            exact ⟨ret_two (by rw [HB.out, or_cvo s k h7]) (by rw [HB.out]), rfl⟩
      · have HO := Lib.hid (scan_out s k hk hscan.out (.inr (by omega)))
        go_wp2
        go_ret2
        exact ⟨ret_two (by rw [HO.out]) (by rw [HO.out]), rfl⟩
    · have HO := Lib.hid (scan_out s k hk hscan.out (.inl (by omega)))
      go_wp2
      go_ret2
      exact ⟨ret_two (by rw [HO.out]) (by rw [HO.out]), rfl⟩

end VarintDec
end Go.Proofs.YtkplmhnhpkpppaaDoor
