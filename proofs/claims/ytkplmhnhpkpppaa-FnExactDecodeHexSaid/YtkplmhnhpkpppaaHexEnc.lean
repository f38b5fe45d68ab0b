/- Contracts of EncodeHex in the program and in the model: for every string of at most 1048576 bytes both return the same string; what was in memory stays as it was. -/
import Derived.Test.YtkplmhnhpkpppaaRows
import Derived.WalkKit
import Derived.ProofKit
import Derived.OpenShut
import Derived.ShutString
import Derived.PlainAid
import Derived.Lib.Hide
import Derived.StillTailTactics
import Derived.Deep.RegionLaw
import Derived.Test.YtkplmhnhpkpppaaPlain
import Derived.Test.YtkplmhnhpkpppaaKit
import Derived.Test.YtkplmhnhpkpppaaHexVal
namespace Go.Proofs.Ytkplmhnhpkpppaa
open Go.ChangeShapes Go.WideShapes Go.ChangeAt Go.RowKit
open Go.ChangeMaps (open_string shut_string)
open Go.PlainAid Plain
set_option linter.unusedVariables false
namespace HexEnc
theorem ret_str {a b : ByteArray} (h : a = b) : Ending.returned (.string a) = Ending.returned (.string b) := by rw [h]
theorem ret_u8 {a b : Int} (h : a = b) : Ending.returned (.int .u8 a) = Ending.returned (.int .u8 b) := by rw [h]
theorem info5 : (Try.prog.info? 5).map (fun i => (i.zero, i.size, i.bytes)) = some (some (.int .u8 0), 1, 1) := by kernel_rfl

theorem digit (n : Int) (w : World) (h0 : 0 ≤ n) (h1 : n ≤ 15) :
    Calls Try.prog 23 #[.int .i64 n] w fun e w' => e = .returned (.int .u8 (hexd n)) ∧ w' = w := by
  obtain ⟨k, rfl⟩ := Int.eq_ofNat_of_zero_le h0
  have hbt := get_bt HEX
  have hsz := hex_size
  unfold HEX at hbt hsz
  go_enter Try.func23, Try.ntmps23
  go_wp2
  go_ret
  exact ⟨ret_u8 rfl, rfl⟩

theorem impl_any (s : ByteArray) (w : World) (hs : s.size ≤ 1048576) :
    Calls Try.prog 18 #[.string s] w fun e w' => e = .returned (.string (strOfNums (hexl s s.size))) ∧ Below w.heap.size w w' := by
  obtain ⟨i0, hi, hz0, hz1, hz2⟩ := info_parts info5
  have hbt := get_bt s
  have hbx := get_bt HEX
  unfold HEX at hbx
  go_enter Try.func18, Try.ntmps18
  go_wp2_with (at_make; refine wpList_make_own w rfl _ _ 36 rfl w.heap.size 5 i0 (.int .u8 0) 1 Try.underlying36 hi hz0 hz1 .i64 .i64 _ (2 * s.size) rfl rfl (by omega) (by rw [hz2]; omega) (by unfold maxLen; omega) (Nat.le_refl _) ?_; intro w1 hown hgrow)
  have hbel0 : Below w.heap.size w w1 := (Below.refl _ _).grown hgrow (Nat.le_refl _) (fun k hk => by cases hk)
  go_loopw [3, 4] (fun v i wr => ∃ k : Nat, k ≤ s.size ∧ i = .int .i64 k ∧ wr.ownsRow w.heap.size 5 1 v (2 * k) ((hexl s k).map (Value.int .u8)) ∧ Below w.heap.size w wr) (fun _ i _ => s.size - (intOf i).toNat)
  case atStart => exact ⟨0, Nat.zero_le _, rfl, hown, hbel0⟩
  case round =>
    clear hown hgrow hbel0
    obtain ⟨k, hk, rfl, hown, hbel⟩ := hrel
    by_cases hlt : k < s.size
    · have hb0 := bt_nonneg s k
      have hb1 := bt_le s k
      have h15 := and15 (bt s k) hb0 hb1
      have hq0 : 0 ≤ bt s k / 16 := by omega
      have hq1 : bt s k / 16 < 16 := by omega
      have hr0 : 0 ≤ bt s k % 16 := by omega
      have hr1 : bt s k % 16 < 16 := by omega
      go_wp2
      go_region_law (refine step_append_at w rfl _ _ 36 rfl w.heap.size 5 i0 (.int .u8 0) 1 Try.underlying36 hi hz0 hz1 hz2 rfl _ _ _ rfl (by exact hown.drew.alloc _) [.int .u8 (hexd (bt s k / 16)), .int .u8 (hexd (bt s k % 16))] wr.heap.size 2 rfl (by exact two_cells wr.drew _ _ _) (by simp [Value.oneCell']) (by simp; omega) (by simp; omega) (by exact (hbel.drew.alloc hbel.size _)) (by omega) (by have := hbel.size; simp; omega) ?_; intro v' w1 hown1 hbel1)
      all_goals
        go_wp2
        go_roundw
        case rel => exact ⟨k + 1, by omega, by go_num, by simpa [hexl, Nat.mul_add] using (by assumption), by assumption⟩
        case measure => simp [intOf]; omega
    · obtain rfl : k = s.size := by omega
      have hcv := convert_owned (P := Try.prog) wr 36 5 9 Try.underlying36 Try.underlying5 Try.underlying9 w.heap.size _ _ _ hown
      clear hown
      go_wp2
      go_ret
      exact ⟨rfl, hbel⟩

theorem spec_any (s : ByteArray) (w : World) (hs : s.size ≤ 1048576) :
    Calls Try.prog 17 #[.string s] w fun e w' => e = .returned (.string (strOfNums (hexl s s.size))) ∧ Below w.heap.size w w' := by
  obtain ⟨i0, hi, hz0, hz1, hz2⟩ := info_parts info5
  have hbt := get_bt s
  go_enter Try.func17, Try.ntmps17
  go_wp2
  go_loopw [3, 4] (fun v i wr => ∃ k : Nat, k ≤ s.size ∧ i = .int .i64 k ∧ wr.ownsRow w.heap.size 5 1 v (2 * k) ((hexl s k).map (Value.int .u8)) ∧ Below w.heap.size w wr) (fun _ i _ => s.size - (intOf i).toNat)
  case atStart => exact ⟨0, Nat.zero_le _, rfl, World.ownsRow_made (base := w.heap.size) w #[] 0 (Nat.le_refl _) (by decide) rfl, (Below.refl _ _).alloc (Nat.le_refl _) _⟩
  case round =>
    obtain ⟨k, hk, rfl, hown, hbel⟩ := hrel
    by_cases hlt : k < s.size
    · have hb0 := bt_nonneg s k
      have hb1 := bt_le s k
      have hq0 : 0 ≤ bt s k / 16 := by omega
      have hq1 : bt s k / 16 ≤ 15 := by omega
      have hr0 : 0 ≤ bt s k % 16 := by omega
      have hr1 : bt s k % 16 ≤ 15 := by omega
      go_wp2
      have e1 : IntKind.i64.wrap (bt s k) = bt s k := IntWalk.i64_in _ (by omega)
      have e2 : (bt s k).tdiv 16 = bt s k / 16 := Int.tdiv_eq_ediv_of_nonneg hb0
      have e3 : IntKind.i64.wrap (bt s k / 16) = bt s k / 16 := IntWalk.i64_in _ (by omega)
      have e4 : (bt s k).tmod 16 = bt s k % 16 := Int.tmod_eq_emod_of_nonneg hb0
      have e5 : IntKind.i64.wrap (bt s k % 16) = bt s k % 16 := IntWalk.i64_in _ (by omega)
      go_region_law (first | (refine step_append_at w rfl _ _ 36 rfl w.heap.size 5 i0 (.int .u8 0) 1 Try.underlying36 hi hz0 hz1 hz2 rfl _ _ _ rfl (by exact hown.drew.alloc _) [.int .u8 (hexd (bt s k / 16)), .int .u8 (hexd (bt s k % 16))] wr.heap.size 2 rfl (by exact two_cells wr.drew _ _ _) (by simp [Value.oneCell']) (by simp; omega) (by simp; omega) (by exact (hbel.drew.alloc hbel.size _)) (by omega) (by have := hbel.size; simp; omega) ?_; intro v' w1 hown1 hbel1) | (go_simp; go_at_call 23; refine (digit _ _ (by assumption) (by assumption)).mono ?_; rintro e w' ⟨rfl, rfl⟩))
      all_goals
        clear e1 e2 e3 e4 e5
        go_wp2
        go_roundw
        case rel => exact ⟨k + 1, by omega, by go_num, by simpa [hexl, Nat.mul_add] using (by assumption), by assumption⟩
        case measure => simp [intOf]; omega
    · obtain rfl : k = s.size := by omega
      have hcv := convert_owned (P := Try.prog) wr 36 5 9 Try.underlying36 Try.underlying5 Try.underlying9 w.heap.size _ _ _ hown
      clear hown
      go_wp2
      go_ret
      exact ⟨rfl, hbel⟩
end HexEnc
end Go.Proofs.Ytkplmhnhpkpppaa
