/- Contract of the program's function that writes numbers as letters. No conditions beyond those that it states. -/
import Derived.Test.YtbebifnnnmgihabDoorTextVal
import Derived.Test.YtbebifnnnmgihabDoorSeqEq
import Derived.BigQuiet
import Derived.Deep.QuietTactic
import Derived.IntWalk
namespace Go.Proofs.YtbebifnnnmgihabDoor
open Go.ChangeShapes Go.WideShapes Go.ChangeAt Go.RowKit
open Go.PlainAid Plain
set_option linter.unusedVariables false
namespace Mor
open Seqs
theorem infoU : (Tryd.prog.info? 5).map (fun i => (i.zero, i.size, i.bytes)) = some (some (.int .u8 0), 1, 1) := by kernel_rfl
theorem zerosU (n : Nat) : (madeCells (Value.int .u8 0).cells (n * 1)).toList = (List.replicate n (0 : Int)).map (Value.int .u8) := by
  rw [show (Value.int .u8 0).cells = #[Value.int .u8 0] from rfl, toList_madeCells_one]
  simp
/-- k digits are written, the rest is zero. -/
def hrow16 (xs : List Int) (k : Nat) : List Int := digT (xs.take k) ++ List.replicate (xs.length - k) 0
theorem hrow16_set (xs : List Int) (k : Nat) (x : Int) (h : xs[k]? = some x) : ((hrow16 xs k).map (Value.int .u8)).set k (.int .u8 (hexd x)) = (hrow16 xs (k + 1)).map (Value.int .u8) := by
  obtain ⟨h1, _⟩ := List.getElem?_eq_some_iff.1 h
  have hl : (digT (xs.take k)).length = k := by simp [digT]; omega
  unfold hrow16
  rw [digT_take_succ h, show xs.length - k = (xs.length - (k + 1)) + 1 from by omega, List.replicate_succ, List.map_append, List.map_cons, set_mid _ _ _ _ k (by rw [List.length_map, hl]), List.append_assoc, List.map_append]
  rfl
theorem hrow16_at (xs : List Int) (k : Nat) (h : k < xs.length) : ((hrow16 xs k).map (Value.int .u8))[k]? = some (.int .u8 0) := by
  have hl : (digT (xs.take k)).length = k := by simp [digT]; omega
  rw [List.getElem?_map, hrow16, List.getElem?_append_right (by omega), hl, Nat.sub_self, List.getElem?_replicate, if_pos (by omega)]
  rfl
set_option maxHeartbeats 1000000 in
theorem hex_text (v : Value) (xs : List Int) (w : World) (h : Lies (Value.int .i64) w v xs) (hl : xs.length ≤ 1000) (hx : ∀ x ∈ xs, 0 ≤ x ∧ x < 16) :
    Calls Tryd.prog 28 #[v] w fun e w' => e = .returned (.string (strOfNums (digT xs))) ∧ Below w.heap.size w w' := by
  obtain ⟨i0, hi, hz0, hz1, hz2⟩ := info_parts infoU
  have HL := Lib.hid h
  obtain ⟨_, a, ca, rfl, _, _⟩ := h
  have HX := Lib.hid hx
  clear hx
  have hbt := get_bt HEX
  have hsz := hex_size
  unfold HEX at hbt hsz
  go_enter Tryd.func28, Tryd.ntmps28
  go_wp2_with (at_make; refine wpList_make_full w rfl _ _ 44 rfl w.heap.size 5 i0 (.int .u8 0) 1 Tryd.underlying44 hi hz0 hz1 .i64 .i64 _ _ xs.length rfl rfl rfl rfl (by rw [hz2]; omega) (by unfold maxLen; omega) (Nat.le_refl _) ?_; intro w1 hown hgrow; have HB1 := Lib.hid (below_of_grown hgrow); clear hgrow)
  have HO1 : Hid (w1.ownsRow w.heap.size 5 1 (.slice (some ⟨w.heap.size, 0, none⟩) xs.length xs.length) xs.length ((hrow16 xs 0).map (Value.int .u8))) := by
    show w1.ownsRow _ _ _ _ _ _
    rw [zerosU] at hown
    simpa [hrow16, digT] using hown
  clear hown
  go_loopw [11] (fun i' wr => ∃ k : Nat, k ≤ xs.length ∧ i' = .int .i64 k ∧ Hid (wr.ownsRow w.heap.size 5 1 (.slice (some ⟨w.heap.size, 0, none⟩) xs.length xs.length) xs.length ((hrow16 xs k).map (Value.int .u8))) ∧ Hid (Below w.heap.size w wr)) (fun i' _ => xs.length - (intOf i').toNat)
  case atStart => exact ⟨0, Nat.zero_le _, rfl, HO1, HB1⟩
  case round =>
    obtain ⟨k, hk, rfl, HOr, HBr⟩ := hrel
    by_cases hlt : k < xs.length
    · obtain ⟨x, hx⟩ : ∃ x, xs[k]? = some x := ⟨_, List.getElem?_eq_getElem hlt⟩
      obtain ⟨_, a', c', hv, _, hc⟩ := HL.out.below HBr.out
      injection hv with e1 e2 e3
      subst e1
      obtain ⟨q, s, rfl, hcell⟩ := hc k x hx
      have hxb := HX.out x (List.mem_of_getElem? hx)
      obtain ⟨xn, rfl⟩ := Int.eq_ofNat_of_zero_le hxb.1
      have hx16 : xn < 16 := by have := hxb.2; omega
      have HST := Lib.hid (hrow16_set xs k _ hx)
      have hx0 : (0 : Int) ≤ (xn : Int) := Int.natCast_nonneg _
      have hx1 : (xn : Int) < 16 := by omega
      have hc2 := (HOr.out.cellAt k (by omega)).trans (hrow16_at xs k hlt)
      have hfr := HOr.out.frozenAt k
      have hst := HOr.out.stored k (.int .u8 (hexd (xn : Int)))
      rw [HST.out] at hst
      have HS := Lib.hid hst
      clear hx hxb hst HOr hc e3
      go_wp2
      go_roundw
      case rel => exact ⟨k + 1, by omega, by go_num, HS.out.1, HBr.out.setCell (Nat.le_refl _) _⟩
      case measure => simp [intOf]; omega
    · obtain rfl : k = xs.length := by omega
      have HO2 : wr.ownsRow w.heap.size 5 1 (.slice (some ⟨w.heap.size, 0, none⟩) xs.length xs.length) xs.length ((digT xs).map (Value.int .u8)) := by
        have h1 := HOr.out
        unfold hrow16 at h1
        rw [List.take_length, Nat.sub_self, List.replicate_zero, List.append_nil] at h1
        exact h1
      have hcv := convert_owned (P := Tryd.prog) wr 44 5 9 Tryd.underlying44 Tryd.underlying5 Tryd.underlying9 w.heap.size _ _ _ HO2
      clear HO2 HOr
      go_wp2
      go_ret
      exact ⟨rfl, HBr.out⟩
end Mor
end Go.Proofs.YtbebifnnnmgihabDoor
