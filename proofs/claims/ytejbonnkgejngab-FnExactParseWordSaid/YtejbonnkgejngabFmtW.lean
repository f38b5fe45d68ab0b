/- Contracts of FormatWord, of the model and of the program. No conditions beyond those that each states. -/
import Derived.Test.YtejbonnkgejngabTextVal
import Derived.Test.YtejbonnkgejngabWord
import Derived.Test.YtejbonnkgejngabSeqEq
import Derived.BigQuiet
import Derived.Deep.QuietTactic
import Derived.IntWalk
namespace Go.Proofs.Ytejbonnkgejngab
open Go.ChangeShapes Go.WideShapes Go.ChangeAt Go.RowKit
open Go.PlainAid Plain
set_option linter.unusedVariables false
namespace Mor
open Seqs
theorem ret_str {a b : ByteArray} (h : a = b) : Ending.returned (.string a) = Ending.returned (.string b) := by rw [h]
theorem infoU : (Try.prog.info? 5).map (fun i => (i.zero, i.size, i.bytes)) = some (some (.int .u8 0), 1, 1) := by kernel_rfl
set_option maxHeartbeats 1000000 in
theorem digitsW (v : Value) (r : List Int) (w : World) (h : Lies (Value.int .i64) w v r) (hl : r.length ≤ 1000) (hx : ∀ x ∈ r, 0 ≤ x ∧ x < 16) :
    Calls Try.prog 43 #[v] w fun e w' => e = .returned (.string (strOfNums (digT r))) ∧ Below w.heap.size w w' := by
  obtain ⟨_, a, ca, rfl, _, hc⟩ := h
  have HC := Lib.hid hc
  have HX := Lib.hid hx
  clear hc hx
  have hsz := hex_size
  unfold HEX at hsz
  go_enter Try.func43, Try.ntmps43
  go_wp2
  go_loopw [3, 5] (fun s' i' wr => ∃ k : Nat, k ≤ r.length ∧ i' = .int .i64 k ∧ s' = .string (strOfNums (digT (r.take k))) ∧ ∃ n, wr = w.drewN n) (fun _ i' _ => r.length - (intOf i').toNat)
  case atStart => exact ⟨0, Nat.zero_le _, rfl, rfl, 0, rfl⟩
  case round =>
    obtain ⟨k, hk, rfl, rfl, n, rfl⟩ := hrel
    by_cases hlt : k < r.length
    · obtain ⟨x, hx⟩ : ∃ x, r[k]? = some x := ⟨_, List.getElem?_eq_getElem hlt⟩
      obtain ⟨q, s, rfl, hcell⟩ := HC.out k x hx
      have hxb := HX.out x (List.mem_of_getElem? hx)
      obtain ⟨xn, rfl⟩ := Int.eq_ofNat_of_zero_le hxb.1
      have hx16 : xn < 16 := by have := hxb.2; omega
      have HP := Lib.hid (hex_one xn hx16)
      have HSN := Lib.hid (digT_take_succ hx)
      have hi0 : (0 : Int) ≤ (k : Int) := Int.natCast_nonneg _
      have hi1 : (k : Int) < (r.length : Int) := by omega
      have hx0 : (0 : Int) ≤ (xn : Int) := Int.natCast_nonneg _
      have hx1 : (xn : Int) + 1 ≤ 16 := by omega
      have hsl : (strOfNums (digT (r.take k))).size ≤ 1000 := by rw [strOfNums_size, digT, List.length_map, List.length_take]; omega
      clear hx hxb
      go_wp2
      have e1 : IntKind.i64.wrap ((xn : Int) + 1) = (xn : Int) + 1 := IntWalk.i64_in _ (by omega)
      have e2 : 0 ≤ (xn : Int) + 1 := by omega
      have e3 : ((xn : Int) + 1).toNat = xn + 1 := by omega
      have e4 : (xn : Int) ≤ (xn : Int) + 1 := by omega
      have e5 : xn + 1 ≤ 16 := by omega
      have e6 : xn ≤ xn + 1 := by omega
      go_quiet (fail)
      clear e1 e2 e3 e4 e5 e6
      go_wp2
      go_roundw
      case rel =>
        refine ⟨k + 1, by omega, by go_num, ?_, _, rfl⟩
        have h1 := HP.out
        unfold HEX at h1
        rw [h1, strOfNums_append, HSN.out]
      case measure => simp [intOf]; omega
    · obtain rfl : k = r.length := by omega
      go_wp2
      go_ret
      exact ⟨ret_str (by rw [List.take_length]), below_drewN (Below.refl _ _) _⟩
theorem zerosU (n : Nat) : (madeCells (Value.int .u8 0).cells (n * 1)).toList = (List.replicate n (0 : Int)).map (Value.int .u8) := by
  rw [show (Value.int .u8 0).cells = #[Value.int .u8 0] from rfl, toList_madeCells_one]
  simp
/-- k digits are written, the rest is zero. -/
def hrow16 (xs : List Int) (k : Nat) : List Int := digT (xs.take k) ++ List.replicate (xs.length - k) 0
theorem hrow16_set (xs : List Int) (k : Nat) (x : Int) (h : xs[k]? = some x) : ((hrow16 xs k).map (Value.int .u8)).set k (.int .u8 (hexd x)) = (hrow16 xs (k + 1)).map (Value.int .u8) := by
  obtain ⟨h1, _⟩ := List.getElem?_eq_some_iff.1 h
  have hl : (digT (xs.take k)).length = k := by simp [digT]; omega
  unfold hrow16
  rw [digT_take_succ h, show xs.length - k = (xs.length - (k + 1)) + 1 from by omega, List.replicate_succ, List.map_append, List.map_cons, set_mid _ _ _ _ k (by rw [List.length_map, hl]), List.append_assoc, List.map_append]
  rfl
theorem hrow16_at (xs : List Int) (k : Nat) (h : k < xs.length) : ((hrow16 xs k).map (Value.int .u8))[k]? = some (.int .u8 0) := by
  have hl : (digT (xs.take k)).length = k := by simp [digT]; omega
  rw [List.getElem?_map, hrow16, List.getElem?_append_right (by omega), hl, Nat.sub_self, List.getElem?_replicate, if_pos (by omega)]
  rfl
set_option maxHeartbeats 1000000 in
theorem hex_text (v : Value) (xs : List Int) (w : World) (h : Lies (Value.int .i64) w v xs) (hl : xs.length ≤ 1000) (hx : ∀ x ∈ xs, 0 ≤ x ∧ x < 16) :
    Calls Try.prog 45 #[v] w fun e w' => e = .returned (.string (strOfNums (digT xs))) ∧ Below w.heap.size w w' := by
  obtain ⟨i0, hi, hz0, hz1, hz2⟩ := info_parts infoU
  have HL := Lib.hid h
  obtain ⟨_, a, ca, rfl, _, _⟩ := h
  have HX := Lib.hid hx
  clear hx
  have hbt := get_bt HEX
  have hsz := hex_size
  unfold HEX at hbt hsz
  go_enter Try.func45, Try.ntmps45
  go_wp2_with (at_make; refine wpList_make_full w rfl _ _ 65 rfl w.heap.size 5 i0 (.int .u8 0) 1 Try.underlying65 hi hz0 hz1 .i64 .i64 _ _ xs.length rfl rfl rfl rfl (by rw [hz2]; omega) (by unfold maxLen; omega) (Nat.le_refl _) ?_; intro w1 hown hgrow; have HB1 := Lib.hid (below_of_grown hgrow); clear hgrow)
  have HO1 : Hid (w1.ownsRow w.heap.size 5 1 (.slice (some ⟨w.heap.size, 0, none⟩) xs.length xs.length) xs.length ((hrow16 xs 0).map (Value.int .u8))) := by
    show w1.ownsRow _ _ _ _ _ _
    rw [zerosU] at hown
    simpa [hrow16, digT] using hown
  clear hown
  go_loopw [11] (fun i' wr => ∃ k : Nat, k ≤ xs.length ∧ i' = .int .i64 k ∧ Hid (wr.ownsRow w.heap.size 5 1 (.slice (some ⟨w.heap.size, 0, none⟩) xs.length xs.length) xs.length ((hrow16 xs k).map (Value.int .u8))) ∧ Hid (Below w.heap.size w wr)) (fun i' _ => xs.length - (intOf i').toNat)
  case atStart => exact ⟨0, Nat.zero_le _, rfl, HO1, HB1⟩
  case round =>
    obtain ⟨k, hk, rfl, HOr, HBr⟩ := hrel
    by_cases hlt : k < xs.length
    · obtain ⟨x, hx⟩ : ∃ x, xs[k]? = some x := ⟨_, List.getElem?_eq_getElem hlt⟩
      obtain ⟨_, a', c', hv, _, hc⟩ := HL.out.below HBr.out
      injection hv with e1 e2 e3
      subst e1
      obtain ⟨q, s, rfl, hcell⟩ := hc k x hx
      have hxb := HX.out x (List.mem_of_getElem? hx)
      obtain ⟨xn, rfl⟩ := Int.eq_ofNat_of_zero_le hxb.1
      have hx16 : xn < 16 := by have := hxb.2; omega
      have HST := Lib.hid (hrow16_set xs k _ hx)
      have hx0 : (0 : Int) ≤ (xn : Int) := Int.natCast_nonneg _
      have hx1 : (xn : Int) < 16 := by omega
      have hc2 := (HOr.out.cellAt k (by omega)).trans (hrow16_at xs k hlt)
      have hfr := HOr.out.frozenAt k
      have hst := HOr.out.stored k (.int .u8 (hexd (xn : Int)))
      rw [HST.out] at hst
      have HS := Lib.hid hst
      clear hx hxb hst HOr hc e3
      go_wp2
      go_roundw
      case rel => exact ⟨k + 1, by omega, by go_num, HS.out.1, HBr.out.setCell (Nat.le_refl _) _⟩
      case measure => simp [intOf]; omega
    · obtain rfl : k = xs.length := by omega
      have HO2 : wr.ownsRow w.heap.size 5 1 (.slice (some ⟨w.heap.size, 0, none⟩) xs.length xs.length) xs.length ((digT xs).map (Value.int .u8)) := by
        have h1 := HOr.out
        unfold hrow16 at h1
        rw [List.take_length, Nat.sub_self, List.replicate_zero, List.append_nil] at h1
        exact h1
      have hcv := convert_owned (P := Try.prog) wr 65 5 9 Try.underlying65 Try.underlying5 Try.underlying9 w.heap.size _ _ _ HO2
      clear HO2 HOr
      go_wp2
      go_ret
      exact ⟨rfl, HBr.out⟩
theorem text_empty : strOfNums emptyT = ⟨#[101, 109, 112, 116, 121]⟩ := rfl
set_option maxHeartbeats 1000000 in
theorem spec_fmtw (v : Value) (xs : List Int) (w : World) (h : Lies (Value.int .i64) w v xs) :
    Calls Try.prog 24 #[v] w fun e w' => e = .returned (.string (strOfNums (textW xs))) ∧ Below w.heap.size w w' := by
  have HL := Lib.hid h
  obtain ⟨hll, a, ca, rfl, _, _⟩ := h
  have HP := Lib.hid (spec_word _ xs 16 w HL.out)
  obtain ⟨c, hc⟩ : ∃ c, wordB xs 16 = c := ⟨_, rfl⟩
  rw [hc] at HP
  have HW := Lib.hid hc
  clear hc
  go_enter Try.func24, Try.ntmps24
  go_wp2_with fail
  refine HP.out.mono ?_
  rintro e w' ⟨rfl, rfl⟩
  cases c with
  | false =>
    have HE := Lib.hid (textW_no HW.out)
    go_wp2
    go_ret
    exact ⟨ret_str (by rw [HE.out]; rfl), Below.refl _ _⟩
  | true =>
    have hwd := wordB_out HW.out
    have HWI := Lib.hid hwd.2.2.2
    have h400 := hwd.2.2.1
    clear hwd
    by_cases h0 : xs.length = 0
    · obtain rfl := List.eq_nil_of_length_eq_zero h0
      go_wp2
      go_ret
      exact ⟨ret_str (by rw [textW_nil]; rfl), Below.refl _ _⟩
    · have hd : ((xs.length : Int) == 0) = false := beq_eq_false_iff_ne.2 (by omega)
      have HE := Lib.hid (textW_yes HW.out (fun e => h0 (by rw [e]; rfl)))
      have hd2 : ¬ xs = [] := fun e => h0 (by rw [e]; rfl)
      clear h0
      go_wp2_with fail
      refine (digitsW _ xs w HL.out (by omega) HWI.out).mono ?_
      rintro e w' ⟨rfl, hb⟩
      have HB := Lib.hid hb
      clear hb
      go_wp2
      go_ret
      exact ⟨ret_str (by rw [HE.out]), HB.out⟩
set_option maxHeartbeats 1000000 in
theorem impl_fmtw (v : Value) (xs : List Int) (w : World) (h : Lies (Value.int .i64) w v xs) :
    Calls Try.prog 25 #[v] w fun e w' => e = .returned (.string (strOfNums (textW xs))) ∧ Below w.heap.size w w' := by
  have HL := Lib.hid h
  obtain ⟨hll, a, ca, rfl, _, _⟩ := h
  have HP := Lib.hid (impl_word _ xs 16 w HL.out)
  obtain ⟨c, hc⟩ : ∃ c, wordB xs 16 = c := ⟨_, rfl⟩
  rw [hc] at HP
  have HW := Lib.hid hc
  clear hc
  go_enter Try.func25, Try.ntmps25
  go_wp2_with fail
  refine HP.out.mono ?_
  rintro e W1 ⟨rfl, hb1⟩
  have HB1 := Lib.hid hb1
  clear hb1
  cases c with
  | false =>
    have HE := Lib.hid (textW_no HW.out)
    go_wp2
    go_ret
    exact ⟨ret_str (by rw [HE.out]; rfl), HB1.out⟩
  | true =>
    have hwd := wordB_out HW.out
    have HWI := Lib.hid hwd.2.2.2
    have h400 := hwd.2.2.1
    clear hwd
    by_cases h0 : xs.length = 0
    · obtain rfl := List.eq_nil_of_length_eq_zero h0
      go_wp2
      go_ret
      exact ⟨ret_str (by rw [textW_nil]; rfl), HB1.out⟩
    · have hd : ((xs.length : Int) == 0) = false := beq_eq_false_iff_ne.2 (by omega)
      have HE := Lib.hid (textW_yes HW.out (fun e => h0 (by rw [e]; rfl)))
      have hd2 : ¬ xs = [] := fun e => h0 (by rw [e]; rfl)
      clear h0
      go_wp2_with fail
      refine (hex_text _ xs W1 (HL.out.below HB1.out) (by omega) HWI.out).mono ?_
      rintro e w' ⟨rfl, hb⟩
      have HB := Lib.hid (HB1.out.trans (hb.mono HB1.out.size))
      clear hb
      go_wp2
      go_ret
      exact ⟨ret_str (by rw [HE.out]), HB.out⟩
end Mor
end Go.Proofs.Ytejbonnkgejngab
