/- Contracts of DecodeHex in the program and in the model: for every string of at most 1048576 bytes both return the same pair; what was in memory stays as it was. -/
import Derived.Test.YtkplmhnhpkpppaaDoorRows
import Derived.WalkKit
import Derived.ProofKit
import Derived.OpenShut
import Derived.ShutString
import Derived.PlainAid
import Derived.Lib.Hide
import Derived.Lib.OthersKept
import Derived.WalkSmall
import Derived.Test.YtkplmhnhpkpppaaDoorPlain
import Derived.Test.YtkplmhnhpkpppaaDoorKit
import Derived.Test.YtkplmhnhpkpppaaDoorHexDecVal
import Derived.Test.YtkplmhnhpkpppaaDoorFixedVal
import Derived.Test.YtkplmhnhpkpppaaDoorHexRune
namespace Go.Proofs.YtkplmhnhpkpppaaDoor
open Go.ChangeShapes Go.WideShapes Go.ChangeAt Go.RowKit
open Go.ChangeMaps (open_string shut_string)
open Go.PlainAid Plain
set_option linter.unusedVariables false
namespace HexDec
theorem ret_sb {a b : ByteArray} {c d : Bool} (h : a = b) (k : c = d) : Ending.returned (.tuple #[.string a, .bool c]) = Ending.returned (.tuple #[.string b, .bool d]) := by rw [h, k]
theorem info5 : (Tryd.prog.info? 5).map (fun i => (i.zero, i.size, i.bytes)) = some (some (.int .u8 0), 1, 1) := by kernel_rfl

theorem impl_any (s : ByteArray) (w : World) (hs : s.size ≤ 1048576) :
    Calls Tryd.prog 16 #[.string s] w fun e w' => e = .returned (.tuple #[.string (dhStr s), .bool (dhOk s)]) ∧ Below w.heap.size w w' := by
  obtain ⟨i0, hi, hz0, hz1, hz2⟩ := info_parts info5
  have hbt := get_bt s
  by_cases hodd : s.size % 2 = 1
  · have HO := Lib.hid (dh_odd hodd)
    have hq : (((s.size : Int) % 2) != 0) = true := by simp; omega
    clear hodd
    go_enter Tryd.func16, Tryd.ntmps16
    go_wp2
    go_ret2
    exact ⟨ret_sb HO.out.2.symm HO.out.1.symm, Below.refl _ _⟩
  · have hev : s.size % 2 = 0 := by omega
    have hq : (((s.size : Int) % 2) != 0) = false := by simp; omega
    have HEV := Lib.hid hev
    clear hev hodd
    go_enter Tryd.func16, Tryd.ntmps16
    go_wp2_with (at_make; refine wpList_make_full w rfl _ _ 22 rfl w.heap.size 5 i0 (.int .u8 0) 1 Tryd.underlying22 hi hz0 hz1 .i64 .i64 _ _ (s.size / 2) rfl rfl (by omega) (by omega) (by rw [hz2]; omega) (by unfold maxLen; omega) (Nat.le_refl _) ?_; intro w1 hown hgrow)
    have hown0 : w1.ownsRow w.heap.size 5 1 (.slice (some ⟨w.heap.size, 0, none⟩) (s.size / 2) (s.size / 2)) (s.size / 2) ((hrow s (s.size / 2) 0).map (Value.int .u8)) := by
      have := zeros_made (s.size / 2)
      rw [hrow_start]
      simp only [List.append_nil] at this
      rw [← this]
      exact hown
    have hbel0 : Below w.heap.size w w1 := (Below.refl _ _).grown hgrow (Nat.le_refl _) (fun k hk => by cases hk)
    have hK : w.heap.size < w1.heap.size := (hown0.lt w.heap.size rfl).2
    clear hown hgrow
    go_loopw [] (fun wr => ∃ i : Nat, i ≤ s.size ∧ wr.heap[w1.heap.size]? = some (.stringIter s i) ∧ wr.ownsRow w.heap.size 5 1 (.slice (some ⟨w.heap.size, 0, none⟩) (s.size / 2) (s.size / 2)) (s.size / 2) ((hrow s (s.size / 2) i).map (Value.int .u8)) ∧ Below w.heap.size w wr ∧ Hid (allHex s i = true)) (fun wr => s.size - wr.iterPos w1.heap.size)
    case atStart => exact ⟨0, Nat.zero_le _, World.iter_heap _ _ _, hown0.alloc _, hbel0.alloc (by omega) _, rfl⟩
    case round =>
      clear hown0 hbel0
      obtain ⟨i, hi1, hit, hown, hbel, hat⟩ := hrel
      have hit0 := Lib.hid hit
      by_cases hlt : i < s.size
      · have hb0 := bt_nonneg s i
        have hb1 := bt_le s i
        have hv := hexv_bd (bt s i)
        by_cases hasc : bt s i < 128
        · have hnx := fun ty => Lib.run_next_ascii_at (P := Tryd.prog) wr w1.heap.size s i ty hit hlt (by have := hbt i hlt; omega)
          by_cases h1 : hexv (bt s i) < 0
          · have HB := Lib.hid (dh_bad i hlt h1)
            have hd1 : decide (hexv (bt s i) < 0) = true := by simp; omega
            have hbel2 := Lib.below_iterAt hbel (k := w1.heap.size) (by omega) s (i + 1)
            clear hat hown
            go_wp2_with (go_at_call 27; refine (HexRune.digit_ascii _ _ (by omega) (by omega)).mono ?_; rintro e w' ⟨rfl, rfl⟩)
            go_ret2
            exact ⟨ret_sb HB.out.2.symm HB.out.1.symm, hbel2⟩
          · have hd1 : decide (hexv (bt s i) < 0) = false := by simp; omega
            have hih : i / 2 < s.size / 2 := by have := HEV.out; omega
            have hc := cellv_bd s i hat.out
            have HA := Lib.hid (allHex_step hat.out (show 0 ≤ hexv (bt s i) by omega))
            have hown2 := owns_iterAt hown hit (i + 1)
            have hcell : (wr.iterAt w1.heap.size s (i + 1)).cell? ⟨w.heap.size, i / 2, none⟩ = some (.int .u8 (cellv s i (i / 2))) := (hown2.cellAt (i / 2) (by omega)).trans (hrow_at s _ i _ hih)
            have hfr := hown2.frozenAt (i / 2)
            have HW := Lib.hid (hown2.stored (i / 2) (.int .u8 (cellv s (i + 1) (i / 2)))).1
            rw [hrow_set] at HW
            have hbel2 := Lib.below_iterAt hbel (k := w1.heap.size) (by omega) s (i + 1)
            have hit2 := Lib.iterAt_heap wr w1.heap.size s i (i + 1) hit
            have hor := or4_u8 (cellv s i (i / 2)) (hexv (bt s i)) hc.1 hc.2 (by omega) hv.2
            have HC := Lib.hid (cellv_step s i)
            clear hat hown hown2 hit
            go_wp2_with (go_at_call 27; refine (HexRune.digit_ascii _ _ (by omega) (by omega)).mono ?_; rintro e w' ⟨rfl, rfl⟩)
            go_roundw
            case rel =>
              rw [HC.out]
              exact ⟨i + 1, by omega, by rw [Below.heap_setCell _ _ _ _ (by simp; omega)]; exact hit2, HW.out, hbel2.setCell (Nat.le_refl _) _, HA⟩
            case measure =>
              rw [iterPos_of (p := i + 1) (by rw [Below.heap_setCell _ _ _ _ (by simp; omega)]; exact hit2)]
              rw [iterPos_of hit0.out]
              omega
        · have hnx := fun ty => Lib.run_next_any_at (P := Tryd.prog) wr w1.heap.size s i ty hit hlt
          have hval := Plain.decode_valid s i
          have hhi := Plain.decode_high s i hlt (by omega)
          obtain ⟨r, hr⟩ : ∃ r : Nat, r = (Utf8.decode s i).1 := ⟨_, rfl⟩
          obtain ⟨q, hq⟩ : ∃ q : Nat, q = (Utf8.decode s i).2 := ⟨_, rfl⟩
          rw [← hr] at hnx hval hhi
          rw [← hq] at hnx
          have hb128 : 128 ≤ bt s i := by omega
          have HB := Lib.hid (dh_bad i hlt (by rw [hexv_high _ hb128]; decide))
          have hbel2 := Lib.below_iterAt hbel (k := w1.heap.size) (by omega) s (i + q)
          have hr1 : (128 : Int) ≤ (r : Int) := by omega
          have HV := Lib.hid hval
          clear hat hown hr hq hval
          go_wp2_with (go_at_call 27; refine (HexRune.digit_high _ _ HV.out hr1).mono ?_; rintro e w2 ⟨rfl, hb2⟩)
          go_ret2
          exact ⟨ret_sb HB.out.2.symm HB.out.1.symm, hbel2.trans (hb2.mono hbel2.size)⟩
      · have e : i = s.size := by omega
        have HG := Lib.hid (show dhOk s = true ∧ dhStr s = strOfNums (hout s (s.size / 2)) from dh_good HEV.out (by rw [← e]; exact hat.out))
        have hown' : wr.ownsRow w.heap.size 5 1 (.slice (some ⟨w.heap.size, 0, none⟩) (s.size / 2) (s.size / 2)) (s.size / 2) ((hout s (s.size / 2)).map (Value.int .u8)) := by
          rw [← hrow_end, show 2 * (s.size / 2) = i from by have := HEV.out; omega]
          exact hown
        have hcv := convert_owned (P := Tryd.prog) wr 22 5 9 Tryd.underlying22 Tryd.underlying5 Tryd.underlying9 w.heap.size _ _ _ hown'
        have hnx := fun ty => Lib.run_next_end_at (P := Tryd.prog) wr w1.heap.size s i ty hit hlt
        clear hown hown' hat e
        go_wp2
        go_ret2
        exact ⟨ret_sb HG.out.2.symm HG.out.1.symm, hbel⟩
end HexDec
end Go.Proofs.YtkplmhnhpkpppaaDoor
