/- Contracts of the model's OccurrencesOf and IsFactor. No conditions beyond those that each states. -/
import Derived.Test.YtgbgcaaekpgapabCmp
import Derived.Deep.RegionHeld3
import Derived.Deep.DeepCutAuto
namespace Go.Proofs.Ytgbgcaaekpgapab
open Go.ChangeShapes Go.WideShapes Go.ChangeAt Go.RowKit
open Go.PlainAid Plain
set_option linter.unusedVariables false
namespace Fac
open Seqs
set_option maxHeartbeats 1000000 in
theorem spec_occ (u v : Value) (xs ys : List Int) (w : World) (h1 : LiesC w u xs) (h2 : Lies (Value.int .i64) w v ys) (hs : xs.length ≤ 4194304) (hs2 : ys.length ≤ 4194304) :
    Calls Try.prog 38 #[u, v] w (Gives (Value.int .i64) 3 (occ xs ys) w) := by
  obtain ⟨i0, hi, hz0, hz1, hz2⟩ := info_parts Ints.infoI
  obtain ⟨a, ca, rfl, hcap⟩ := h1.form
  have HX := Lib.hid h1
  have HY := Lib.hid h2
  obtain ⟨hl2, b, cb, rfl, _, _⟩ := h2
  have HB : Hid (Below w.heap.size w (w.alloc (Obj.cells #[] 3))) := (Below.refl _ _).alloc (Nat.le_refl _) _
  have HO : Hid (Has (Value.int .i64) 3 (w.alloc (Obj.cells #[] 3)) w.heap.size (.slice (some ⟨w.heap.size, 0, none⟩) 0 0) []) := has_lit0 rfl (Nat.le_refl _)
  clear h1
  go_enter Try.func38, Try.ntmps38
  go_wp2
  go_loopw [5, 6] (fun o' i' wr => ∃ (i : Nat) (vo : Value), i ≤ xs.length + 1 - ys.length ∧ i' = .int .i64 i ∧ vo = o' ∧ Hid (Has (Value.int .i64) 3 wr w.heap.size vo (occT xs ys i)) ∧ Hid (Below w.heap.size w wr)) (fun _ i' _ => xs.length + 1 - (intOf i').toNat)
  case atStart => exact ⟨0, _, Nat.zero_le _, rfl, rfl, HO, HB⟩
  case round =>
    obtain ⟨i, vo, hi', rfl, rfl, HOr, HBr⟩ := hrel
    by_cases hlt : i + ys.length ≤ xs.length
    · obtain ⟨a1, c1, hsl, hcut⟩ := (HX.out.below HBr.out).slice (l := i) (h := i + ys.length) (by omega) hlt (L := (i : Int)) (H := (i : Int) + (ys.length : Int)) rfl (by omega)
      rw [show i + ys.length - i = ys.length from by omega] at hsl hcut
      have HC := Lib.hid hcut
      clear hcut
      have HS := Lib.hid (same_ints _ _ _ _ _ HC.out.lies (HY.out.below HBr.out))
      obtain ⟨c, hc⟩ : ∃ c, decide ((xs.drop i).take ys.length = ys) = c := ⟨_, rfl⟩
      rw [hc] at HS
      obtain ⟨oa, oc, rfl, _⟩ := HOr.out.form
      have HL := Lib.hid (occT_len xs ys i)
      cases c with
      | true =>
        have HE := Lib.hid (occT_yes (of_decide_eq_true hc))
        clear hc
        go_wp2_with fail
        refine HS.out.mono ?_
        rintro e W1 ⟨rfl, n, rfl⟩
        have HO1 := Lib.hid (HOr.out.below (below_drewN (Below.refl _ _) n))
        have HB1 := Lib.hid (below_drewN HBr.out n)
        clear HOr HBr hsl HS
        obtain ⟨W1, hW1⟩ : ∃ W, W = wr.drewN n := ⟨_, rfl⟩
        rw [← hW1] at HO1 HB1 ⊢
        clear hW1
        obtain ⟨L, hL⟩ : ∃ L, L = occT xs ys i := ⟨_, rfl⟩
        have HLL : L.length ≤ i := by rw [hL]; exact HL.out
        rw [← hL] at HO1 HE ⊢
        clear hL
        go_wp2_with (refine append_one (enc := (Value.int .i64)) (e := 3) W1 rfl _ _ 22 rfl w.heap.size i0 (.int .i64 0) 8 Try.underlying22 hi hz0 hz1 hz2 rfl (.slice oa L.length oc) L rfl HO1.out (i : Int) rfl (fun _ => rfl) (by omega) (by omega) HB1.out.size ?_; intro v' w1 ho hg; have HO2 := Lib.hid ho; have HB2 := Lib.hid (HO1.out.frame HB1.out (Nat.le_refl _) hg); clear hg ho)
        go_roundw
        case rel => exact ⟨i + 1, _, by omega, by go_num, rfl, by rw [HE.out]; exact HO2, HB2⟩
        case measure => simp [intOf]; omega
      | false =>
        have HE := Lib.hid (occT_no (of_decide_eq_false hc))
        clear hc
        go_wp2_with (refine HS.out.mono ?_; rintro e W1 ⟨rfl, n, rfl⟩)
        go_roundw
        case rel => exact ⟨i + 1, _, by omega, by go_num, rfl, by rw [HE.out]; exact Lib.hid (HOr.out.below (below_drewN (Below.refl _ _) n)), Lib.hid (below_drewN HBr.out n)⟩
        case measure => simp [intOf]; omega
    · have HE : Hid (Has (Value.int .i64) 3 wr w.heap.size vo (occ xs ys)) := by
        have := HOr.out
        rw [occT_all (by omega)] at this
        exact this
      go_wp2
      go_ret
      exact ⟨_, rfl, HE.out, HBr.out⟩
end Fac
end Go.Proofs.Ytgbgcaaekpgapab
