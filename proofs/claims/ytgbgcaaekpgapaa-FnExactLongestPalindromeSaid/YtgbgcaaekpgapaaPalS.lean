/- Contracts of the model's IsPalindrome and LongestPalindrome. No conditions beyond those that each states. -/
import Derived.Test.YtgbgcaaekpgapaaPalVal
import Derived.Test.YtgbgcaaekpgapaaBorS
import Derived.Test.YtgbgcaaekpgapaaSeqEqual
import Derived.Test.YtgbgcaaekpgapaaDigits4
namespace Go.Proofs.Ytgbgcaaekpgapaa
open Go.ChangeShapes Go.WideShapes Go.ChangeAt Go.RowKit
open Go.PlainAid Plain
set_option linter.unusedVariables false
namespace Fac
open Seqs
theorem spec_pal (v : Value) (u : List Int) (w : World) (h : Lies (Value.int .i64) w v u) (hs : u.length ≤ 1048576) :
    Calls Try.prog 30 #[v] w fun e w' => e = .returned (.bool (palB u)) ∧ Below w.heap.size w w' := by
  have HC := Lib.hid (Digits.spec_rev v u w h hs)
  obtain ⟨pa, pc, rfl⟩ := lies_shape h
  have HU := Lib.hid h
  have HP : Hid (decide (u = u.reverse) = palB u) := rfl
  clear h
  go_enter Try.func30, Try.ntmps30
  go_wp2_with fail
  refine HC.out.mono ?_
  rintro e W1 ⟨vr, rfl, hv, b1⟩
  have HS := Lib.hid (same_ints _ _ _ _ _ (HU.out.below b1) hv.lies)
  have HB := Lib.hid b1
  obtain ⟨c, hc⟩ : ∃ c, c = decide (u = u.reverse) := ⟨_, rfl⟩
  rw [← hc] at HS
  rw [← hc] at HP
  clear hc hv b1
  go_wp2_with fail
  refine HS.out.mono ?_
  rintro e W2 ⟨rfl, n, rfl⟩
  go_wp2
  go_ret
  exact ⟨ret_b HP.out, below_drewN HB.out n⟩
set_option maxHeartbeats 2000000 in
theorem spec_lg (v : Value) (u : List Int) (w : World) (h : LiesC w v u) (hs : u.length ≤ 1048576) :
    Calls Try.prog 23 #[v] w fun e w' => e = .returned (.tuple #[.int .i64 (lgP u : Int), .int .i64 (lgN u : Int)]) ∧ Below w.heap.size w w' := by
  obtain ⟨pa, pc, rfl, hcap⟩ := h.form
  have HX := Lib.hid h
  have HLG := Lib.hid (fun i n (h : Lgst u i n) => lg_is h)
  obtain ⟨P, hP⟩ : ∃ P, P = lgP u := ⟨_, rfl⟩
  obtain ⟨N, hN⟩ : ∃ N, N = lgN u := ⟨_, rfl⟩
  rw [← hP, ← hN]
  rw [← hP, ← hN] at HLG
  clear h hP hN
  go_enter Try.func23, Try.ntmps23
  go_wp2
  go_loopw [4] (fun n' wr => ∃ n : Nat, n ≤ u.length ∧ n' = .int .i64 n ∧ Hid (∀ k j, n < k → j + k ≤ u.length → palAt u j k = false) ∧ Hid (Below w.heap.size w wr)) (fun n' _ => (intOf n').toNat)
  case atStart => exact ⟨u.length, Nat.le_refl _, rfl, fun k j h1 h2 => by omega, Below.refl _ _⟩
  case round =>
    obtain ⟨n, hn, rfl, HN, HB⟩ := hrel
    by_cases h0 : 0 < n
    · go_wp2
      obtain ⟨W6, hW6⟩ : ∃ W : World, W = wr := ⟨_, rfl⟩
      rw [← hW6] at HB ⊢
      clear hW6
      go_loopw [5] (fun i' wr => ∃ i : Nat, i ≤ u.length + 1 - n ∧ i' = .int .i64 i ∧ Hid (∀ j, j < i → palAt u j n = false) ∧ Hid (Below w.heap.size w wr)) (fun i' _ => u.length + 1 - (intOf i').toNat)
      case atStart => exact ⟨0, Nat.zero_le _, rfl, fun j h => by omega, HB⟩
      case round =>
        obtain ⟨i, hi, rfl, HI, HB⟩ := hrel
        by_cases hlt : i + n ≤ u.length
        · obtain ⟨a1, c1, hsl, hcut⟩ := (HX.out.below HB.out).slice (l := i) (h := i + n) (by omega) hlt (L := (i : Int)) (H := (i : Int) + (n : Int)) rfl (by omega)
          rw [show i + n - i = n from by omega] at hsl hcut
          have HPC := Lib.hid (spec_pal _ _ wr hcut.lies (by rw [List.length_take]; omega))
          obtain ⟨c, hc⟩ : ∃ c, c = palAt u i n := ⟨_, rfl⟩
          have hc2 : palB ((u.drop i).take n) = c := hc.symm
          rw [hc2] at HPC
          have HCC := Lib.hid hc
          clear hcut hc hc2
          go_wp2_with fail
          refine HPC.out.mono ?_
          rintro e W7 ⟨rfl, b7⟩
          have HB7 := Lib.hid (HB.out.trans (b7.mono HB.out.size))
          clear b7 HPC hsl
          cases c with
          | true =>
            have hq := HLG.out i n (.inr ⟨h0, hlt, HCC.out.symm, HI.out, HN.out⟩)
            have HQ := Lib.hid hq
            clear hq
            go_wp2
            go_ret2
            rw [← HQ.out.1, ← HQ.out.2]
            exact ⟨rfl, HB7.out⟩
          | false =>
            have HI2 : Hid (∀ j, j < i + 1 → palAt u j n = false) := fun j hj => by
              by_cases e : j = i
              · rw [e]; exact HCC.out.symm
              · exact HI.out j (by omega)
            go_wp2
            go_roundw
            case rel => exact ⟨i + 1, by omega, by go_num, HI2, HB7⟩
            case measure => simp [intOf] <;> omega
        · have HN2 : Hid (∀ k j, n - 1 < k → j + k ≤ u.length → palAt u j k = false) := fun k j h1 h2 => by
            by_cases e : k = n
            · subst e; exact HI.out j (by omega)
            · exact HN.out k j (by omega) h2
          obtain ⟨m, rfl⟩ : ∃ m, n = m + 1 := ⟨n - 1, by omega⟩
          rw [Nat.add_sub_cancel] at HN2
          go_wp2
          go_roundw
          case rel => exact ⟨m, by omega, by go_num, HN2, HB⟩
          case measure => simp [intOf] <;> omega
    · obtain rfl : n = 0 := by omega
      have hu : u.length = 0 := by
        rcases Nat.eq_zero_or_pos u.length with h1 | h1
        · exact h1
        · have := HN.out 1 0 (by omega) (by omega)
          rw [palAt_one h1] at this
          cases this
      have HQ := Lib.hid (HLG.out 0 0 (.inl ⟨hu, rfl, rfl⟩))
      clear hu
      go_wp2
      go_ret2
      rw [← HQ.out.1, ← HQ.out.2]
      exact ⟨rfl, HB.out⟩
end Fac
end Go.Proofs.Ytgbgcaaekpgapaa
