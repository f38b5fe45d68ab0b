/- Contracts of the model's FactorsOf, CountFactors and ComplexityOf. No conditions beyond those that each states. -/
import Derived.Test.YtgbgcaaekpgapabPutS
import Derived.Test.YtgbgcaaekpgapabFacVal2
import Derived.Test.YtgbgcaaekpgapabWord
import Derived.Test.YtgbgcaaekpgapabCommon
namespace Go.Proofs.Ytgbgcaaekpgapab
open Go.ChangeShapes Go.WideShapes Go.ChangeAt Go.RowKit
open Go.PlainAid Plain
set_option linter.unusedVariables false
namespace Fac
open Seqs
theorem vk_no {xs : List Int} {n : Int} {W : World} {e : Ending} {W' : World} (h : facK xs n = false) (hg : GivesVK [] false W e W') : GivesVK (facV xs n) (facK xs n) W e W' := by rw [facV_no h, h]; exact hg
theorem vk_yes {xs : List Int} {n : Nat} {W : World} {e : Ending} {W' : World} (h : facK xs n = true) (hg : GivesVK (sdl (wins xs n)) true W e W') : GivesVK (facV xs n) (facK xs n) W e W' := by rw [facV_yes h, h]; exact hg
set_option maxRecDepth 100000 in
set_option maxHeartbeats 2000000 in
theorem spec_fac (u : Value) (xs : List Int) (n : Int) (w : World) (h : LiesC w u xs) :
    Calls Try.prog 22 #[u, .int .i64 n] w (GivesVK (facV xs n) (facK xs n) w) := by
  obtain ⟨a, ca, rfl, hcap⟩ := h.form
  have HX := Lib.hid h
  have HB : Hid (Below w.heap.size w (w.alloc (Obj.cells #[] 22))) := (Below.refl _ _).alloc (Nat.le_refl _) _
  have HO : Hid (Has id 22 (w.alloc (Obj.cells #[] 22)) w.heap.size (.slice (some ⟨w.heap.size, 0, none⟩) 0 0) []) := has_lit0 (enc := id) rfl (Nat.le_refl _)
  clear h
  go_enter Try.func22, Try.ntmps22
  go_wp2_with fail
  obtain ⟨W, hW⟩ : ∃ W, W = w.alloc (Obj.cells #[] 22) := ⟨_, rfl⟩
  rw [← hW] at HB HO ⊢
  clear hW
  refine (Mor.spec_word _ xs 16 _ (HX.out.lies.below HB.out)).mono ?_
  rintro e W1 ⟨rfl, rfl⟩
  obtain ⟨c, hc⟩ : ∃ c, wordB xs 16 = c := ⟨_, rfl⟩
  rw [hc]
  have HC := Lib.hid hc
  clear hc
  cases c with
  | false =>
    go_wp2
    go_ret2
    exact vk_no (facK_no (facB_no1 HC.out)) ⟨_, rfl, (RowsV.nil HO.out).own, HB.out⟩
  | true =>
    by_cases h128 : xs.length ≤ 128
    · by_cases hn : 0 ≤ n ∧ n ≤ 40
      · obtain ⟨N, hN⟩ : ∃ N : Nat, n = N := ⟨n.toNat, by omega⟩
        subst hN
        have hN40 : N ≤ 40 := by omega
        have HK := Lib.hid (facK_yes HC.out h128 hn.1 hn.2)
        clear hn
        have hd := decide_eq_false (show ¬ (xs.length : Int) > 128 by omega)
        go_wp2_with (go_at_call 36; refine (l1In_yes _ _ _ _ (by omega) (by omega)).mono ?_; rintro e w' ⟨rfl, rfl⟩)
        clear hd
        go_loopw [6, 7] (fun o' i' wr => ∃ (i : Nat) (vo : Value), i ≤ xs.length + 1 - N ∧ i' = .int .i64 i ∧ vo = o' ∧ Hid (RowsV wr w.heap.size w.heap.size vo (sdl ((wins xs N).take i))) ∧ Hid (Below w.heap.size w wr)) (fun _ i' _ => xs.length + 1 - (intOf i').toNat)
        case atStart => exact ⟨0, _, Nat.zero_le _, rfl, rfl, RowsV.nil HO.out, HB⟩
        case round =>
          obtain ⟨i, vo, hi', rfl, rfl, HOr, HBr⟩ := hrel
          by_cases hlt : i + N ≤ xs.length
          · obtain ⟨a1, c1, hsl, hcut⟩ := (HX.out.below HBr.out).slice (l := i) (h := i + N) (by omega) hlt (L := (i : Int)) (H := (i : Int) + (N : Int)) rfl (by omega)
            rw [show i + N - i = N from by omega] at hsl hcut
            have HCT := Lib.hid hcut
            clear hcut
            have HS := Lib.hid (sdl_snoc ((wins xs N).take i) ((xs.drop i).take N))
            have hlen : (sdl ((wins xs N).take i)).length ≤ 10000 := by
              have h1 := sdl_len ((wins xs N).take i)
              rw [List.length_take] at h1
              omega
            have HP := Lib.hid (put vo _ (sdl ((wins xs N).take i)) _ wr w.heap.size w.heap.size HOr.out HCT.out.lies HBr.out.size hlen (by rw [List.length_take, List.length_drop]; omega))
            have HT := Lib.hid (wins_take hlt)
            clear hlen
            go_wp2_with fail
            refine HP.out.mono ?_
            rintro e W5 ⟨v5, rfl, ho5, b5⟩
            rw [← HS.out, ← HT.out] at ho5
            have HO5 := Lib.hid (ho5.mono HBr.out.size (Nat.le_refl _))
            have HB5 := Lib.hid (HBr.out.trans (b5.mono HBr.out.size))
            clear ho5 b5 HP hsl
            go_wp2
            go_roundw
            case rel => exact ⟨i + 1, _, by omega, by go_num, rfl, HO5, HB5⟩
            case measure => simp [intOf]; omega
          · have HE : Hid (RowsV wr w.heap.size w.heap.size vo (sdl (wins xs N))) := by
              have := HOr.out
              rw [wins_all (by omega)] at this
              exact this
            go_wp2
            go_ret2
            exact vk_yes HK.out ⟨_, rfl, HE.out.own, HBr.out⟩
      · have hd := decide_eq_false (show ¬ (xs.length : Int) > 128 by omega)
        have HK := Lib.hid (facK_no3 (xs := xs) hn)
        have hn' : n < 0 ∨ 40 < n := by omega
        go_wp2_with (go_at_call 36; refine (l1In_no _ _ _ _ hn').mono ?_; rintro e w' ⟨rfl, rfl⟩)
        go_ret2
        exact vk_no HK.out ⟨_, rfl, (RowsV.nil HO.out).own, HB.out⟩
    · have hd := decide_eq_true (show (xs.length : Int) > 128 by omega)
      go_wp2
      go_ret2
      exact vk_no (facK_no (facB_no2 h128)) ⟨_, rfl, (RowsV.nil HO.out).own, HB.out⟩
theorem spec_cnt (u : Value) (xs : List Int) (n : Int) (w : World) (h : LiesC w u xs) :
    Calls Try.prog 24 #[u, .int .i64 n] w fun e w' => e = .returned (.int .i64 (cntV xs n)) ∧ Below w.heap.size w w' := by
  have HC := Lib.hid (spec_fac u xs n w h)
  clear h
  obtain ⟨k, hk⟩ : ∃ k, facK xs n = k := ⟨_, rfl⟩
  obtain ⟨l, hl⟩ : ∃ l, facV xs n = l := ⟨_, rfl⟩
  have hsm : l.length ≤ 129 := by rw [← hl]; exact facV_len _ _
  rw [hk, hl] at HC
  have HK := Lib.hid hk
  have HL := Lib.hid hl
  clear hk hl
  go_enter Try.func24, Try.ntmps24
  go_wp2_with fail
  refine HC.out.mono ?_
  rintro e W1 ⟨v1, rfl, ho, hb⟩
  obtain ⟨us, h1, _, _, h2, _⟩ := ho
  obtain ⟨a1, c1, rfl, _⟩ := h1.form
  rw [h2]
  have HB := Lib.hid hb
  clear h1 h2 hb
  cases k with
  | false =>
    go_wp2
    go_ret
    exact ⟨ret_i (cntV_no HK.out).symm, HB.out⟩
  | true =>
    go_wp2
    go_ret
    exact ⟨ret_i (by rw [cntV_yes HK.out, HL.out]), HB.out⟩
end Fac
end Go.Proofs.Ytgbgcaaekpgapab
