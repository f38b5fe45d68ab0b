/- Contracts of the program's FactorsOf, CountFactors and ReturnWords. No conditions beyond those that each states. -/
import Derived.Test.YtgbgcaaekpgapabDiffJ
import Derived.Test.YtgbgcaaekpgapabOccJ
import Derived.Deep.RegionHeld3
import Derived.Deep.DeepCutAuto
namespace Go.Proofs.Ytgbgcaaekpgapab
open Go.ChangeShapes Go.WideShapes Go.ChangeAt Go.RowKit
open Go.PlainAid Plain
set_option linter.unusedVariables false
namespace Fac
open Seqs
theorem has_fac (v : Value) (xs : List Int) (w : World) (h : Lies (Value.int .i64) w v xs) :
    Calls Try.prog 37 #[v] w fun e w' => e = .returned (.bool (facB xs)) ∧ Below w.heap.size w w' := by
  obtain ⟨a, c, rfl⟩ : ∃ a c, v = .slice a xs.length c := by obtain ⟨_, a, c, h, _⟩ := h; exact ⟨a, c, h⟩
  have hsm := h.1
  have HL := Lib.hid h
  clear h
  by_cases h1 : xs.length ≤ 128
  · have HF : Hid (wordB xs 16 = facB xs) := by show _ = _; simp [facB, h1]
    obtain ⟨c1, hc1⟩ : ∃ c1, c1 = wordB xs 16 := ⟨_, rfl⟩
    have HW := Lib.hid (Mor.impl_word _ xs 16 w HL.out)
    rw [← hc1] at HW HF
    clear hc1
    go_enter Try.func37, Try.ntmps37
    go_wp2_with (go_at_call 34; refine HW.out.mono ?_; rintro e w' ⟨rfl, hb⟩)
    go_ret
    exact ⟨ret_b HF.out, hb⟩
  · have HF : Hid (false = facB xs) := (facB_no2 h1).symm
    go_enter Try.func37, Try.ntmps37
    go_wp2
    go_ret
    exact ⟨ret_b HF.out, Below.refl _ _⟩
theorem rk_no {xs : List Int} {n : Int} {W : World} {e : Ending} {W' : World} (h : facK xs n = false) (hg : GivesRK [] false W e W') : GivesRK (facV xs n) (facK xs n) W e W' := by rw [facV_no h, h]; exact hg
theorem rk_yes {xs : List Int} {n : Nat} {W : World} {e : Ending} {W' : World} (h : facK xs n = true) (hg : GivesRK (sdl (wins xs n)) true W e W') : GivesRK (facV xs n) (facK xs n) W e W' := by rw [facV_yes h, h]; exact hg
theorem ownR_nil (w : World) (lo : Nat) : OwnR w lo w.heap.size (.slice none 0 0) [] [] := ⟨World.ownsRow_nil _ _ _ _, (fun k hk => by cases hk), Nat.le_refl _, OwnRows.nil _ _ _⟩
theorem facK_B {xs : List Int} {n : Int} (h : facB xs = true) (h1 : 0 ≤ n) (h2 : n ≤ 40) : facK xs n = true := by simp [facK, h, h1, h2]
theorem facB_len {xs : List Int} (h : facB xs = true) : xs.length ≤ 128 := by simp only [facB, Bool.and_eq_true, decide_eq_true_eq] at h; exact h.2
set_option maxRecDepth 100000 in
set_option maxHeartbeats 4000000 in
/-- The different parts of n letters, in order. -/
theorem parts (u : Value) (xs : List Int) (N : Nat) (w w1 : World) (h : LiesC w u xs) (hb : Below w.heap.size w w1) (h128 : xs.length ≤ 128) (hN40 : N ≤ 128) :
    Calls Try.prog 35 #[u, .int .i64 N] w1 fun e w' => ∃ v us, e = .returned v ∧ OwnR w' w.heap.size w'.heap.size v us (sdl (wins xs N)) ∧ Below w.heap.size w w' := by
  obtain ⟨j0, hj, hy0, hy1, hy2⟩ := info_parts infoR'
  obtain ⟨a, ca, rfl, hcap⟩ := h.form
  have HX := Lib.hid h
  have hsm := h.1.1
  have HB1 := Lib.hid hb
  clear h hb
  go_enter Try.func35, Try.ntmps35
  go_wp2
  go_loopw [5, 12] (fun o' i' wr => ∃ (i : Nat) (vo : Value) (L : List (Part w)), i ≤ xs.length + 1 - N ∧ i' = .int .i64 i ∧ vo = o' ∧ Hid (Has Part.v 22 wr w.heap.size vo L) ∧ Hid (L.map Part.k = (wins xs N).take i) ∧ Hid (Below w.heap.size w wr)) (fun _ i' _ => xs.length + 1 - (intOf i').toNat)
  case atStart => exact ⟨0, _, [], Nat.zero_le _, rfl, rfl, World.ownsRow_nil _ _ _ _, rfl, HB1⟩
  case round =>
    obtain ⟨i, vo, L, hi', rfl, rfl, HOr, HLr, HBr⟩ := hrel
    by_cases hlt : i + N ≤ xs.length
    · obtain ⟨a1, c1, hsl, hcut⟩ := HX.out.slice (l := i) (h := i + N) (by omega) hlt (L := (i : Int)) (H := (i : Int) + (N : Int)) rfl (by omega)
      rw [show i + N - i = N from by omega] at hsl hcut
      have hlL : L.length ≤ 129 := by
        have := congrArg List.length HLr.out
        rw [List.length_map, List.length_take, wins_len] at this
        omega
      obtain ⟨va, vc, hvo, _⟩ := HOr.out.form
      subst hvo
      have HP : Hid ((L ++ [Part.mk hcut.1]).map Part.k = (wins xs N).take (i + 1)) := by
        show _ = _
        rw [wins_take hlt, List.map_append, HLr.out]
        rfl
      have HCT := Lib.hid hcut
      have hrg : (i : Int) < (xs.length : Int) - (N : Int) + 1 := by omega
      go_wp2_with (refine append_one (enc := Part.v) (e := 22) wr rfl _ _ 27 rfl w.heap.size j0 (.slice none 0 0) 24 Try.underlying27 hj hy0 hy1 hy2 rfl (.slice va L.length vc) L rfl HOr.out (Part.mk HCT.out.1) rfl (fun x => x.one) (by omega) (by omega) HBr.out.size ?_; intro v' w1 ho hg; have HO2 := Lib.hid ho; have HB2 := Lib.hid (HOr.out.frame HBr.out (Nat.le_refl _) hg); clear hg ho)
      go_roundw
      case rel => exact ⟨i + 1, _, _, by omega, by go_num, rfl, HO2, HP, HB2⟩
      case measure => simp [intOf]; omega
    · have hE : L.map Part.k = wins xs N := by
        have := HLr.out
        rwa [wins_all (by omega)] at this
      have hlL : L.length ≤ 100000 := by
        have := congrArg List.length hE
        rw [List.length_map, wins_len] at this
        omega
      have HD := Lib.hid (diff vo w wr L HBr.out HOr.out hlL fun x hx => by
        have := wins_row (xs := xs) (n := N) (p := x.k) (by rw [← hE]; exact List.mem_map_of_mem hx)
        omega)
      rw [hE] at HD
      have hrg : ¬ (i : Int) < (xs.length : Int) - (N : Int) + 1 := by omega
      clear hE hlL
      go_wp2_with fail
      refine HD.out.mono ?_
      rintro e W5 ⟨v5, us5, rfl, ho5, b5⟩
      have HO5 := Lib.hid ho5
      have HB5 := Lib.hid b5
      clear ho5 b5 HD
      go_wp2
      go_ret
      exact ⟨_, us5, rfl, HO5.out, HB5.out⟩
set_option maxRecDepth 100000 in
set_option maxHeartbeats 4000000 in
theorem impl_fac (u : Value) (xs : List Int) (n : Int) (w : World) (h : LiesC w u xs) :
    Calls Try.prog 23 #[u, .int .i64 n] w (GivesRK (facV xs n) (facK xs n) w) := by
  obtain ⟨a, ca, rfl, hcap⟩ := h.form
  have HX := Lib.hid h
  have hsm := h.1.1
  have HF := Lib.hid (has_fac _ xs w h.1)
  obtain ⟨c, hc⟩ : ∃ c, c = facB xs := ⟨_, rfl⟩
  rw [← hc] at HF
  have HC := Lib.hid hc
  clear h hc
  cases c with
  | false =>
    go_enter Try.func23, Try.ntmps23
    go_wp2_with (go_at_call 37; refine HF.out.mono ?_; rintro e w' ⟨rfl, hb⟩)
    go_ret2
    exact rk_no (facK_no HC.out.symm) ⟨_, [], rfl, ownR_nil _ _, hb⟩
  | true =>
    by_cases hn0 : n < 0
    · have HK := Lib.hid (facK_no3 (xs := xs) (n := n) (by omega))
      go_enter Try.func23, Try.ntmps23
      go_wp2_with (go_at_call 37; refine HF.out.mono ?_; rintro e w' ⟨rfl, hb⟩)
      go_ret2
      exact rk_no HK.out ⟨_, [], rfl, ownR_nil _ _, hb⟩
    · by_cases hn4 : 40 < n
      · have HK := Lib.hid (facK_no3 (xs := xs) (n := n) (by omega))
        go_enter Try.func23, Try.ntmps23
        go_wp2_with (go_at_call 37; refine HF.out.mono ?_; rintro e w' ⟨rfl, hb⟩)
        go_ret2
        exact rk_no HK.out ⟨_, [], rfl, ownR_nil _ _, hb⟩
      · obtain ⟨N, hN⟩ : ∃ N : Nat, n = N := ⟨n.toNat, by omega⟩
        subst hN
        have hN40 : N ≤ 40 := by omega
        have h128 := facB_len HC.out.symm
        have HK := Lib.hid (facK_B HC.out.symm (Int.natCast_nonneg N) (by omega))
        clear hn0 hn4
        have hd0 := decide_eq_false (show ¬ (N : Int) < 0 by omega)
        have hd1 := decide_eq_false (show ¬ (N : Int) > 40 by omega)
        go_enter Try.func23, Try.ntmps23
        go_wp2_with (go_at_call 37; refine HF.out.mono ?_; rintro e W1 ⟨rfl, hb⟩; have HB1 := Lib.hid hb; have HP := Lib.hid (parts _ xs N w W1 HX.out hb h128 (by omega)); clear hb hd0 hd1)
        refine HP.out.mono ?_
        rintro e W5 ⟨v5, us5, rfl, ho5, b5⟩
        have HO5 := Lib.hid ho5
        have HB5 := Lib.hid b5
        clear ho5 b5 HP
        go_wp2
        go_ret2
        exact rk_yes HK.out ⟨_, us5, rfl, HO5.out, HB5.out⟩
theorem impl_cnt (u : Value) (xs : List Int) (n : Int) (w : World) (h : LiesC w u xs) :
    Calls Try.prog 25 #[u, .int .i64 n] w fun e w' => e = .returned (.int .i64 (cntV xs n)) ∧ Below w.heap.size w w' := by
  have HC := Lib.hid (impl_fac u xs n w h)
  clear h
  obtain ⟨k, hk⟩ : ∃ k, facK xs n = k := ⟨_, rfl⟩
  obtain ⟨l, hl⟩ : ∃ l, facV xs n = l := ⟨_, rfl⟩
  have hsm : l.length ≤ 129 := by rw [← hl]; exact facV_len _ _
  rw [hk, hl] at HC
  have HK := Lib.hid hk
  have HL := Lib.hid hl
  clear hk hl
  go_enter Try.func25, Try.ntmps25
  go_wp2_with fail
  refine HC.out.mono ?_
  rintro e W1 ⟨v1, us, rfl, ho, hb⟩
  have h2 := ho.rows.len
  obtain ⟨a1, c1, rfl, _⟩ := ho.top.form
  rw [h2]
  have HB := Lib.hid hb
  clear h2 ho hb
  cases k with
  | false =>
    go_wp2
    go_ret
    exact ⟨ret_i (cntV_no HK.out).symm, HB.out⟩
  | true =>
    go_wp2
    go_ret
    exact ⟨ret_i (by rw [cntV_yes HK.out, HL.out]), HB.out⟩
end Fac
end Go.Proofs.Ytgbgcaaekpgapab
