/- Contracts of the program's FactorsOf, CountFactors and ReturnWords. No conditions beyond those that each states. -/
import Derived.Test.YtcnejfihpaicdaaDiffJ
import Derived.Test.YtcnejfihpaicdaaOccJ
import Derived.Deep.RegionHeld3
import Derived.Deep.DeepCutAuto
namespace Go.Proofs.Ytcnejfihpaicdaa
open Go.ChangeShapes Go.WideShapes Go.ChangeAt Go.RowKit
open Go.PlainAid Plain
set_option linter.unusedVariables false
namespace Fac
open Seqs
theorem rk_no {xs : List Int} {n : Int} {W : World} {e : Ending} {W' : World} (h : facK xs n = false) (hg : GivesRK [] false W e W') : GivesRK (facV xs n) (facK xs n) W e W' := by rw [facV_no h, h]; exact hg
theorem rk_yes {xs : List Int} {n : Nat} {W : World} {e : Ending} {W' : World} (h : facK xs n = true) (hg : GivesRK (sdl (wins xs n)) true W e W') : GivesRK (facV xs n) (facK xs n) W e W' := by rw [facV_yes h, h]; exact hg
theorem ownR_nil (w : World) (lo : Nat) : OwnR w lo w.heap.size (.slice none 0 0) [] [] := ⟨World.ownsRow_nil _ _ _ _, (fun k hk => by cases hk), Nat.le_refl _, OwnRows.nil _ _ _⟩
theorem facK_B {xs : List Int} {n : Int} (h : facB xs = true) (h1 : 0 ≤ n) (h2 : n ≤ 40) : facK xs n = true := by simp [facK, h, h1, h2]
theorem facB_len {xs : List Int} (h : facB xs = true) : xs.length ≤ 128 := by simp only [facB, Bool.and_eq_true, decide_eq_true_eq] at h; exact h.2
set_option maxRecDepth 100000 in
set_option maxHeartbeats 4000000 in
/-- The different parts of n letters, in order. -/
theorem parts (u : Value) (xs : List Int) (N : Nat) (w w1 : World) (h : LiesC w u xs) (hb : Below w.heap.size w w1) (h128 : xs.length ≤ 128) (hN40 : N ≤ 128) :
    Calls Try.prog 39 #[u, .int .i64 N] w1 fun e w' => ∃ v us, e = .returned v ∧ OwnR w' w.heap.size w'.heap.size v us (sdl (wins xs N)) ∧ Below w.heap.size w w' := by
  obtain ⟨j0, hj, hy0, hy1, hy2⟩ := info_parts infoR'
  obtain ⟨a, ca, rfl, hcap⟩ := h.form
  have HX := Lib.hid h
  have hsm := h.1.1
  have HB1 := Lib.hid hb
  clear h hb
  go_enter Try.func39, Try.ntmps39
  go_wp2
  go_loopw [5, 12] (fun o' i' wr => ∃ (i : Nat) (vo : Value) (L : List (Part w)), i ≤ xs.length + 1 - N ∧ i' = .int .i64 i ∧ vo = o' ∧ Hid (Has Part.v 22 wr w.heap.size vo L) ∧ Hid (L.map Part.k = (wins xs N).take i) ∧ Hid (Below w.heap.size w wr)) (fun _ i' _ => xs.length + 1 - (intOf i').toNat)
  case atStart => exact ⟨0, _, [], Nat.zero_le _, rfl, rfl, World.ownsRow_nil _ _ _ _, rfl, HB1⟩
  case round =>
    obtain ⟨i, vo, L, hi', rfl, rfl, HOr, HLr, HBr⟩ := hrel
    by_cases hlt : i + N ≤ xs.length
    · obtain ⟨a1, c1, hsl, hcut⟩ := HX.out.slice (l := i) (h := i + N) (by omega) hlt (L := (i : Int)) (H := (i : Int) + (N : Int)) rfl (by omega)
      rw [show i + N - i = N from by omega] at hsl hcut
      have hlL : L.length ≤ 129 := by
        have := congrArg List.length HLr.out
        rw [List.length_map, List.length_take, wins_len] at this
        omega
      obtain ⟨va, vc, hvo, _⟩ := HOr.out.form
      subst hvo
      have HP : Hid ((L ++ [Part.mk hcut.1]).map Part.k = (wins xs N).take (i + 1)) := by
        show _ = _
        rw [wins_take hlt, List.map_append, HLr.out]
        rfl
      have HCT := Lib.hid hcut
      have hrg : (i : Int) < (xs.length : Int) - (N : Int) + 1 := by omega
      go_wp2_with (refine append_one (enc := Part.v) (e := 22) wr rfl _ _ 26 rfl w.heap.size j0 (.slice none 0 0) 24 Try.underlying26 hj hy0 hy1 hy2 rfl (.slice va L.length vc) L rfl HOr.out (Part.mk HCT.out.1) rfl (fun x => x.one) (by omega) (by omega) HBr.out.size ?_; intro v' w1 ho hg; have HO2 := Lib.hid ho; have HB2 := Lib.hid (HOr.out.frame HBr.out (Nat.le_refl _) hg); clear hg ho)
      go_roundw
      case rel => exact ⟨i + 1, _, _, by omega, by go_num, rfl, HO2, HP, HB2⟩
      case measure => simp [intOf]; omega
    · have hE : L.map Part.k = wins xs N := by
        have := HLr.out
        rwa [wins_all (by omega)] at this
      have hlL : L.length ≤ 100000 := by
        have := congrArg List.length hE
        rw [List.length_map, wins_len] at this
        omega
      have HD := Lib.hid (diff vo w wr L HBr.out HOr.out hlL fun x hx => by
        have := wins_row (xs := xs) (n := N) (p := x.k) (by rw [← hE]; exact List.mem_map_of_mem hx)
        omega)
      rw [hE] at HD
      have hrg : ¬ (i : Int) < (xs.length : Int) - (N : Int) + 1 := by omega
      clear hE hlL
      go_wp2_with fail
      refine HD.out.mono ?_
      rintro e W5 ⟨v5, us5, rfl, ho5, b5⟩
      have HO5 := Lib.hid ho5
      have HB5 := Lib.hid b5
      clear ho5 b5 HD
      go_wp2
      go_ret
      exact ⟨_, us5, rfl, HO5.out, HB5.out⟩
end Fac
end Go.Proofs.Ytcnejfihpaicdaa
