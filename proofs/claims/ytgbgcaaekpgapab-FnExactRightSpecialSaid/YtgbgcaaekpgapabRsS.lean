/- Contracts of the model's RightSpecial and ReturnWords. No conditions beyond those that each states. -/
import Derived.Test.YtgbgcaaekpgapabFacS
import Derived.Test.YtgbgcaaekpgapabOccS
import Derived.Deep.RegionHeld3
import Derived.Deep.DeepCutAuto
namespace Go.Proofs.Ytgbgcaaekpgapab
open Go.ChangeShapes Go.WideShapes Go.ChangeAt Go.RowKit
open Go.PlainAid Plain
set_option linter.unusedVariables false
namespace Fac
open Seqs
theorem not_in {x : Int} {xs : List Int} (h : ∀ (j : Nat) (y : Int), xs[j]? = some y → ¬ y = x) : ¬ x ∈ xs := fun hm => by
  obtain ⟨j, hj⟩ := List.getElem?_of_mem hm
  exact h j x hj rfl
theorem spec_has (v : Value) (xs : List Int) (x : Int) (w : World) (h : Lies (Value.int .i64) w v xs) :
    Calls Try.prog 39 #[v, .int .i64 x] w fun e w' => e = .returned (.bool (decide (x ∈ xs))) ∧ w = w' := by
  obtain ⟨hl, a, ca, rfl, _, hca⟩ := h
  have HA := Lib.hid hca
  clear hca
  go_enter Try.func39, Try.ntmps39
  go_wp2
  go_loop [5] (fun i' => ∃ k : Nat, k ≤ xs.length ∧ i' = .int .i64 k ∧ Hid (∀ (j : Nat) (y : Int), j < k → xs[j]? = some y → ¬ y = x)) (fun i' => xs.length - (intOf i').toNat)
  case atStart => exact ⟨0, Nat.zero_le _, rfl, fun j y h => by omega⟩
  case round =>
    obtain ⟨k, hk, rfl, HI⟩ := hrel
    by_cases hlt : k < xs.length
    · obtain ⟨y, hy⟩ : ∃ y, xs[k]? = some y := ⟨_, List.getElem?_eq_getElem hlt⟩
      obtain ⟨p, o, rfl, hcl⟩ := HA.out k y hy
      have HY := Lib.hid hy
      clear hy
      by_cases he : y = x
      · have hd : (y == x) = true := by simpa using he
        have HE : Hid (true = decide (x ∈ xs)) := (decide_eq_true (he ▸ List.mem_of_getElem? HY.out)).symm
        clear he
        go_wp2
        go_ret
        exact ⟨ret_b HE.out, rfl⟩
      · have hd : (y == x) = false := by simpa using he
        have HN : Hid (∀ (j : Nat) (z : Int), j < k + 1 → xs[j]? = some z → ¬ z = x) := fun j z hj hz => by
          by_cases e : j = k
          · subst e
            obtain rfl := Option.some.inj (HY.out.symm.trans hz)
            exact he
          · exact HI.out j z (by omega) hz
        clear he
        go_wp2
        go_round
        case rel => exact ⟨k + 1, by omega, by go_num, HN⟩
        case measure => simp [intOf]; omega
    · have HE : Hid (false = decide (x ∈ xs)) := (decide_eq_false (not_in fun j y hj => HI.out j y (by have := (List.getElem?_eq_some_iff.1 hj).1; omega) hj)).symm
      go_wp2
      go_ret
      exact ⟨ret_b HE.out, rfl⟩
theorem rv_no {xs ys : List Int} {W : World} {e : Ending} {W' : World} (h : retK xs ys = false) (hg : GivesV [] W e W') : GivesV (retV xs ys) W e W' := by rw [retV_no h]; exact hg
theorem rv_yes {xs ys : List Int} {W : World} {e : Ending} {W' : World} (h : facB xs = true) (h2 : 0 < ys.length) (hg : GivesV (sdl (segs xs (occ xs ys))) W e W') : GivesV (retV xs ys) W e W' := by rw [retV_yes h h2]; exact hg
/-- Two places, one behind the other, in the word. -/
theorem occ_two {xs ys : List Int} {k : Nat} (h : k + 1 < (occ xs ys).length) : ∃ p q : Nat, (occ xs ys)[k]? = some (p : Int) ∧ (occ xs ys)[k + 1]? = some (q : Int) ∧ p ≤ q ∧ q ≤ xs.length := by
  obtain ⟨x, hx⟩ : ∃ x, (occ xs ys)[k]? = some x := ⟨_, List.getElem?_eq_getElem (by omega)⟩
  obtain ⟨y, hy⟩ : ∃ y, (occ xs ys)[k + 1]? = some y := ⟨_, List.getElem?_eq_getElem h⟩
  have h1 := occ_at hx
  have h2 := occ_at hy
  have h3 := occ_asc hx hy
  refine ⟨x.toNat, y.toNat, ?_, ?_, by omega, by omega⟩
  · rw [hx]; congr 1; omega
  · rw [hy]; congr 1; omega
end Fac
end Go.Proofs.Ytgbgcaaekpgapab
