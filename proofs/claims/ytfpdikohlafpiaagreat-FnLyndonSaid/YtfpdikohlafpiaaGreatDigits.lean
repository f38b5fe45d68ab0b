/- Contracts of the functions on digits, of the program and of the model. No conditions beyond those that each states. -/
import Derived.Test.YtfpdikohlafpiaaGreatRows
import Derived.WalkKit
import Derived.ProofKit
import Derived.OpenShut
import Derived.PlainAid
import Derived.Lib.Hide
import Derived.BigQuiet
import Derived.Deep.QuietTactic
import Derived.WalkSmall
import Derived.IntWalk
import Derived.Test.YtfpdikohlafpiaaGreatPlain
import Derived.Test.YtfpdikohlafpiaaGreatKit
import Derived.Test.YtfpdikohlafpiaaGreatCommon
import Derived.Test.YtfpdikohlafpiaaGreatLists
import Derived.Test.YtfpdikohlafpiaaGreatInts
import Derived.Test.YtfpdikohlafpiaaGreatDigitsVal
import Derived.Test.YtfpdikohlafpiaaGreatShelf
import Derived.Lib.OwnBridge
namespace Go.Proofs.YtfpdikohlafpiaaGreat
open Go.ChangeShapes Go.WideShapes Go.ChangeAt Go.RowKit
open Go.PlainAid Plain
set_option linter.unusedVariables false
namespace Digits

theorem pow_next (b i : Nat) : ((b ^ i : Nat) : Int) * (b : Int) = ((b ^ (i + 1) : Nat) : Int) := by rw [Nat.pow_succ, Int.natCast_mul]
theorem ret_i {a b : Int} (h : a = b) : Ending.returned (.int .i64 a) = Ending.returned (.int .i64 b) := by rw [h]
theorem spec_pow (b k : Nat) (w : World) (h1 : 2 ≤ b) (h2 : b ≤ 4) (hk : k ≤ 16) :
    Calls Tryz.prog 92 #[.int .i64 b, .int .i64 k] w fun e w' => e = .returned (.int .i64 ((b ^ k : Nat) : Int)) ∧ w = w' := by
  go_enter Tryz.func92, Tryz.ntmps92
  go_wp2_with (go_at_call 41; refine (l1In_yes _ _ _ _ (by omega) (by omega)).mono ?_; rintro e w' ⟨rfl, rfl⟩)
  go_loop [5, 6] (fun n' i' => ∃ i : Nat, i ≤ k ∧ i' = .int .i64 i ∧ n' = .int .i64 ((b ^ i : Nat) : Int)) (fun _ i' => k - (intOf i').toNat)
  case atStart => exact ⟨0, Nat.zero_le _, rfl, rfl⟩
  case round =>
    obtain ⟨i, hi, rfl, rfl⟩ := hrel
    by_cases hlt : i < k
    · have hb := pow_bd b (i + 1) h1 h2 (by omega)
      have hb1 := pow_bd b i h1 h2 (by omega)
      have hn := pow_next b i
      obtain ⟨p, hp⟩ : ∃ p, p = b ^ i := ⟨_, rfl⟩
      obtain ⟨q, hq⟩ : ∃ q, q = b ^ (i + 1) := ⟨_, rfl⟩
      rw [← hp] at hb1
      rw [← hq] at hb
      rw [← hp, ← hq] at hn
      have HQ := Lib.hid hq
      rw [← hp]
      clear hp hq
      have h0 : 0 ≤ (p : Int) * (b : Int) := by omega
      have h9 : (p : Int) * (b : Int) ≤ 4294967296 := by omega
      have HN := Lib.hid hn
      clear hn
      go_wp2
      go_round
      case rel => exact ⟨i + 1, by omega, by go_num, by rw [HN.out, HQ.out]⟩
      case measure => simp [intOf]; omega
    · obtain rfl : i = k := by omega
      go_wp2
      go_ret
      exact ⟨rfl, rfl⟩
/-- The power, 0 where base or exponent is out of range. -/
def powV (b k : Int) : Int := if 2 ≤ b ∧ b ≤ 4 ∧ 0 ≤ k ∧ k ≤ 16 then ((b.toNat ^ k.toNat : Nat) : Int) else 0
theorem spec_pow_any (b k : Int) (w : World) : Calls Tryz.prog 92 #[.int .i64 b, .int .i64 k] w fun e w' => e = .returned (.int .i64 (powV b k)) ∧ w = w' := by
  by_cases h : 2 ≤ b ∧ b ≤ 4 ∧ 0 ≤ k ∧ k ≤ 16
  · rw [powV, if_pos h]
    obtain ⟨n, rfl⟩ := Int.eq_ofNat_of_zero_le (show 0 ≤ b by omega)
    obtain ⟨m, rfl⟩ := Int.eq_ofNat_of_zero_le (show 0 ≤ k by omega)
    exact spec_pow n m w (by omega) (by omega) (by omega)
  · rw [powV, if_neg h]
    by_cases h2 : 2 ≤ b ∧ b ≤ 4
    · have h3 : k < 0 ∨ 16 < k := by omega
      obtain ⟨h4, h5⟩ := h2
      clear h
      go_enter Tryz.func92, Tryz.ntmps92
      go_wp2_with fail
      refine (l1In_yes _ _ _ _ h4 h5).mono ?_
      rintro e w' ⟨rfl, rfl⟩
      go_wp2_with fail
      refine (l1In_no _ _ _ _ h3).mono ?_
      rintro e w' ⟨rfl, rfl⟩
      go_wp2
      go_ret
      exact ⟨rfl, rfl⟩
    · have h3 : b < 2 ∨ 4 < b := by omega
      clear h h2
      go_enter Tryz.func92, Tryz.ntmps92
      go_wp2_with (go_at_call 41; refine (l1In_no _ _ _ _ h3).mono ?_; rintro e w' ⟨rfl, rfl⟩)
      go_ret
      exact ⟨rfl, rfl⟩
/-- slices.Clone of any slice. -/
theorem clone_lies (v : Value) (xs : List Int) (w : World) (h : Lies (Value.int .i64) w v xs) (hs : xs.length ≤ 1048576) :
    Calls Tryz.prog 30 #[v] w (Gives (Value.int .i64) 3 xs w) := by
  obtain ⟨hl, a, cap, rfl, hn, hc⟩ := h
  cases a with
  | none =>
    have hy : xs = [] := by
      cases xs with
      | nil => rfl
      | cons y l => obtain ⟨_, _, h', _⟩ := hc 0 y rfl; cases h'
    subst hy
    refine (Tryz.slices_Clone_int_nil _ _ w).mono ?_
    rintro e w' ⟨rfl, rfl⟩
    exact ⟨_, rfl, World.ownsRow_nil _ _ _ _, Below.refl _ _⟩
  | some ad =>
    cases hx : xs with
    | nil =>
      refine (Tryz.slices_Clone_int_zero ad cap w).mono ?_
      rintro e w' ⟨v', rfl, ho, _, hb⟩
      exact ⟨_, rfl, ho, hb⟩
    | cons y ys =>
      obtain ⟨b, off, he, _⟩ := hc 0 y (by rw [hx]; rfl)
      obtain rfl := Option.some.inj he
      rw [← hx]
      refine (Tryz.slices_Clone_int b off xs.length cap xs w (Nat.le_refl _) (by omega) ?_).mono ?_
      · intro j hj
        obtain ⟨b', off', he', hcell⟩ := hc j _ (List.getElem?_eq_getElem hj)
        injection he' with he'
        injection he' with e1 e2
        subst e1; subst e2
        rw [hcell]
        simp [List.getD, hj]
      · rintro e w' ⟨v', rfl, ho, _, hb⟩
        rw [List.take_length] at ho
        exact ⟨_, rfl, ho, hb⟩
end Digits
end Go.Proofs.YtfpdikohlafpiaaGreat
