/- Contracts of the functions on digits, of the program and of the model. No conditions beyond those that each states. -/
import Derived.Test.YtbebifnnnmgihabDoorRows
import Derived.WalkKit
import Derived.ProofKit
import Derived.OpenShut
import Derived.PlainAid
import Derived.Lib.Hide
import Derived.BigQuiet
import Derived.Deep.QuietTactic
import Derived.WalkSmall
import Derived.IntWalk
import Derived.Test.YtbebifnnnmgihabDoorPlain
import Derived.Test.YtbebifnnnmgihabDoorKit
import Derived.Test.YtbebifnnnmgihabDoorCommon
import Derived.Test.YtbebifnnnmgihabDoorLists
import Derived.Test.YtbebifnnnmgihabDoorInts
import Derived.Test.YtbebifnnnmgihabDoorDigitsVal
import Derived.Test.YtbebifnnnmgihabDoorShelf
import Derived.Lib.OwnBridge
namespace Go.Proofs.YtbebifnnnmgihabDoor
open Go.ChangeShapes Go.WideShapes Go.ChangeAt Go.RowKit
open Go.PlainAid Plain
set_option linter.unusedVariables false
namespace Digits

theorem base_yes (b : Int) (w : World) (h1 : 2 ≤ b) (h2 : b ≤ 4) :
    Calls Tryd.prog 44 #[.int .i64 b] w fun e w' => e = .returned (.bool true) ∧ w = w' := by
  go_enter Tryd.func44, Tryd.ntmps44
  go_wp2
  go_ret
  exact ⟨rfl, rfl⟩
theorem base_no (b : Int) (w : World) (h1 : b < 2 ∨ 4 < b) :
    Calls Tryd.prog 44 #[.int .i64 b] w fun e w' => e = .returned (.bool false) ∧ w = w' := by
  by_cases h3 : 2 ≤ b
  · have h4 : 4 < b := by omega
    clear h1
    go_enter Tryd.func44, Tryd.ntmps44
    go_wp2
    go_ret
    exact ⟨by simp; omega, rfl⟩
  · clear h1
    go_enter Tryd.func44, Tryd.ntmps44
    go_wp2
    go_ret
    exact ⟨rfl, rfl⟩

theorem pow_next (b i : Nat) : ((b ^ i : Nat) : Int) * (b : Int) = ((b ^ (i + 1) : Nat) : Int) := by rw [Nat.pow_succ, Int.natCast_mul]
theorem ret_i {a b : Int} (h : a = b) : Ending.returned (.int .i64 a) = Ending.returned (.int .i64 b) := by rw [h]
/-- The power, 0 where base or exponent is out of range. -/
def powV (b k : Int) : Int := if 2 ≤ b ∧ b ≤ 4 ∧ 0 ≤ k ∧ k ≤ 16 then ((b.toNat ^ k.toNat : Nat) : Int) else 0
end Digits
end Go.Proofs.YtbebifnnnmgihabDoor
