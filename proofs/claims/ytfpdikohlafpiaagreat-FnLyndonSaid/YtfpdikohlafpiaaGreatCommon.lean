/- Contracts of the small tests on a width or a number: they answer whether the number lies in its range, and change nothing. No conditions beyond those that each states. -/
import Derived.Test.YtfpdikohlafpiaaGreatRows
import Derived.WalkKit
import Derived.ProofKit
import Derived.OpenShut
import Derived.ShutString
import Derived.PlainAid
import Derived.Lib.Hide
import Derived.Test.YtfpdikohlafpiaaGreatPlain
namespace Go.Proofs.YtfpdikohlafpiaaGreat
open Go.ChangeShapes Go.WideShapes Go.ChangeAt Go.RowKit
open Go.ChangeMaps (open_string shut_string)
open Go.PlainAid Plain
set_option linter.unusedVariables false

theorem l1In_yes (a l h : Int) (w : World) (h1 : l ≤ a) (h2 : a ≤ h) :
    Calls Tryz.prog 41 #[.int .i64 a, .int .i64 l, .int .i64 h] w fun e w' => e = .returned (.bool true) ∧ w = w' := by
  go_enter Tryz.func41, Tryz.ntmps41
  go_wp2
  go_ret
  exact ⟨rfl, rfl⟩
theorem l1In_no (a l h : Int) (w : World) (h1 : a < l ∨ h < a) :
    Calls Tryz.prog 41 #[.int .i64 a, .int .i64 l, .int .i64 h] w fun e w' => e = .returned (.bool false) ∧ w = w' := by
  by_cases h3 : l ≤ a
  · have h4 : h < a := by omega
    clear h1
    go_enter Tryz.func41, Tryz.ntmps41
    go_wp2
    go_ret
    exact ⟨by simp; omega, rfl⟩
  · clear h1
    go_enter Tryz.func41, Tryz.ntmps41
    go_wp2
    go_ret
    exact ⟨rfl, rfl⟩
end Go.Proofs.YtfpdikohlafpiaaGreat
