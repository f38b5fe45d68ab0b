/- Contracts of the small tests on a width or a number: they answer whether the number lies in its range, and change nothing. No conditions beyond those that each states. -/
import Derived.Test.YtgbgcaaekpgapaaRows
import Derived.WalkKit
import Derived.ProofKit
import Derived.OpenShut
import Derived.ShutString
import Derived.PlainAid
import Derived.Lib.Hide
import Derived.Test.YtgbgcaaekpgapaaPlain
namespace Go.Proofs.Ytgbgcaaekpgapaa
open Go.ChangeShapes Go.WideShapes Go.ChangeAt Go.RowKit
open Go.ChangeMaps (open_string shut_string)
open Go.PlainAid Plain
set_option linter.unusedVariables false

end Go.Proofs.Ytgbgcaaekpgapaa
