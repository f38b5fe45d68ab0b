/- Contracts of IsMinimal and AreSameTerms, program and model: by the minimal forms. Conditions: the arguments' sizes, as each states. -/
import Derived.Test.YthnmighlgifoeaaMinS
namespace Go.Proofs.Ythnmighlgifoeaa
open Go.ChangeShapes Go.WideShapes Go.ChangeAt Go.RowKit
open Go.PlainAid Plain
set_option linter.unusedVariables false
namespace Mins
open Seqs
def isMinB (b : Int) (rows : List (List Int)) (out : List Int) : Bool := formK b rows out && ((minRV b rows out).length : Int) == (rows.length : Int)
def sameT (b b' : Int) (rows rows' : List (List Int)) (out out' : List Int) : Bool :=
  (formK b rows out && formK b' rows' out') && sameB (formB b rows out) (formB b' rows' out') (minRV b rows out) (minRV b' rows' out') (minOV b rows out) (minOV b' rows' out')
end Mins
end Go.Proofs.Ythnmighlgifoeaa
