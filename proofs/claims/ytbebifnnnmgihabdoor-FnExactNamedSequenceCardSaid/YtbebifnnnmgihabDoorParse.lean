/- Contracts of ParseInt in the program and in the model: each returns the number it has read where the text is that number's numeral with at most nine digits, else 0 and false; what was in memory stays as it was. The program's asks that the library's table of powers of ten hold its numbers. -/
import Derived.Test.YtbebifnnnmgihabDoorRows
import Derived.WalkKit
import Derived.ProofKit
import Derived.OpenShut
import Derived.ShutString
import Derived.PlainAid
import Derived.Lib.Hide
import Derived.Lib.OthersKept
import Derived.Laws.RangeAny
import Derived.WalkSmall
import Derived.BigQuiet
import Derived.Test.YtbebifnnnmgihabDoorPlain
import Derived.Test.YtbebifnnnmgihabDoorKit
import Derived.Test.YtbebifnnnmgihabDoorParseVal
import Derived.Test.YtbebifnnnmgihabDoorIntFmt
import Derived.Test.YtbebifnnnmgihabDoorShelf
namespace Go.Proofs.YtbebifnnnmgihabDoor
open Go.ChangeShapes Go.WideShapes Go.ChangeAt Go.RowKit
open Go.ChangeMaps (open_string shut_string)
open Go.PlainAid Plain
set_option linter.unusedVariables false
namespace Parse
theorem ret_ib {a b : Int} {c d : Bool} (h : a = b) (k : c = d) : Ending.returned (.tuple #[.int .i64 a, .bool c]) = Ending.returned (.tuple #[.int .i64 b, .bool d]) := by rw [h, k]
/-- What ParseInt returns. -/
instance (s : ByteArray) : Decidable (SpecGood s) := by unfold SpecGood; infer_instance
def resV (s : ByteArray) : Int := if SpecGood s then sn s else 0
def resB (s : ByteArray) : Bool := decide (SpecGood s)
theorem res_yes {s : ByteArray} (h : SpecGood s) : resV s = sn s ∧ resB s = true := ⟨if_pos h, by simp [resB, h]⟩
theorem res_no {s : ByteArray} (h : ¬ SpecGood s) : resV s = 0 ∧ resB s = false := ⟨if_neg h, by simp [resB, h]⟩
theorem beq_str {a b : ByteArray} (h : a = b) : (a.toList == b.toList) = true := by rw [h]; simp
theorem bne_str {a b : ByteArray} (h : a ≠ b) : (a.toList == b.toList) = false := by
  rw [Lib.toList_data, Lib.toList_data]
  refine beq_eq_false_iff_ne.2 (fun e => h ?_)
  apply ByteArray.ext
  exact Array.toList_inj.1 e

end Parse
end Go.Proofs.YtbebifnnnmgihabDoor
