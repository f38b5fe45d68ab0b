/- Contracts of the exact laws' own helpers on sequences, second part: copying one. No conditions beyond those that each states. -/
import Derived.Outline
import Derived.Test.YtfpdikohlafpiaaGreatSeqSz
import Derived.Test.YtfpdikohlafpiaaGreatCells3
namespace Go.Proofs.YtfpdikohlafpiaaGreat
open Go.ChangeShapes Go.WideShapes Go.ChangeAt Go.RowKit
open Go.PlainAid Plain
set_option linter.unusedVariables false
namespace Seqs
theorem infoR : (Tryz.prog.info? 24).map (fun i => (i.zero, i.size, i.bytes)) = some (some (.slice none 0 0), 1, 24) := by kernel_rfl
end Seqs
end Go.Proofs.YtfpdikohlafpiaaGreat
