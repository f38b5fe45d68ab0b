/- Contracts of the exact laws' own helpers on sequences, fifth part: asking one for the marks. No conditions beyond those that each states. -/
import Derived.Test.YtojmlhcgghaceaaSeqMark
namespace Go.Proofs.Ytojmlhcgghaceaa
open Go.ChangeShapes Go.WideShapes Go.ChangeAt Go.RowKit
open Go.PlainAid Plain
set_option linter.unusedVariables false
namespace Seqs
open Ints
theorem markI' (v : Value) (xs : List Int) (w : World) (lo hi : Nat) (h : OwnI w lo hi v xs) (h1 : xs.length ≤ 4194304) :
    Calls Try.prog 16 #[v, .int .i64 1] w fun e w' => e = .returned (.int .i64 (1 + xs.length)) ∧ OwnI w' lo hi v (marks 1 xs.length) ∧ Plain.Touch lo hi w w' :=
  (Ints.mark v xs w lo 1 h.has (by omega) (by omega)).mono fun e w' ⟨h2, h3, h4⟩ => ⟨h2, ⟨h3, h.lt, Nat.le_trans h.le h4.size⟩, Touch.of_wrote (Wrote.of_grown h4) fun x hx q hq => by
    obtain rfl : x = v := by simpa using hx
    exact h.range q hq⟩
end Seqs
end Go.Proofs.Ytojmlhcgghaceaa
