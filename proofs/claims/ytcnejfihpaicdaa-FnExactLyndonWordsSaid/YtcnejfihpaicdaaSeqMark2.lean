/- The laws' marks, begun at a later number: behind another argument's. No conditions beyond those that each states. -/
import Derived.Test.YtcnejfihpaicdaaSeqHeld
namespace Go.Proofs.Ytcnejfihpaicdaa
open Go.ChangeShapes Go.WideShapes Go.ChangeAt Go.RowKit
open Go.PlainAid Plain
open Ints (marks)
set_option linter.unusedVariables false
namespace Seqs
theorem markIk (v : Value) (xs : List Int) (w : World) (lo hi : Nat) (k : Int) (h : OwnI w lo hi v xs) (h1 : xs.length ≤ 4194304) (hk0 : 0 ≤ k) (hk1 : k ≤ 4194304) :
    Calls Try.prog 18 #[v, .int .i64 k] w fun e w' => e = .returned (.int .i64 (k + xs.length)) ∧ OwnI w' lo hi v (marks k xs.length) ∧ Plain.Touch lo hi w w' :=
  (Ints.mark v xs w lo k h.has hk0 (by omega)).mono fun e w' ⟨h2, h3, h4⟩ => ⟨h2, ⟨h3, h.lt, Nat.le_trans h.le h4.size⟩, Touch.of_wrote (Wrote.of_grown h4) fun x hx q hq => by
    obtain rfl : x = v := by simpa using hx
    exact h.range q hq⟩
end Seqs
end Go.Proofs.Ytcnejfihpaicdaa
