/- Contracts of the exact laws' own helpers on sequences, third part: comparing two that are equal. No conditions beyond those that each states. -/
import Derived.Test.YtfpdikohlafpiaaGreatSeqSz
import Derived.Outline
namespace Go.Proofs.YtfpdikohlafpiaaGreat
open Go.ChangeShapes Go.WideShapes Go.ChangeAt Go.RowKit
open Go.PlainAid Plain
set_option linter.unusedVariables false
namespace Seqs
theorem quiet_more {P : Program} {f : FuncId} {args : Array Value} {w : World} {a n : Nat} {v : Value}
    (h : Calls P f args (w.drewN (a + n)) fun e w' => e = .returned v ∧ ∃ m, w' = (w.drewN (a + n)).drewN m) :
    Calls P f args (w.drewN (a + n)) fun e w'' => e = .returned v ∧ ∃ m, w'' = w.drewN (a + m) :=
  h.mono fun _ _ ⟨he, m, hm⟩ => ⟨he, n + m, by rw [hm, World.drewN_drewN, Nat.add_assoc]⟩
theorem Lies_drewN {v : Value} {xs : List Int} {w : World} (h : Lies (Value.int .i64) w v xs) (n : Nat) : Lies (Value.int .i64) (w.drewN n) v xs := h.below (below_drewN (Below.refl _ _) n)
end Seqs
end Go.Proofs.YtfpdikohlafpiaaGreat
