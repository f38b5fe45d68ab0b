/-
  No cell of these rows narrows 'for every input' (looked for: loops, veiled, ifaces, maps, wideKeys, modest, calm, conditions, laid).
  DERIVED. THE GIVEN ROWS OF THIS SEAT. 6 by the template 'for every input the law returns true; each argument reads behind the call as it read before'; 0 by the template 'total and deterministic' (their statements: YtjgcmklckchomaaTotals.lean).
  GIVEN WITH THE SEED: the statements are not yours to turn. If you find one false, say at which input.
  Laid BY PROGRAM, IN A SANDBOX (cutbox-rows.mjs): the forced cells as the released guide's own fill.sh prints them over the translation ceacd34cfc59edb7… (all of the seat's roots in one cut). By AI agents, Wed Nov 11 2026. No macro, syntax, notation, axiom, sorry.
-/
import Derived.Test.YtjgcmklckchomaaChecked
import GoSem.Claim
import GoSem.ClaimJoined
import GoSem.ClaimMapViews
import Derived.JoinedTies
import Derived.KernelRfl
namespace Go.Proofs.Ytjgcmklckchomaa
/- THE CELL 'sum', in the pinned program and in every row, IS THE sha256 OF THE DUMP (.gsa) THAT YtjgcmklckchomaaProg.lean LOADS. Nothing in Lean hashes anything: it is a label: what it is worth is what the hold of that sum in a sandbox is worth. -/
noncomputable def Try.pinned : Pinned := { name := "ytjgcmklckchomaa", sum := "ceacd34cfc59edb7a226f11ba60905d9c510b5beb425ac8488582b5625ccbdde", checked := Try.checked }
namespace Rows
def none {H : Type} : Left H := { results := [], args := [] }

/-- 'laws.FnExactCombineTerms': WHATEVER THE INPUT: true; the input reads as it did. -/
def fnExactCombineTermsSpec : ChangeSpec := { name := "fnExactCombineTerms", fn := fun _ => fun
  | [d1, d2, d3] => { results := [.lit (.bool true)], args := [d1, d2, d3] }
  | _ => none }
def fnExactCombineTermsRow : OpenClaim := { program := "ytjgcmklckchomaa", sum := "ceacd34cfc59edb7a226f11ba60905d9c510b5beb425ac8488582b5625ccbdde", func := "loop.example/g02079/laws.FnExactCombineTerms", spec := "fnExactCombineTerms", unfollowed := true, recurses := true, apart := false }
def FnExactCombineTermsSaid : Prop := fnExactCombineTermsRow.holds Try.pinned (OpenSpec.ofChange fnExactCombineTermsSpec)

/-- ITS FALSE NEIGHBOUR: 'it returns false'. Refute it at one input. -/
def fnExactCombineTermsWrong : ChangeSpec := { name := "fnExactCombineTerms", fn := fun _ => fun
  | [d1, d2, d3] => { results := [.lit (.bool false)], args := [d1, d2, d3] }
  | _ => none }
def FnExactCombineTermsWrongFalsely : Prop := fnExactCombineTermsRow.holds Try.pinned (OpenSpec.ofChange fnExactCombineTermsWrong)

/-- 'laws.FnExactMapOutputs': WHATEVER THE INPUT: true; the input reads as it did. -/
def fnExactMapOutputsSpec : ChangeSpec := { name := "fnExactMapOutputs", fn := fun _ => fun
  | [d1, d2] => { results := [.lit (.bool true)], args := [d1, d2] }
  | _ => none }
def fnExactMapOutputsRow : OpenClaim := { program := "ytjgcmklckchomaa", sum := "ceacd34cfc59edb7a226f11ba60905d9c510b5beb425ac8488582b5625ccbdde", func := "loop.example/g02079/laws.FnExactMapOutputs", spec := "fnExactMapOutputs", apart := false }
def FnExactMapOutputsSaid : Prop := fnExactMapOutputsRow.holds Try.pinned (OpenSpec.ofChange fnExactMapOutputsSpec)

/-- ITS FALSE NEIGHBOUR: 'it returns false'. Refute it at one input. -/
def fnExactMapOutputsWrong : ChangeSpec := { name := "fnExactMapOutputs", fn := fun _ => fun
  | [d1, d2] => { results := [.lit (.bool false)], args := [d1, d2] }
  | _ => none }
def FnExactMapOutputsWrongFalsely : Prop := fnExactMapOutputsRow.holds Try.pinned (OpenSpec.ofChange fnExactMapOutputsWrong)

/-- 'laws.FnExactConstantSequence': WHATEVER THE INPUT: true; the input reads as it did. -/
def fnExactConstantSequenceSpec : ChangeSpec := { name := "fnExactConstantSequence", fn := fun _ => fun
  | [d1, d2] => { results := [.lit (.bool true)], args := [d1, d2] }
  | _ => none }
def fnExactConstantSequenceRow : OpenClaim := { program := "ytjgcmklckchomaa", sum := "ceacd34cfc59edb7a226f11ba60905d9c510b5beb425ac8488582b5625ccbdde", func := "loop.example/g02079/laws.FnExactConstantSequence", spec := "fnExactConstantSequence", apart := false }
def FnExactConstantSequenceSaid : Prop := fnExactConstantSequenceRow.holds Try.pinned (OpenSpec.ofChange fnExactConstantSequenceSpec)

/-- ITS FALSE NEIGHBOUR: 'it returns false'. Refute it at one input. -/
def fnExactConstantSequenceWrong : ChangeSpec := { name := "fnExactConstantSequence", fn := fun _ => fun
  | [d1, d2] => { results := [.lit (.bool false)], args := [d1, d2] }
  | _ => none }
def FnExactConstantSequenceWrongFalsely : Prop := fnExactConstantSequenceRow.holds Try.pinned (OpenSpec.ofChange fnExactConstantSequenceWrong)

/-- 'laws.FnExactShiftedSequence': WHATEVER THE INPUT: true; the input reads as it did. -/
def fnExactShiftedSequenceSpec : ChangeSpec := { name := "fnExactShiftedSequence", fn := fun _ => fun
  | [d] => { results := [.lit (.bool true)], args := [d] }
  | _ => none }
def fnExactShiftedSequenceRow : OpenClaim := { program := "ytjgcmklckchomaa", sum := "ceacd34cfc59edb7a226f11ba60905d9c510b5beb425ac8488582b5625ccbdde", func := "loop.example/g02079/laws.FnExactShiftedSequence", spec := "fnExactShiftedSequence", unfollowed := true, recurses := true, apart := false }
def FnExactShiftedSequenceSaid : Prop := fnExactShiftedSequenceRow.holds Try.pinned (OpenSpec.ofChange fnExactShiftedSequenceSpec)

/-- ITS FALSE NEIGHBOUR: 'it returns false'. Refute it at one input. -/
def fnExactShiftedSequenceWrong : ChangeSpec := { name := "fnExactShiftedSequence", fn := fun _ => fun
  | [d] => { results := [.lit (.bool false)], args := [d] }
  | _ => none }
def FnExactShiftedSequenceWrongFalsely : Prop := fnExactShiftedSequenceRow.holds Try.pinned (OpenSpec.ofChange fnExactShiftedSequenceWrong)

/-- 'laws.FnExactDigitSequence': WHATEVER THE INPUT: true; the input reads as it did. -/
def fnExactDigitSequenceSpec : ChangeSpec := { name := "fnExactDigitSequence", fn := fun _ => fun
  | [d1, d2] => { results := [.lit (.bool true)], args := [d1, d2] }
  | _ => none }
def fnExactDigitSequenceRow : OpenClaim := { program := "ytjgcmklckchomaa", sum := "ceacd34cfc59edb7a226f11ba60905d9c510b5beb425ac8488582b5625ccbdde", func := "loop.example/g02079/laws.FnExactDigitSequence", spec := "fnExactDigitSequence", apart := false }
def FnExactDigitSequenceSaid : Prop := fnExactDigitSequenceRow.holds Try.pinned (OpenSpec.ofChange fnExactDigitSequenceSpec)

/-- ITS FALSE NEIGHBOUR: 'it returns false'. Refute it at one input. -/
def fnExactDigitSequenceWrong : ChangeSpec := { name := "fnExactDigitSequence", fn := fun _ => fun
  | [d1, d2] => { results := [.lit (.bool false)], args := [d1, d2] }
  | _ => none }
def FnExactDigitSequenceWrongFalsely : Prop := fnExactDigitSequenceRow.holds Try.pinned (OpenSpec.ofChange fnExactDigitSequenceWrong)

/-- 'laws.FnExactCombineValues': WHATEVER THE INPUT: true; the input reads as it did. -/
def fnExactCombineValuesSpec : ChangeSpec := { name := "fnExactCombineValues", fn := fun _ => fun
  | [d1, d2, d3] => { results := [.lit (.bool true)], args := [d1, d2, d3] }
  | _ => none }
def fnExactCombineValuesRow : OpenClaim := { program := "ytjgcmklckchomaa", sum := "ceacd34cfc59edb7a226f11ba60905d9c510b5beb425ac8488582b5625ccbdde", func := "loop.example/g02079/laws.FnExactCombineValues", spec := "fnExactCombineValues", unfollowed := true, recurses := true, apart := false }
def FnExactCombineValuesSaid : Prop := fnExactCombineValuesRow.holds Try.pinned (OpenSpec.ofChange fnExactCombineValuesSpec)

/-- ITS FALSE NEIGHBOUR: 'it returns false'. Refute it at one input. -/
def fnExactCombineValuesWrong : ChangeSpec := { name := "fnExactCombineValues", fn := fun _ => fun
  | [d1, d2, d3] => { results := [.lit (.bool false)], args := [d1, d2, d3] }
  | _ => none }
def FnExactCombineValuesWrongFalsely : Prop := fnExactCombineValuesRow.holds Try.pinned (OpenSpec.ofChange fnExactCombineValuesWrong)

/- THE SECOND FORM. 'bulk': how many values and letters a reading holds, each counted each time it is reached (what is shared counts as often as it is met; a slice's spare places count too). A statement '..UptoSaid' is the law's where the arguments, and the package variables that the reading takes, are together of bulk at most 1048576: NARROWER than '..Said'. Prove '..Said' where nothing that the law and all that it calls make is longer than what came in: it says more and counts as full. Else prove '..UptoSaid'. A law counts once. -/
mutual
def uptoBulk {H : Type} : DataW H → Nat
  | .lit (.string bytes) => bytes.length + 1
  | .lit _ => 1
  | .nil => 1
  | .ptr d => uptoBulk d + 1
  | .slice elems spare => uptoBulkAll elems + uptoBulkAll spare + 1
  | .agg parts => uptoBulkAll parts + 1
  | .iface _ d => uptoBulk d + 1
  | .map entries => uptoBulkEntries entries + 1
  | .held _ => 1
def uptoBulkAll {H : Type} : List (DataW H) → Nat
  | [] => 0
  | d :: r => uptoBulk d + uptoBulkAll r
def uptoBulkEntries {H : Type} : List (Lit × DataW H) → Nat
  | [] => 0
  | x :: r => uptoBulkEntry x + uptoBulkEntries r
def uptoBulkEntry {H : Type} : Lit × DataW H → Nat
  | (.string bytes, d) => bytes.length + uptoBulk d + 1
  | (_, d) => uptoBulk d + 1
 end
def uptoSmall : (H : Type) → List (DataW H) → Bool := fun _ ds => decide (uptoBulkAll ds ≤ 1048576)
def OpenSpec.upto (s : _root_.Go.ChangeSpec) : _root_.Go.OpenSpec := { _root_.Go.OpenSpec.ofChange s with cond := some uptoSmall }

/-- 'laws.FnExactCombineTerms', WHERE WHAT IT READS IS OF BULK AT MOST 1048576: true; the input reads as it did. -/
def fnExactCombineTermsUptoRow : OpenClaim := { program := "ytjgcmklckchomaa", sum := "ceacd34cfc59edb7a226f11ba60905d9c510b5beb425ac8488582b5625ccbdde", func := "loop.example/g02079/laws.FnExactCombineTerms", spec := "fnExactCombineTerms", unfollowed := true, recurses := true, apart := false, narrowed := true }
def FnExactCombineTermsUptoSaid : Prop := fnExactCombineTermsUptoRow.holds Try.pinned (OpenSpec.upto fnExactCombineTermsSpec)

/-- 'laws.FnExactMapOutputs', WHERE WHAT IT READS IS OF BULK AT MOST 1048576: true; the input reads as it did. -/
def fnExactMapOutputsUptoRow : OpenClaim := { program := "ytjgcmklckchomaa", sum := "ceacd34cfc59edb7a226f11ba60905d9c510b5beb425ac8488582b5625ccbdde", func := "loop.example/g02079/laws.FnExactMapOutputs", spec := "fnExactMapOutputs", apart := false, narrowed := true }
def FnExactMapOutputsUptoSaid : Prop := fnExactMapOutputsUptoRow.holds Try.pinned (OpenSpec.upto fnExactMapOutputsSpec)

/-- 'laws.FnExactConstantSequence', WHERE WHAT IT READS IS OF BULK AT MOST 1048576: true; the input reads as it did. -/
def fnExactConstantSequenceUptoRow : OpenClaim := { program := "ytjgcmklckchomaa", sum := "ceacd34cfc59edb7a226f11ba60905d9c510b5beb425ac8488582b5625ccbdde", func := "loop.example/g02079/laws.FnExactConstantSequence", spec := "fnExactConstantSequence", apart := false, narrowed := true }
def FnExactConstantSequenceUptoSaid : Prop := fnExactConstantSequenceUptoRow.holds Try.pinned (OpenSpec.upto fnExactConstantSequenceSpec)

/-- 'laws.FnExactShiftedSequence', WHERE WHAT IT READS IS OF BULK AT MOST 1048576: true; the input reads as it did. -/
def fnExactShiftedSequenceUptoRow : OpenClaim := { program := "ytjgcmklckchomaa", sum := "ceacd34cfc59edb7a226f11ba60905d9c510b5beb425ac8488582b5625ccbdde", func := "loop.example/g02079/laws.FnExactShiftedSequence", spec := "fnExactShiftedSequence", unfollowed := true, recurses := true, apart := false, narrowed := true }
def FnExactShiftedSequenceUptoSaid : Prop := fnExactShiftedSequenceUptoRow.holds Try.pinned (OpenSpec.upto fnExactShiftedSequenceSpec)

/-- 'laws.FnExactDigitSequence', WHERE WHAT IT READS IS OF BULK AT MOST 1048576: true; the input reads as it did. -/
def fnExactDigitSequenceUptoRow : OpenClaim := { program := "ytjgcmklckchomaa", sum := "ceacd34cfc59edb7a226f11ba60905d9c510b5beb425ac8488582b5625ccbdde", func := "loop.example/g02079/laws.FnExactDigitSequence", spec := "fnExactDigitSequence", apart := false, narrowed := true }
def FnExactDigitSequenceUptoSaid : Prop := fnExactDigitSequenceUptoRow.holds Try.pinned (OpenSpec.upto fnExactDigitSequenceSpec)

/-- 'laws.FnExactCombineValues', WHERE WHAT IT READS IS OF BULK AT MOST 1048576: true; the input reads as it did. -/
def fnExactCombineValuesUptoRow : OpenClaim := { program := "ytjgcmklckchomaa", sum := "ceacd34cfc59edb7a226f11ba60905d9c510b5beb425ac8488582b5625ccbdde", func := "loop.example/g02079/laws.FnExactCombineValues", spec := "fnExactCombineValues", unfollowed := true, recurses := true, apart := false, narrowed := true }
def FnExactCombineValuesUptoSaid : Prop := fnExactCombineValuesUptoRow.holds Try.pinned (OpenSpec.upto fnExactCombineValuesSpec)

end Rows
end Go.Proofs.Ytjgcmklckchomaa
