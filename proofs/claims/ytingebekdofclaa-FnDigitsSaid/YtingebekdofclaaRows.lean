/-
  No cell of these rows narrows 'for every input' (looked for: loops, veiled, ifaces, maps, wideKeys, modest, calm, conditions, laid).
  DERIVED. THE GIVEN ROWS OF THIS SEAT. 8 by the template 'for every input the law returns true; each argument reads behind the call as it read before'; 0 by the template 'total and deterministic' (their statements: YtingebekdofclaaTotals.lean).
  GIVEN WITH THE SEED: the statements are not yours to turn. If you find one false, say at which input.
  Laid BY PROGRAM, IN A SANDBOX (cutbox-rows.mjs): the forced cells as the released guide's own fill.sh prints them over the translation f808792377c8a942… (all of the seat's roots in one cut). By AI agents, Wed Nov 11 2026. No macro, syntax, notation, axiom, sorry.
-/
import Derived.Test.YtingebekdofclaaChecked
import GoSem.Claim
import GoSem.ClaimJoined
import GoSem.ClaimMapViews
import Derived.JoinedTies
import Derived.KernelRfl
namespace Go.Proofs.Ytingebekdofclaa
/- THE CELL 'sum', in the pinned program and in every row, IS THE sha256 OF THE DUMP (.gsa) THAT YtingebekdofclaaProg.lean LOADS. Nothing in Lean hashes anything: it is a label: what it is worth is what the hold of that sum in a sandbox is worth. -/
noncomputable def Try.pinned : Pinned := { name := "ytingebekdofclaa", sum := "f808792377c8a942aa129a86cac169aee64f06e76043f63370f1f8104b593e28", checked := Try.checked }
namespace Rows
def none {H : Type} : Left H := { results := [], args := [] }

/-- 'laws.FnDigits': WHATEVER THE INPUT: true; the input reads as it did. -/
def fnDigitsSpec : ChangeSpec := { name := "fnDigits", fn := fun _ => fun
  | [d] => { results := [.lit (.bool true)], args := [d] }
  | _ => none }
def fnDigitsRow : OpenClaim := { program := "ytingebekdofclaa", sum := "f808792377c8a942aa129a86cac169aee64f06e76043f63370f1f8104b593e28", func := "loop.example/g02079/laws.FnDigits", spec := "fnDigits", apart := false }
def FnDigitsSaid : Prop := fnDigitsRow.holds Try.pinned (OpenSpec.ofChange fnDigitsSpec)

/-- ITS FALSE NEIGHBOUR: 'it returns false'. Refute it at one input. -/
def fnDigitsWrong : ChangeSpec := { name := "fnDigits", fn := fun _ => fun
  | [d] => { results := [.lit (.bool false)], args := [d] }
  | _ => none }
def FnDigitsWrongFalsely : Prop := fnDigitsRow.holds Try.pinned (OpenSpec.ofChange fnDigitsWrong)

/-- 'laws.FnExactDigitsOf': WHATEVER THE INPUT: true; the input reads as it did. -/
def fnExactDigitsOfSpec : ChangeSpec := { name := "fnExactDigitsOf", fn := fun _ => fun
  | [d1, d2] => { results := [.lit (.bool true)], args := [d1, d2] }
  | _ => none }
def fnExactDigitsOfRow : OpenClaim := { program := "ytingebekdofclaa", sum := "f808792377c8a942aa129a86cac169aee64f06e76043f63370f1f8104b593e28", func := "loop.example/g02079/laws.FnExactDigitsOf", spec := "fnExactDigitsOf", apart := false }
def FnExactDigitsOfSaid : Prop := fnExactDigitsOfRow.holds Try.pinned (OpenSpec.ofChange fnExactDigitsOfSpec)

/-- ITS FALSE NEIGHBOUR: 'it returns false'. Refute it at one input. -/
def fnExactDigitsOfWrong : ChangeSpec := { name := "fnExactDigitsOf", fn := fun _ => fun
  | [d1, d2] => { results := [.lit (.bool false)], args := [d1, d2] }
  | _ => none }
def FnExactDigitsOfWrongFalsely : Prop := fnExactDigitsOfRow.holds Try.pinned (OpenSpec.ofChange fnExactDigitsOfWrong)

/-- 'laws.FnExactValueOf': WHATEVER THE INPUT: true; the input reads as it did. -/
def fnExactValueOfSpec : ChangeSpec := { name := "fnExactValueOf", fn := fun _ => fun
  | [d1, d2] => { results := [.lit (.bool true)], args := [d1, d2] }
  | _ => none }
def fnExactValueOfRow : OpenClaim := { program := "ytingebekdofclaa", sum := "f808792377c8a942aa129a86cac169aee64f06e76043f63370f1f8104b593e28", func := "loop.example/g02079/laws.FnExactValueOf", spec := "fnExactValueOf", apart := false }
def FnExactValueOfSaid : Prop := fnExactValueOfRow.holds Try.pinned (OpenSpec.ofChange fnExactValueOfSpec)

/-- ITS FALSE NEIGHBOUR: 'it returns false'. Refute it at one input. -/
def fnExactValueOfWrong : ChangeSpec := { name := "fnExactValueOf", fn := fun _ => fun
  | [d1, d2] => { results := [.lit (.bool false)], args := [d1, d2] }
  | _ => none }
def FnExactValueOfWrongFalsely : Prop := fnExactValueOfRow.holds Try.pinned (OpenSpec.ofChange fnExactValueOfWrong)

/-- 'laws.FnExactAreDigits': WHATEVER THE INPUT: true; the input reads as it did. -/
def fnExactAreDigitsSpec : ChangeSpec := { name := "fnExactAreDigits", fn := fun _ => fun
  | [d1, d2] => { results := [.lit (.bool true)], args := [d1, d2] }
  | _ => none }
def fnExactAreDigitsRow : OpenClaim := { program := "ytingebekdofclaa", sum := "f808792377c8a942aa129a86cac169aee64f06e76043f63370f1f8104b593e28", func := "loop.example/g02079/laws.FnExactAreDigits", spec := "fnExactAreDigits", apart := false }
def FnExactAreDigitsSaid : Prop := fnExactAreDigitsRow.holds Try.pinned (OpenSpec.ofChange fnExactAreDigitsSpec)

/-- ITS FALSE NEIGHBOUR: 'it returns false'. Refute it at one input. -/
def fnExactAreDigitsWrong : ChangeSpec := { name := "fnExactAreDigits", fn := fun _ => fun
  | [d1, d2] => { results := [.lit (.bool false)], args := [d1, d2] }
  | _ => none }
def FnExactAreDigitsWrongFalsely : Prop := fnExactAreDigitsRow.holds Try.pinned (OpenSpec.ofChange fnExactAreDigitsWrong)

/-- 'laws.FnExactPadDigits': WHATEVER THE INPUT: true; the input reads as it did. -/
def fnExactPadDigitsSpec : ChangeSpec := { name := "fnExactPadDigits", fn := fun _ => fun
  | [d1, d2] => { results := [.lit (.bool true)], args := [d1, d2] }
  | _ => none }
def fnExactPadDigitsRow : OpenClaim := { program := "ytingebekdofclaa", sum := "f808792377c8a942aa129a86cac169aee64f06e76043f63370f1f8104b593e28", func := "loop.example/g02079/laws.FnExactPadDigits", spec := "fnExactPadDigits", apart := false }
def FnExactPadDigitsSaid : Prop := fnExactPadDigitsRow.holds Try.pinned (OpenSpec.ofChange fnExactPadDigitsSpec)

/-- ITS FALSE NEIGHBOUR: 'it returns false'. Refute it at one input. -/
def fnExactPadDigitsWrong : ChangeSpec := { name := "fnExactPadDigits", fn := fun _ => fun
  | [d1, d2] => { results := [.lit (.bool false)], args := [d1, d2] }
  | _ => none }
def FnExactPadDigitsWrongFalsely : Prop := fnExactPadDigitsRow.holds Try.pinned (OpenSpec.ofChange fnExactPadDigitsWrong)

/-- 'laws.FnExactDigitSum': WHATEVER THE INPUT: true; the input reads as it did. -/
def fnExactDigitSumSpec : ChangeSpec := { name := "fnExactDigitSum", fn := fun _ => fun
  | [d1, d2] => { results := [.lit (.bool true)], args := [d1, d2] }
  | _ => none }
def fnExactDigitSumRow : OpenClaim := { program := "ytingebekdofclaa", sum := "f808792377c8a942aa129a86cac169aee64f06e76043f63370f1f8104b593e28", func := "loop.example/g02079/laws.FnExactDigitSum", spec := "fnExactDigitSum", apart := false }
def FnExactDigitSumSaid : Prop := fnExactDigitSumRow.holds Try.pinned (OpenSpec.ofChange fnExactDigitSumSpec)

/-- ITS FALSE NEIGHBOUR: 'it returns false'. Refute it at one input. -/
def fnExactDigitSumWrong : ChangeSpec := { name := "fnExactDigitSum", fn := fun _ => fun
  | [d1, d2] => { results := [.lit (.bool false)], args := [d1, d2] }
  | _ => none }
def FnExactDigitSumWrongFalsely : Prop := fnExactDigitSumRow.holds Try.pinned (OpenSpec.ofChange fnExactDigitSumWrong)

/-- 'laws.FnExactReverseDigits': WHATEVER THE INPUT: true; the input reads as it did. -/
def fnExactReverseDigitsSpec : ChangeSpec := { name := "fnExactReverseDigits", fn := fun _ => fun
  | [d] => { results := [.lit (.bool true)], args := [d] }
  | _ => none }
def fnExactReverseDigitsRow : OpenClaim := { program := "ytingebekdofclaa", sum := "f808792377c8a942aa129a86cac169aee64f06e76043f63370f1f8104b593e28", func := "loop.example/g02079/laws.FnExactReverseDigits", spec := "fnExactReverseDigits", apart := false }
def FnExactReverseDigitsSaid : Prop := fnExactReverseDigitsRow.holds Try.pinned (OpenSpec.ofChange fnExactReverseDigitsSpec)

/-- ITS FALSE NEIGHBOUR: 'it returns false'. Refute it at one input. -/
def fnExactReverseDigitsWrong : ChangeSpec := { name := "fnExactReverseDigits", fn := fun _ => fun
  | [d] => { results := [.lit (.bool false)], args := [d] }
  | _ => none }
def FnExactReverseDigitsWrongFalsely : Prop := fnExactReverseDigitsRow.holds Try.pinned (OpenSpec.ofChange fnExactReverseDigitsWrong)

/-- 'laws.FnExactPowerOf': WHATEVER THE INPUT: true; the input reads as it did. -/
def fnExactPowerOfSpec : ChangeSpec := { name := "fnExactPowerOf", fn := fun _ => fun
  | [d1, d2] => { results := [.lit (.bool true)], args := [d1, d2] }
  | _ => none }
def fnExactPowerOfRow : OpenClaim := { program := "ytingebekdofclaa", sum := "f808792377c8a942aa129a86cac169aee64f06e76043f63370f1f8104b593e28", func := "loop.example/g02079/laws.FnExactPowerOf", spec := "fnExactPowerOf", apart := false }
def FnExactPowerOfSaid : Prop := fnExactPowerOfRow.holds Try.pinned (OpenSpec.ofChange fnExactPowerOfSpec)

/-- ITS FALSE NEIGHBOUR: 'it returns false'. Refute it at one input. -/
def fnExactPowerOfWrong : ChangeSpec := { name := "fnExactPowerOf", fn := fun _ => fun
  | [d1, d2] => { results := [.lit (.bool false)], args := [d1, d2] }
  | _ => none }
def FnExactPowerOfWrongFalsely : Prop := fnExactPowerOfRow.holds Try.pinned (OpenSpec.ofChange fnExactPowerOfWrong)

/- THE SECOND FORM. 'bulk': how many values and letters a reading holds, each counted each time it is reached (what is shared counts as often as it is met; a slice's spare places count too). A statement '..UptoSaid' is the law's where the arguments, and the package variables that the reading takes, are together of bulk at most 1048576: NARROWER than '..Said'. Prove '..Said' where nothing that the law and all that it calls make is longer than what came in: it says more and counts as full. Else prove '..UptoSaid'. A law counts once. -/
mutual
def uptoBulk {H : Type} : DataW H → Nat
  | .lit (.string bytes) => bytes.length + 1
  | .lit _ => 1
  | .nil => 1
  | .ptr d => uptoBulk d + 1
  | .slice elems spare => uptoBulkAll elems + uptoBulkAll spare + 1
  | .agg parts => uptoBulkAll parts + 1
  | .iface _ d => uptoBulk d + 1
  | .map entries => uptoBulkEntries entries + 1
  | .held _ => 1
def uptoBulkAll {H : Type} : List (DataW H) → Nat
  | [] => 0
  | d :: r => uptoBulk d + uptoBulkAll r
def uptoBulkEntries {H : Type} : List (Lit × DataW H) → Nat
  | [] => 0
  | x :: r => uptoBulkEntry x + uptoBulkEntries r
def uptoBulkEntry {H : Type} : Lit × DataW H → Nat
  | (.string bytes, d) => bytes.length + uptoBulk d + 1
  | (_, d) => uptoBulk d + 1
 end
def uptoSmall : (H : Type) → List (DataW H) → Bool := fun _ ds => decide (uptoBulkAll ds ≤ 1048576)
def OpenSpec.upto (s : _root_.Go.ChangeSpec) : _root_.Go.OpenSpec := { _root_.Go.OpenSpec.ofChange s with cond := some uptoSmall }

/-- 'laws.FnDigits', WHERE WHAT IT READS IS OF BULK AT MOST 1048576: true; the input reads as it did. -/
def fnDigitsUptoRow : OpenClaim := { program := "ytingebekdofclaa", sum := "f808792377c8a942aa129a86cac169aee64f06e76043f63370f1f8104b593e28", func := "loop.example/g02079/laws.FnDigits", spec := "fnDigits", apart := false, narrowed := true }
def FnDigitsUptoSaid : Prop := fnDigitsUptoRow.holds Try.pinned (OpenSpec.upto fnDigitsSpec)

/-- 'laws.FnExactDigitsOf', WHERE WHAT IT READS IS OF BULK AT MOST 1048576: true; the input reads as it did. -/
def fnExactDigitsOfUptoRow : OpenClaim := { program := "ytingebekdofclaa", sum := "f808792377c8a942aa129a86cac169aee64f06e76043f63370f1f8104b593e28", func := "loop.example/g02079/laws.FnExactDigitsOf", spec := "fnExactDigitsOf", apart := false, narrowed := true }
def FnExactDigitsOfUptoSaid : Prop := fnExactDigitsOfUptoRow.holds Try.pinned (OpenSpec.upto fnExactDigitsOfSpec)

/-- 'laws.FnExactValueOf', WHERE WHAT IT READS IS OF BULK AT MOST 1048576: true; the input reads as it did. -/
def fnExactValueOfUptoRow : OpenClaim := { program := "ytingebekdofclaa", sum := "f808792377c8a942aa129a86cac169aee64f06e76043f63370f1f8104b593e28", func := "loop.example/g02079/laws.FnExactValueOf", spec := "fnExactValueOf", apart := false, narrowed := true }
def FnExactValueOfUptoSaid : Prop := fnExactValueOfUptoRow.holds Try.pinned (OpenSpec.upto fnExactValueOfSpec)

/-- 'laws.FnExactAreDigits', WHERE WHAT IT READS IS OF BULK AT MOST 1048576: true; the input reads as it did. -/
def fnExactAreDigitsUptoRow : OpenClaim := { program := "ytingebekdofclaa", sum := "f808792377c8a942aa129a86cac169aee64f06e76043f63370f1f8104b593e28", func := "loop.example/g02079/laws.FnExactAreDigits", spec := "fnExactAreDigits", apart := false, narrowed := true }
def FnExactAreDigitsUptoSaid : Prop := fnExactAreDigitsUptoRow.holds Try.pinned (OpenSpec.upto fnExactAreDigitsSpec)

/-- 'laws.FnExactPadDigits', WHERE WHAT IT READS IS OF BULK AT MOST 1048576: true; the input reads as it did. -/
def fnExactPadDigitsUptoRow : OpenClaim := { program := "ytingebekdofclaa", sum := "f808792377c8a942aa129a86cac169aee64f06e76043f63370f1f8104b593e28", func := "loop.example/g02079/laws.FnExactPadDigits", spec := "fnExactPadDigits", apart := false, narrowed := true }
def FnExactPadDigitsUptoSaid : Prop := fnExactPadDigitsUptoRow.holds Try.pinned (OpenSpec.upto fnExactPadDigitsSpec)

/-- 'laws.FnExactDigitSum', WHERE WHAT IT READS IS OF BULK AT MOST 1048576: true; the input reads as it did. -/
def fnExactDigitSumUptoRow : OpenClaim := { program := "ytingebekdofclaa", sum := "f808792377c8a942aa129a86cac169aee64f06e76043f63370f1f8104b593e28", func := "loop.example/g02079/laws.FnExactDigitSum", spec := "fnExactDigitSum", apart := false, narrowed := true }
def FnExactDigitSumUptoSaid : Prop := fnExactDigitSumUptoRow.holds Try.pinned (OpenSpec.upto fnExactDigitSumSpec)

/-- 'laws.FnExactReverseDigits', WHERE WHAT IT READS IS OF BULK AT MOST 1048576: true; the input reads as it did. -/
def fnExactReverseDigitsUptoRow : OpenClaim := { program := "ytingebekdofclaa", sum := "f808792377c8a942aa129a86cac169aee64f06e76043f63370f1f8104b593e28", func := "loop.example/g02079/laws.FnExactReverseDigits", spec := "fnExactReverseDigits", apart := false, narrowed := true }
def FnExactReverseDigitsUptoSaid : Prop := fnExactReverseDigitsUptoRow.holds Try.pinned (OpenSpec.upto fnExactReverseDigitsSpec)

/-- 'laws.FnExactPowerOf', WHERE WHAT IT READS IS OF BULK AT MOST 1048576: true; the input reads as it did. -/
def fnExactPowerOfUptoRow : OpenClaim := { program := "ytingebekdofclaa", sum := "f808792377c8a942aa129a86cac169aee64f06e76043f63370f1f8104b593e28", func := "loop.example/g02079/laws.FnExactPowerOf", spec := "fnExactPowerOf", apart := false, narrowed := true }
def FnExactPowerOfUptoSaid : Prop := fnExactPowerOfUptoRow.holds Try.pinned (OpenSpec.upto fnExactPowerOfSpec)

end Rows
end Go.Proofs.Ytingebekdofclaa
