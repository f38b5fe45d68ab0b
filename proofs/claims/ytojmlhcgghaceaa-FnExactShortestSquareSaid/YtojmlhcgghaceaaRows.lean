/-
  No cell of these rows narrows 'for every input' (looked for: loops, veiled, ifaces, maps, wideKeys, modest, calm, conditions, laid).
  DERIVED. THE GIVEN ROWS OF THIS SEAT. 8 by the template 'for every input the law returns true; each argument reads behind the call as it read before'; 0 by the template 'total and deterministic' (their statements: YtojmlhcgghaceaaTotals.lean).
  GIVEN WITH THE SEED: the statements are not yours to turn. If you find one false, say at which input.
  Laid BY PROGRAM, IN A SANDBOX (cutbox-rows.mjs): the forced cells as the released guide's own fill.sh prints them over the translation 844212bf664bae85… (all of the seat's roots in one cut). By AI agents, Wed Nov 11 2026. No macro, syntax, notation, axiom, sorry.
-/
import Derived.Test.YtojmlhcgghaceaaChecked
import GoSem.Claim
import GoSem.ClaimJoined
import GoSem.ClaimMapViews
import Derived.JoinedTies
import Derived.KernelRfl
namespace Go.Proofs.Ytojmlhcgghaceaa
/- THE CELL 'sum', in the pinned program and in every row, IS THE sha256 OF THE DUMP (.gsa) THAT YtojmlhcgghaceaaProg.lean LOADS. Nothing in Lean hashes anything: it is a label: what it is worth is what the hold of that sum in a sandbox is worth. -/
noncomputable def Try.pinned : Pinned := { name := "ytojmlhcgghaceaa", sum := "844212bf664bae855d2abb9077ef707ded9f193675b10de801b06e7c6d011ecd", checked := Try.checked }
namespace Rows
def none {H : Type} : Left H := { results := [], args := [] }

/-- 'laws.FnExactSquaresOf': WHATEVER THE INPUT: true; the input reads as it did. -/
def fnExactSquaresOfSpec : ChangeSpec := { name := "fnExactSquaresOf", fn := fun _ => fun
  | [d] => { results := [.lit (.bool true)], args := [d] }
  | _ => none }
def fnExactSquaresOfRow : OpenClaim := { program := "ytojmlhcgghaceaa", sum := "844212bf664bae855d2abb9077ef707ded9f193675b10de801b06e7c6d011ecd", func := "loop.example/g02079/laws.FnExactSquaresOf", spec := "fnExactSquaresOf", apart := false }
def FnExactSquaresOfSaid : Prop := fnExactSquaresOfRow.holds Try.pinned (OpenSpec.ofChange fnExactSquaresOfSpec)

/-- ITS FALSE NEIGHBOUR: 'it returns false'. Refute it at one input. -/
def fnExactSquaresOfWrong : ChangeSpec := { name := "fnExactSquaresOf", fn := fun _ => fun
  | [d] => { results := [.lit (.bool false)], args := [d] }
  | _ => none }
def FnExactSquaresOfWrongFalsely : Prop := fnExactSquaresOfRow.holds Try.pinned (OpenSpec.ofChange fnExactSquaresOfWrong)

/-- 'laws.FnExactHasSquare': WHATEVER THE INPUT: true; the input reads as it did. -/
def fnExactHasSquareSpec : ChangeSpec := { name := "fnExactHasSquare", fn := fun _ => fun
  | [d] => { results := [.lit (.bool true)], args := [d] }
  | _ => none }
def fnExactHasSquareRow : OpenClaim := { program := "ytojmlhcgghaceaa", sum := "844212bf664bae855d2abb9077ef707ded9f193675b10de801b06e7c6d011ecd", func := "loop.example/g02079/laws.FnExactHasSquare", spec := "fnExactHasSquare", unfollowed := true, recurses := true, apart := false }
def FnExactHasSquareSaid : Prop := fnExactHasSquareRow.holds Try.pinned (OpenSpec.ofChange fnExactHasSquareSpec)

/-- ITS FALSE NEIGHBOUR: 'it returns false'. Refute it at one input. -/
def fnExactHasSquareWrong : ChangeSpec := { name := "fnExactHasSquare", fn := fun _ => fun
  | [d] => { results := [.lit (.bool false)], args := [d] }
  | _ => none }
def FnExactHasSquareWrongFalsely : Prop := fnExactHasSquareRow.holds Try.pinned (OpenSpec.ofChange fnExactHasSquareWrong)

/-- 'laws.FnExactHasOverlap': WHATEVER THE INPUT: true; the input reads as it did. -/
def fnExactHasOverlapSpec : ChangeSpec := { name := "fnExactHasOverlap", fn := fun _ => fun
  | [d] => { results := [.lit (.bool true)], args := [d] }
  | _ => none }
def fnExactHasOverlapRow : OpenClaim := { program := "ytojmlhcgghaceaa", sum := "844212bf664bae855d2abb9077ef707ded9f193675b10de801b06e7c6d011ecd", func := "loop.example/g02079/laws.FnExactHasOverlap", spec := "fnExactHasOverlap", unfollowed := true, recurses := true, apart := false }
def FnExactHasOverlapSaid : Prop := fnExactHasOverlapRow.holds Try.pinned (OpenSpec.ofChange fnExactHasOverlapSpec)

/-- ITS FALSE NEIGHBOUR: 'it returns false'. Refute it at one input. -/
def fnExactHasOverlapWrong : ChangeSpec := { name := "fnExactHasOverlap", fn := fun _ => fun
  | [d] => { results := [.lit (.bool false)], args := [d] }
  | _ => none }
def FnExactHasOverlapWrongFalsely : Prop := fnExactHasOverlapRow.holds Try.pinned (OpenSpec.ofChange fnExactHasOverlapWrong)

/-- 'laws.FnExactHasPower': WHATEVER THE INPUT: true; the input reads as it did. -/
def fnExactHasPowerSpec : ChangeSpec := { name := "fnExactHasPower", fn := fun _ => fun
  | [d1, d2, d3] => { results := [.lit (.bool true)], args := [d1, d2, d3] }
  | _ => none }
def fnExactHasPowerRow : OpenClaim := { program := "ytojmlhcgghaceaa", sum := "844212bf664bae855d2abb9077ef707ded9f193675b10de801b06e7c6d011ecd", func := "loop.example/g02079/laws.FnExactHasPower", spec := "fnExactHasPower", unfollowed := true, recurses := true, apart := false }
def FnExactHasPowerSaid : Prop := fnExactHasPowerRow.holds Try.pinned (OpenSpec.ofChange fnExactHasPowerSpec)

/-- ITS FALSE NEIGHBOUR: 'it returns false'. Refute it at one input. -/
def fnExactHasPowerWrong : ChangeSpec := { name := "fnExactHasPower", fn := fun _ => fun
  | [d1, d2, d3] => { results := [.lit (.bool false)], args := [d1, d2, d3] }
  | _ => none }
def FnExactHasPowerWrongFalsely : Prop := fnExactHasPowerRow.holds Try.pinned (OpenSpec.ofChange fnExactHasPowerWrong)

/-- 'laws.FnExactGreatestExponent': WHATEVER THE INPUT: true; the input reads as it did. -/
def fnExactGreatestExponentSpec : ChangeSpec := { name := "fnExactGreatestExponent", fn := fun _ => fun
  | [d] => { results := [.lit (.bool true)], args := [d] }
  | _ => none }
def fnExactGreatestExponentRow : OpenClaim := { program := "ytojmlhcgghaceaa", sum := "844212bf664bae855d2abb9077ef707ded9f193675b10de801b06e7c6d011ecd", func := "loop.example/g02079/laws.FnExactGreatestExponent", spec := "fnExactGreatestExponent", unfollowed := true, recurses := true, apart := false }
def FnExactGreatestExponentSaid : Prop := fnExactGreatestExponentRow.holds Try.pinned (OpenSpec.ofChange fnExactGreatestExponentSpec)

/-- ITS FALSE NEIGHBOUR: 'it returns false'. Refute it at one input. -/
def fnExactGreatestExponentWrong : ChangeSpec := { name := "fnExactGreatestExponent", fn := fun _ => fun
  | [d] => { results := [.lit (.bool false)], args := [d] }
  | _ => none }
def FnExactGreatestExponentWrongFalsely : Prop := fnExactGreatestExponentRow.holds Try.pinned (OpenSpec.ofChange fnExactGreatestExponentWrong)

/-- 'laws.FnExactExponentOf': WHATEVER THE INPUT: true; the input reads as it did. -/
def fnExactExponentOfSpec : ChangeSpec := { name := "fnExactExponentOf", fn := fun _ => fun
  | [d] => { results := [.lit (.bool true)], args := [d] }
  | _ => none }
def fnExactExponentOfRow : OpenClaim := { program := "ytojmlhcgghaceaa", sum := "844212bf664bae855d2abb9077ef707ded9f193675b10de801b06e7c6d011ecd", func := "loop.example/g02079/laws.FnExactExponentOf", spec := "fnExactExponentOf", unfollowed := true, recurses := true, apart := false }
def FnExactExponentOfSaid : Prop := fnExactExponentOfRow.holds Try.pinned (OpenSpec.ofChange fnExactExponentOfSpec)

/-- ITS FALSE NEIGHBOUR: 'it returns false'. Refute it at one input. -/
def fnExactExponentOfWrong : ChangeSpec := { name := "fnExactExponentOf", fn := fun _ => fun
  | [d] => { results := [.lit (.bool false)], args := [d] }
  | _ => none }
def FnExactExponentOfWrongFalsely : Prop := fnExactExponentOfRow.holds Try.pinned (OpenSpec.ofChange fnExactExponentOfWrong)

/-- 'laws.FnExactShortestSquare': WHATEVER THE INPUT: true; the input reads as it did. -/
def fnExactShortestSquareSpec : ChangeSpec := { name := "fnExactShortestSquare", fn := fun _ => fun
  | [d] => { results := [.lit (.bool true)], args := [d] }
  | _ => none }
def fnExactShortestSquareRow : OpenClaim := { program := "ytojmlhcgghaceaa", sum := "844212bf664bae855d2abb9077ef707ded9f193675b10de801b06e7c6d011ecd", func := "loop.example/g02079/laws.FnExactShortestSquare", spec := "fnExactShortestSquare", unfollowed := true, recurses := true, apart := false }
def FnExactShortestSquareSaid : Prop := fnExactShortestSquareRow.holds Try.pinned (OpenSpec.ofChange fnExactShortestSquareSpec)

/-- ITS FALSE NEIGHBOUR: 'it returns false'. Refute it at one input. -/
def fnExactShortestSquareWrong : ChangeSpec := { name := "fnExactShortestSquare", fn := fun _ => fun
  | [d] => { results := [.lit (.bool false)], args := [d] }
  | _ => none }
def FnExactShortestSquareWrongFalsely : Prop := fnExactShortestSquareRow.holds Try.pinned (OpenSpec.ofChange fnExactShortestSquareWrong)

/-- 'laws.FnExactDistinctSquares': WHATEVER THE INPUT: true; the input reads as it did. -/
def fnExactDistinctSquaresSpec : ChangeSpec := { name := "fnExactDistinctSquares", fn := fun _ => fun
  | [d] => { results := [.lit (.bool true)], args := [d] }
  | _ => none }
def fnExactDistinctSquaresRow : OpenClaim := { program := "ytojmlhcgghaceaa", sum := "844212bf664bae855d2abb9077ef707ded9f193675b10de801b06e7c6d011ecd", func := "loop.example/g02079/laws.FnExactDistinctSquares", spec := "fnExactDistinctSquares", unfollowed := true, recurses := true, apart := false }
def FnExactDistinctSquaresSaid : Prop := fnExactDistinctSquaresRow.holds Try.pinned (OpenSpec.ofChange fnExactDistinctSquaresSpec)

/-- ITS FALSE NEIGHBOUR: 'it returns false'. Refute it at one input. -/
def fnExactDistinctSquaresWrong : ChangeSpec := { name := "fnExactDistinctSquares", fn := fun _ => fun
  | [d] => { results := [.lit (.bool false)], args := [d] }
  | _ => none }
def FnExactDistinctSquaresWrongFalsely : Prop := fnExactDistinctSquaresRow.holds Try.pinned (OpenSpec.ofChange fnExactDistinctSquaresWrong)

/- THE SECOND FORM. 'bulk': how many values and letters a reading holds, each counted each time it is reached (what is shared counts as often as it is met; a slice's spare places count too). A statement '..UptoSaid' is the law's where the arguments, and the package variables that the reading takes, are together of bulk at most 1048576: NARROWER than '..Said'. Prove '..Said' where nothing that the law and all that it calls make is longer than what came in: it says more and counts as full. Else prove '..UptoSaid'. A law counts once. -/
mutual
def uptoBulk {H : Type} : DataW H → Nat
  | .lit (.string bytes) => bytes.length + 1
  | .lit _ => 1
  | .nil => 1
  | .ptr d => uptoBulk d + 1
  | .slice elems spare => uptoBulkAll elems + uptoBulkAll spare + 1
  | .agg parts => uptoBulkAll parts + 1
  | .iface _ d => uptoBulk d + 1
  | .map entries => uptoBulkEntries entries + 1
  | .held _ => 1
def uptoBulkAll {H : Type} : List (DataW H) → Nat
  | [] => 0
  | d :: r => uptoBulk d + uptoBulkAll r
def uptoBulkEntries {H : Type} : List (Lit × DataW H) → Nat
  | [] => 0
  | x :: r => uptoBulkEntry x + uptoBulkEntries r
def uptoBulkEntry {H : Type} : Lit × DataW H → Nat
  | (.string bytes, d) => bytes.length + uptoBulk d + 1
  | (_, d) => uptoBulk d + 1
 end
def uptoSmall : (H : Type) → List (DataW H) → Bool := fun _ ds => decide (uptoBulkAll ds ≤ 1048576)
def OpenSpec.upto (s : _root_.Go.ChangeSpec) : _root_.Go.OpenSpec := { _root_.Go.OpenSpec.ofChange s with cond := some uptoSmall }

/-- 'laws.FnExactSquaresOf', WHERE WHAT IT READS IS OF BULK AT MOST 1048576: true; the input reads as it did. -/
def fnExactSquaresOfUptoRow : OpenClaim := { program := "ytojmlhcgghaceaa", sum := "844212bf664bae855d2abb9077ef707ded9f193675b10de801b06e7c6d011ecd", func := "loop.example/g02079/laws.FnExactSquaresOf", spec := "fnExactSquaresOf", apart := false, narrowed := true }
def FnExactSquaresOfUptoSaid : Prop := fnExactSquaresOfUptoRow.holds Try.pinned (OpenSpec.upto fnExactSquaresOfSpec)

/-- 'laws.FnExactHasSquare', WHERE WHAT IT READS IS OF BULK AT MOST 1048576: true; the input reads as it did. -/
def fnExactHasSquareUptoRow : OpenClaim := { program := "ytojmlhcgghaceaa", sum := "844212bf664bae855d2abb9077ef707ded9f193675b10de801b06e7c6d011ecd", func := "loop.example/g02079/laws.FnExactHasSquare", spec := "fnExactHasSquare", unfollowed := true, recurses := true, apart := false, narrowed := true }
def FnExactHasSquareUptoSaid : Prop := fnExactHasSquareUptoRow.holds Try.pinned (OpenSpec.upto fnExactHasSquareSpec)

/-- 'laws.FnExactHasOverlap', WHERE WHAT IT READS IS OF BULK AT MOST 1048576: true; the input reads as it did. -/
def fnExactHasOverlapUptoRow : OpenClaim := { program := "ytojmlhcgghaceaa", sum := "844212bf664bae855d2abb9077ef707ded9f193675b10de801b06e7c6d011ecd", func := "loop.example/g02079/laws.FnExactHasOverlap", spec := "fnExactHasOverlap", unfollowed := true, recurses := true, apart := false, narrowed := true }
def FnExactHasOverlapUptoSaid : Prop := fnExactHasOverlapUptoRow.holds Try.pinned (OpenSpec.upto fnExactHasOverlapSpec)

/-- 'laws.FnExactHasPower', WHERE WHAT IT READS IS OF BULK AT MOST 1048576: true; the input reads as it did. -/
def fnExactHasPowerUptoRow : OpenClaim := { program := "ytojmlhcgghaceaa", sum := "844212bf664bae855d2abb9077ef707ded9f193675b10de801b06e7c6d011ecd", func := "loop.example/g02079/laws.FnExactHasPower", spec := "fnExactHasPower", unfollowed := true, recurses := true, apart := false, narrowed := true }
def FnExactHasPowerUptoSaid : Prop := fnExactHasPowerUptoRow.holds Try.pinned (OpenSpec.upto fnExactHasPowerSpec)

/-- 'laws.FnExactGreatestExponent', WHERE WHAT IT READS IS OF BULK AT MOST 1048576: true; the input reads as it did. -/
def fnExactGreatestExponentUptoRow : OpenClaim := { program := "ytojmlhcgghaceaa", sum := "844212bf664bae855d2abb9077ef707ded9f193675b10de801b06e7c6d011ecd", func := "loop.example/g02079/laws.FnExactGreatestExponent", spec := "fnExactGreatestExponent", unfollowed := true, recurses := true, apart := false, narrowed := true }
def FnExactGreatestExponentUptoSaid : Prop := fnExactGreatestExponentUptoRow.holds Try.pinned (OpenSpec.upto fnExactGreatestExponentSpec)

/-- 'laws.FnExactExponentOf', WHERE WHAT IT READS IS OF BULK AT MOST 1048576: true; the input reads as it did. -/
def fnExactExponentOfUptoRow : OpenClaim := { program := "ytojmlhcgghaceaa", sum := "844212bf664bae855d2abb9077ef707ded9f193675b10de801b06e7c6d011ecd", func := "loop.example/g02079/laws.FnExactExponentOf", spec := "fnExactExponentOf", unfollowed := true, recurses := true, apart := false, narrowed := true }
def FnExactExponentOfUptoSaid : Prop := fnExactExponentOfUptoRow.holds Try.pinned (OpenSpec.upto fnExactExponentOfSpec)

/-- 'laws.FnExactShortestSquare', WHERE WHAT IT READS IS OF BULK AT MOST 1048576: true; the input reads as it did. -/
def fnExactShortestSquareUptoRow : OpenClaim := { program := "ytojmlhcgghaceaa", sum := "844212bf664bae855d2abb9077ef707ded9f193675b10de801b06e7c6d011ecd", func := "loop.example/g02079/laws.FnExactShortestSquare", spec := "fnExactShortestSquare", unfollowed := true, recurses := true, apart := false, narrowed := true }
def FnExactShortestSquareUptoSaid : Prop := fnExactShortestSquareUptoRow.holds Try.pinned (OpenSpec.upto fnExactShortestSquareSpec)

/-- 'laws.FnExactDistinctSquares', WHERE WHAT IT READS IS OF BULK AT MOST 1048576: true; the input reads as it did. -/
def fnExactDistinctSquaresUptoRow : OpenClaim := { program := "ytojmlhcgghaceaa", sum := "844212bf664bae855d2abb9077ef707ded9f193675b10de801b06e7c6d011ecd", func := "loop.example/g02079/laws.FnExactDistinctSquares", spec := "fnExactDistinctSquares", unfollowed := true, recurses := true, apart := false, narrowed := true }
def FnExactDistinctSquaresUptoSaid : Prop := fnExactDistinctSquaresUptoRow.holds Try.pinned (OpenSpec.upto fnExactDistinctSquaresSpec)

end Rows
end Go.Proofs.Ytojmlhcgghaceaa
