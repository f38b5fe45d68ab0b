/-
  No cell of these rows narrows 'for every input' (looked for: loops, veiled, ifaces, maps, wideKeys, modest, calm, conditions, laid).
  DERIVED. THE GIVEN ROWS OF THIS SEAT. 6 by the template 'for every input the law returns true; each argument reads behind the call as it read before'; 0 by the template 'total and deterministic' (their statements: YtgbgcaaekpgapabTotals.lean).
  GIVEN WITH THE SEED: the statements are not yours to turn. If you find one false, say at which input.
  Laid BY PROGRAM, IN A SANDBOX (cutbox-rows.mjs): the forced cells as the released guide's own fill.sh prints them over the translation ee451383b6c61f44… (all of the seat's roots in one cut). By AI agents, Wed Nov 11 2026. No macro, syntax, notation, axiom, sorry.
-/
import Derived.Test.YtgbgcaaekpgapabChecked
import GoSem.Claim
import GoSem.ClaimJoined
import GoSem.ClaimMapViews
import Derived.JoinedTies
import Derived.KernelRfl
namespace Go.Proofs.Ytgbgcaaekpgapab
/- THE CELL 'sum', in the pinned program and in every row, IS THE sha256 OF THE DUMP (.gsa) THAT YtgbgcaaekpgapabProg.lean LOADS. Nothing in Lean hashes anything: it is a label: what it is worth is what the hold of that sum in a sandbox is worth. -/
noncomputable def Try.pinned : Pinned := { name := "ytgbgcaaekpgapab", sum := "ee451383b6c61f44a218ea1b6a46cb77fb008c4e9504e51161713aa0367e9123", checked := Try.checked }
namespace Rows
def none {H : Type} : Left H := { results := [], args := [] }

/-- 'laws.FnExactIsPalindrome': WHATEVER THE INPUT: true; the input reads as it did. -/
def fnExactIsPalindromeSpec : ChangeSpec := { name := "fnExactIsPalindrome", fn := fun _ => fun
  | [d] => { results := [.lit (.bool true)], args := [d] }
  | _ => none }
def fnExactIsPalindromeRow : OpenClaim := { program := "ytgbgcaaekpgapab", sum := "ee451383b6c61f44a218ea1b6a46cb77fb008c4e9504e51161713aa0367e9123", func := "loop.example/g02079/laws.FnExactIsPalindrome", spec := "fnExactIsPalindrome", apart := false }
def FnExactIsPalindromeSaid : Prop := fnExactIsPalindromeRow.holds Try.pinned (OpenSpec.ofChange fnExactIsPalindromeSpec)

/-- ITS FALSE NEIGHBOUR: 'it returns false'. Refute it at one input. -/
def fnExactIsPalindromeWrong : ChangeSpec := { name := "fnExactIsPalindrome", fn := fun _ => fun
  | [d] => { results := [.lit (.bool false)], args := [d] }
  | _ => none }
def FnExactIsPalindromeWrongFalsely : Prop := fnExactIsPalindromeRow.holds Try.pinned (OpenSpec.ofChange fnExactIsPalindromeWrong)

/-- 'laws.FnExactMirrorWord': WHATEVER THE INPUT: true; the input reads as it did. -/
def fnExactMirrorWordSpec : ChangeSpec := { name := "fnExactMirrorWord", fn := fun _ => fun
  | [d] => { results := [.lit (.bool true)], args := [d] }
  | _ => none }
def fnExactMirrorWordRow : OpenClaim := { program := "ytgbgcaaekpgapab", sum := "ee451383b6c61f44a218ea1b6a46cb77fb008c4e9504e51161713aa0367e9123", func := "loop.example/g02079/laws.FnExactMirrorWord", spec := "fnExactMirrorWord", apart := false }
def FnExactMirrorWordSaid : Prop := fnExactMirrorWordRow.holds Try.pinned (OpenSpec.ofChange fnExactMirrorWordSpec)

/-- ITS FALSE NEIGHBOUR: 'it returns false'. Refute it at one input. -/
def fnExactMirrorWordWrong : ChangeSpec := { name := "fnExactMirrorWord", fn := fun _ => fun
  | [d] => { results := [.lit (.bool false)], args := [d] }
  | _ => none }
def FnExactMirrorWordWrongFalsely : Prop := fnExactMirrorWordRow.holds Try.pinned (OpenSpec.ofChange fnExactMirrorWordWrong)

/-- 'laws.FnExactPalindromesOf': WHATEVER THE INPUT: true; the input reads as it did. -/
def fnExactPalindromesOfSpec : ChangeSpec := { name := "fnExactPalindromesOf", fn := fun _ => fun
  | [d] => { results := [.lit (.bool true)], args := [d] }
  | _ => none }
def fnExactPalindromesOfRow : OpenClaim := { program := "ytgbgcaaekpgapab", sum := "ee451383b6c61f44a218ea1b6a46cb77fb008c4e9504e51161713aa0367e9123", func := "loop.example/g02079/laws.FnExactPalindromesOf", spec := "fnExactPalindromesOf", unfollowed := true, recurses := true, apart := false }
def FnExactPalindromesOfSaid : Prop := fnExactPalindromesOfRow.holds Try.pinned (OpenSpec.ofChange fnExactPalindromesOfSpec)

/-- ITS FALSE NEIGHBOUR: 'it returns false'. Refute it at one input. -/
def fnExactPalindromesOfWrong : ChangeSpec := { name := "fnExactPalindromesOf", fn := fun _ => fun
  | [d] => { results := [.lit (.bool false)], args := [d] }
  | _ => none }
def FnExactPalindromesOfWrongFalsely : Prop := fnExactPalindromesOfRow.holds Try.pinned (OpenSpec.ofChange fnExactPalindromesOfWrong)

/-- 'laws.FnExactFactorsOf': WHATEVER THE INPUT: true; the input reads as it did. -/
def fnExactFactorsOfSpec : ChangeSpec := { name := "fnExactFactorsOf", fn := fun _ => fun
  | [d1, d2] => { results := [.lit (.bool true)], args := [d1, d2] }
  | _ => none }
def fnExactFactorsOfRow : OpenClaim := { program := "ytgbgcaaekpgapab", sum := "ee451383b6c61f44a218ea1b6a46cb77fb008c4e9504e51161713aa0367e9123", func := "loop.example/g02079/laws.FnExactFactorsOf", spec := "fnExactFactorsOf", unfollowed := true, recurses := true, apart := false }
def FnExactFactorsOfSaid : Prop := fnExactFactorsOfRow.holds Try.pinned (OpenSpec.ofChange fnExactFactorsOfSpec)

/-- ITS FALSE NEIGHBOUR: 'it returns false'. Refute it at one input. -/
def fnExactFactorsOfWrong : ChangeSpec := { name := "fnExactFactorsOf", fn := fun _ => fun
  | [d1, d2] => { results := [.lit (.bool false)], args := [d1, d2] }
  | _ => none }
def FnExactFactorsOfWrongFalsely : Prop := fnExactFactorsOfRow.holds Try.pinned (OpenSpec.ofChange fnExactFactorsOfWrong)

/-- 'laws.FnExactCountFactors': WHATEVER THE INPUT: true; the input reads as it did. -/
def fnExactCountFactorsSpec : ChangeSpec := { name := "fnExactCountFactors", fn := fun _ => fun
  | [d1, d2] => { results := [.lit (.bool true)], args := [d1, d2] }
  | _ => none }
def fnExactCountFactorsRow : OpenClaim := { program := "ytgbgcaaekpgapab", sum := "ee451383b6c61f44a218ea1b6a46cb77fb008c4e9504e51161713aa0367e9123", func := "loop.example/g02079/laws.FnExactCountFactors", spec := "fnExactCountFactors", unfollowed := true, recurses := true, apart := false }
def FnExactCountFactorsSaid : Prop := fnExactCountFactorsRow.holds Try.pinned (OpenSpec.ofChange fnExactCountFactorsSpec)

/-- ITS FALSE NEIGHBOUR: 'it returns false'. Refute it at one input. -/
def fnExactCountFactorsWrong : ChangeSpec := { name := "fnExactCountFactors", fn := fun _ => fun
  | [d1, d2] => { results := [.lit (.bool false)], args := [d1, d2] }
  | _ => none }
def FnExactCountFactorsWrongFalsely : Prop := fnExactCountFactorsRow.holds Try.pinned (OpenSpec.ofChange fnExactCountFactorsWrong)

/-- 'laws.FnExactRightSpecial': WHATEVER THE INPUT: true; the input reads as it did. -/
def fnExactRightSpecialSpec : ChangeSpec := { name := "fnExactRightSpecial", fn := fun _ => fun
  | [d1, d2] => { results := [.lit (.bool true)], args := [d1, d2] }
  | _ => none }
def fnExactRightSpecialRow : OpenClaim := { program := "ytgbgcaaekpgapab", sum := "ee451383b6c61f44a218ea1b6a46cb77fb008c4e9504e51161713aa0367e9123", func := "loop.example/g02079/laws.FnExactRightSpecial", spec := "fnExactRightSpecial", unfollowed := true, recurses := true, apart := false }
def FnExactRightSpecialSaid : Prop := fnExactRightSpecialRow.holds Try.pinned (OpenSpec.ofChange fnExactRightSpecialSpec)

/-- ITS FALSE NEIGHBOUR: 'it returns false'. Refute it at one input. -/
def fnExactRightSpecialWrong : ChangeSpec := { name := "fnExactRightSpecial", fn := fun _ => fun
  | [d1, d2] => { results := [.lit (.bool false)], args := [d1, d2] }
  | _ => none }
def FnExactRightSpecialWrongFalsely : Prop := fnExactRightSpecialRow.holds Try.pinned (OpenSpec.ofChange fnExactRightSpecialWrong)

/- THE SECOND FORM. 'bulk': how many values and letters a reading holds, each counted each time it is reached (what is shared counts as often as it is met; a slice's spare places count too). A statement '..UptoSaid' is the law's where the arguments, and the package variables that the reading takes, are together of bulk at most 1048576: NARROWER than '..Said'. Prove '..Said' where nothing that the law and all that it calls make is longer than what came in: it says more and counts as full. Else prove '..UptoSaid'. A law counts once. -/
mutual
def uptoBulk {H : Type} : DataW H → Nat
  | .lit (.string bytes) => bytes.length + 1
  | .lit _ => 1
  | .nil => 1
  | .ptr d => uptoBulk d + 1
  | .slice elems spare => uptoBulkAll elems + uptoBulkAll spare + 1
  | .agg parts => uptoBulkAll parts + 1
  | .iface _ d => uptoBulk d + 1
  | .map entries => uptoBulkEntries entries + 1
  | .held _ => 1
def uptoBulkAll {H : Type} : List (DataW H) → Nat
  | [] => 0
  | d :: r => uptoBulk d + uptoBulkAll r
def uptoBulkEntries {H : Type} : List (Lit × DataW H) → Nat
  | [] => 0
  | x :: r => uptoBulkEntry x + uptoBulkEntries r
def uptoBulkEntry {H : Type} : Lit × DataW H → Nat
  | (.string bytes, d) => bytes.length + uptoBulk d + 1
  | (_, d) => uptoBulk d + 1
 end
def uptoSmall : (H : Type) → List (DataW H) → Bool := fun _ ds => decide (uptoBulkAll ds ≤ 1048576)
def OpenSpec.upto (s : _root_.Go.ChangeSpec) : _root_.Go.OpenSpec := { _root_.Go.OpenSpec.ofChange s with cond := some uptoSmall }

/-- 'laws.FnExactIsPalindrome', WHERE WHAT IT READS IS OF BULK AT MOST 1048576: true; the input reads as it did. -/
def fnExactIsPalindromeUptoRow : OpenClaim := { program := "ytgbgcaaekpgapab", sum := "ee451383b6c61f44a218ea1b6a46cb77fb008c4e9504e51161713aa0367e9123", func := "loop.example/g02079/laws.FnExactIsPalindrome", spec := "fnExactIsPalindrome", apart := false, narrowed := true }
def FnExactIsPalindromeUptoSaid : Prop := fnExactIsPalindromeUptoRow.holds Try.pinned (OpenSpec.upto fnExactIsPalindromeSpec)

/-- 'laws.FnExactMirrorWord', WHERE WHAT IT READS IS OF BULK AT MOST 1048576: true; the input reads as it did. -/
def fnExactMirrorWordUptoRow : OpenClaim := { program := "ytgbgcaaekpgapab", sum := "ee451383b6c61f44a218ea1b6a46cb77fb008c4e9504e51161713aa0367e9123", func := "loop.example/g02079/laws.FnExactMirrorWord", spec := "fnExactMirrorWord", apart := false, narrowed := true }
def FnExactMirrorWordUptoSaid : Prop := fnExactMirrorWordUptoRow.holds Try.pinned (OpenSpec.upto fnExactMirrorWordSpec)

/-- 'laws.FnExactPalindromesOf', WHERE WHAT IT READS IS OF BULK AT MOST 1048576: true; the input reads as it did. -/
def fnExactPalindromesOfUptoRow : OpenClaim := { program := "ytgbgcaaekpgapab", sum := "ee451383b6c61f44a218ea1b6a46cb77fb008c4e9504e51161713aa0367e9123", func := "loop.example/g02079/laws.FnExactPalindromesOf", spec := "fnExactPalindromesOf", unfollowed := true, recurses := true, apart := false, narrowed := true }
def FnExactPalindromesOfUptoSaid : Prop := fnExactPalindromesOfUptoRow.holds Try.pinned (OpenSpec.upto fnExactPalindromesOfSpec)

/-- 'laws.FnExactFactorsOf', WHERE WHAT IT READS IS OF BULK AT MOST 1048576: true; the input reads as it did. -/
def fnExactFactorsOfUptoRow : OpenClaim := { program := "ytgbgcaaekpgapab", sum := "ee451383b6c61f44a218ea1b6a46cb77fb008c4e9504e51161713aa0367e9123", func := "loop.example/g02079/laws.FnExactFactorsOf", spec := "fnExactFactorsOf", unfollowed := true, recurses := true, apart := false, narrowed := true }
def FnExactFactorsOfUptoSaid : Prop := fnExactFactorsOfUptoRow.holds Try.pinned (OpenSpec.upto fnExactFactorsOfSpec)

/-- 'laws.FnExactCountFactors', WHERE WHAT IT READS IS OF BULK AT MOST 1048576: true; the input reads as it did. -/
def fnExactCountFactorsUptoRow : OpenClaim := { program := "ytgbgcaaekpgapab", sum := "ee451383b6c61f44a218ea1b6a46cb77fb008c4e9504e51161713aa0367e9123", func := "loop.example/g02079/laws.FnExactCountFactors", spec := "fnExactCountFactors", unfollowed := true, recurses := true, apart := false, narrowed := true }
def FnExactCountFactorsUptoSaid : Prop := fnExactCountFactorsUptoRow.holds Try.pinned (OpenSpec.upto fnExactCountFactorsSpec)

/-- 'laws.FnExactRightSpecial', WHERE WHAT IT READS IS OF BULK AT MOST 1048576: true; the input reads as it did. -/
def fnExactRightSpecialUptoRow : OpenClaim := { program := "ytgbgcaaekpgapab", sum := "ee451383b6c61f44a218ea1b6a46cb77fb008c4e9504e51161713aa0367e9123", func := "loop.example/g02079/laws.FnExactRightSpecial", spec := "fnExactRightSpecial", unfollowed := true, recurses := true, apart := false, narrowed := true }
def FnExactRightSpecialUptoSaid : Prop := fnExactRightSpecialUptoRow.holds Try.pinned (OpenSpec.upto fnExactRightSpecialSpec)

end Rows
end Go.Proofs.Ytgbgcaaekpgapab
