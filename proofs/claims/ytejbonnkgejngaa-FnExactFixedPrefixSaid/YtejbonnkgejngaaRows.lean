/-
  No cell of these rows narrows 'for every input' (looked for: loops, veiled, ifaces, maps, wideKeys, modest, calm, conditions, laid).
  DERIVED. THE GIVEN ROWS OF THIS SEAT. 7 by the template 'for every input the law returns true; each argument reads behind the call as it read before'; 0 by the template 'total and deterministic' (their statements: YtejbonnkgejngaaTotals.lean).
  GIVEN WITH THE SEED: the statements are not yours to turn. If you find one false, say at which input.
  Laid BY PROGRAM, IN A SANDBOX (cutbox-rows.mjs): the forced cells as the released guide's own fill.sh prints them over the translation 028da704ef8a59f3… (all of the seat's roots in one cut). By AI agents, Wed Nov 11 2026. No macro, syntax, notation, axiom, sorry.
-/
import Derived.Test.YtejbonnkgejngaaChecked
import GoSem.Claim
import GoSem.ClaimJoined
import GoSem.ClaimMapViews
import Derived.JoinedTies
import Derived.KernelRfl
namespace Go.Proofs.Ytejbonnkgejngaa
/- THE CELL 'sum', in the pinned program and in every row, IS THE sha256 OF THE DUMP (.gsa) THAT YtejbonnkgejngaaProg.lean LOADS. Nothing in Lean hashes anything: it is a label: what it is worth is what the hold of that sum in a sandbox is worth. -/
noncomputable def Try.pinned : Pinned := { name := "ytejbonnkgejngaa", sum := "028da704ef8a59f378beb2f09f439002a9b15c66d913b42c8c2a59b56fb48daf", checked := Try.checked }
namespace Rows
def none {H : Type} : Left H := { results := [], args := [] }

/-- 'laws.FnExactIsWord': WHATEVER THE INPUT: true; the input reads as it did. -/
def fnExactIsWordSpec : ChangeSpec := { name := "fnExactIsWord", fn := fun _ => fun
  | [d1, d2] => { results := [.lit (.bool true)], args := [d1, d2] }
  | _ => none }
def fnExactIsWordRow : OpenClaim := { program := "ytejbonnkgejngaa", sum := "028da704ef8a59f378beb2f09f439002a9b15c66d913b42c8c2a59b56fb48daf", func := "loop.example/g02079/laws.FnExactIsWord", spec := "fnExactIsWord", unfollowed := true, recurses := true, apart := false }
def FnExactIsWordSaid : Prop := fnExactIsWordRow.holds Try.pinned (OpenSpec.ofChange fnExactIsWordSpec)

/-- ITS FALSE NEIGHBOUR: 'it returns false'. Refute it at one input. -/
def fnExactIsWordWrong : ChangeSpec := { name := "fnExactIsWord", fn := fun _ => fun
  | [d1, d2] => { results := [.lit (.bool false)], args := [d1, d2] }
  | _ => none }
def FnExactIsWordWrongFalsely : Prop := fnExactIsWordRow.holds Try.pinned (OpenSpec.ofChange fnExactIsWordWrong)

/-- 'laws.FnExactIsMorphism': WHATEVER THE INPUT: true; the input reads as it did. -/
def fnExactIsMorphismSpec : ChangeSpec := { name := "fnExactIsMorphism", fn := fun _ => fun
  | [d] => { results := [.lit (.bool true)], args := [d] }
  | _ => none }
def fnExactIsMorphismRow : OpenClaim := { program := "ytejbonnkgejngaa", sum := "028da704ef8a59f378beb2f09f439002a9b15c66d913b42c8c2a59b56fb48daf", func := "loop.example/g02079/laws.FnExactIsMorphism", spec := "fnExactIsMorphism", unfollowed := true, recurses := true, apart := false }
def FnExactIsMorphismSaid : Prop := fnExactIsMorphismRow.holds Try.pinned (OpenSpec.ofChange fnExactIsMorphismSpec)

/-- ITS FALSE NEIGHBOUR: 'it returns false'. Refute it at one input. -/
def fnExactIsMorphismWrong : ChangeSpec := { name := "fnExactIsMorphism", fn := fun _ => fun
  | [d] => { results := [.lit (.bool false)], args := [d] }
  | _ => none }
def FnExactIsMorphismWrongFalsely : Prop := fnExactIsMorphismRow.holds Try.pinned (OpenSpec.ofChange fnExactIsMorphismWrong)

/-- 'laws.FnExactIsUniform': WHATEVER THE INPUT: true; the input reads as it did. -/
def fnExactIsUniformSpec : ChangeSpec := { name := "fnExactIsUniform", fn := fun _ => fun
  | [d1, d2] => { results := [.lit (.bool true)], args := [d1, d2] }
  | _ => none }
def fnExactIsUniformRow : OpenClaim := { program := "ytejbonnkgejngaa", sum := "028da704ef8a59f378beb2f09f439002a9b15c66d913b42c8c2a59b56fb48daf", func := "loop.example/g02079/laws.FnExactIsUniform", spec := "fnExactIsUniform", unfollowed := true, recurses := true, apart := false }
def FnExactIsUniformSaid : Prop := fnExactIsUniformRow.holds Try.pinned (OpenSpec.ofChange fnExactIsUniformSpec)

/-- ITS FALSE NEIGHBOUR: 'it returns false'. Refute it at one input. -/
def fnExactIsUniformWrong : ChangeSpec := { name := "fnExactIsUniform", fn := fun _ => fun
  | [d1, d2] => { results := [.lit (.bool false)], args := [d1, d2] }
  | _ => none }
def FnExactIsUniformWrongFalsely : Prop := fnExactIsUniformRow.holds Try.pinned (OpenSpec.ofChange fnExactIsUniformWrong)

/-- 'laws.FnExactApplyMorphism': WHATEVER THE INPUT: true; the input reads as it did. -/
def fnExactApplyMorphismSpec : ChangeSpec := { name := "fnExactApplyMorphism", fn := fun _ => fun
  | [d1, d2] => { results := [.lit (.bool true)], args := [d1, d2] }
  | _ => none }
def fnExactApplyMorphismRow : OpenClaim := { program := "ytejbonnkgejngaa", sum := "028da704ef8a59f378beb2f09f439002a9b15c66d913b42c8c2a59b56fb48daf", func := "loop.example/g02079/laws.FnExactApplyMorphism", spec := "fnExactApplyMorphism", unfollowed := true, recurses := true, apart := false }
def FnExactApplyMorphismSaid : Prop := fnExactApplyMorphismRow.holds Try.pinned (OpenSpec.ofChange fnExactApplyMorphismSpec)

/-- ITS FALSE NEIGHBOUR: 'it returns false'. Refute it at one input. -/
def fnExactApplyMorphismWrong : ChangeSpec := { name := "fnExactApplyMorphism", fn := fun _ => fun
  | [d1, d2] => { results := [.lit (.bool false)], args := [d1, d2] }
  | _ => none }
def FnExactApplyMorphismWrongFalsely : Prop := fnExactApplyMorphismRow.holds Try.pinned (OpenSpec.ofChange fnExactApplyMorphismWrong)

/-- 'laws.FnExactIterateMorphism': WHATEVER THE INPUT: true; the input reads as it did. -/
def fnExactIterateMorphismSpec : ChangeSpec := { name := "fnExactIterateMorphism", fn := fun _ => fun
  | [d1, d2, d3] => { results := [.lit (.bool true)], args := [d1, d2, d3] }
  | _ => none }
def fnExactIterateMorphismRow : OpenClaim := { program := "ytejbonnkgejngaa", sum := "028da704ef8a59f378beb2f09f439002a9b15c66d913b42c8c2a59b56fb48daf", func := "loop.example/g02079/laws.FnExactIterateMorphism", spec := "fnExactIterateMorphism", unfollowed := true, recurses := true, apart := false }
def FnExactIterateMorphismSaid : Prop := fnExactIterateMorphismRow.holds Try.pinned (OpenSpec.ofChange fnExactIterateMorphismSpec)

/-- ITS FALSE NEIGHBOUR: 'it returns false'. Refute it at one input. -/
def fnExactIterateMorphismWrong : ChangeSpec := { name := "fnExactIterateMorphism", fn := fun _ => fun
  | [d1, d2, d3] => { results := [.lit (.bool false)], args := [d1, d2, d3] }
  | _ => none }
def FnExactIterateMorphismWrongFalsely : Prop := fnExactIterateMorphismRow.holds Try.pinned (OpenSpec.ofChange fnExactIterateMorphismWrong)

/-- 'laws.FnExactIsGrowing': WHATEVER THE INPUT: true; the input reads as it did. -/
def fnExactIsGrowingSpec : ChangeSpec := { name := "fnExactIsGrowing", fn := fun _ => fun
  | [d1, d2] => { results := [.lit (.bool true)], args := [d1, d2] }
  | _ => none }
def fnExactIsGrowingRow : OpenClaim := { program := "ytejbonnkgejngaa", sum := "028da704ef8a59f378beb2f09f439002a9b15c66d913b42c8c2a59b56fb48daf", func := "loop.example/g02079/laws.FnExactIsGrowing", spec := "fnExactIsGrowing", unfollowed := true, recurses := true, apart := false }
def FnExactIsGrowingSaid : Prop := fnExactIsGrowingRow.holds Try.pinned (OpenSpec.ofChange fnExactIsGrowingSpec)

/-- ITS FALSE NEIGHBOUR: 'it returns false'. Refute it at one input. -/
def fnExactIsGrowingWrong : ChangeSpec := { name := "fnExactIsGrowing", fn := fun _ => fun
  | [d1, d2] => { results := [.lit (.bool false)], args := [d1, d2] }
  | _ => none }
def FnExactIsGrowingWrongFalsely : Prop := fnExactIsGrowingRow.holds Try.pinned (OpenSpec.ofChange fnExactIsGrowingWrong)

/-- 'laws.FnExactFixedPrefix': WHATEVER THE INPUT: true; the input reads as it did. -/
def fnExactFixedPrefixSpec : ChangeSpec := { name := "fnExactFixedPrefix", fn := fun _ => fun
  | [d1, d2, d3] => { results := [.lit (.bool true)], args := [d1, d2, d3] }
  | _ => none }
def fnExactFixedPrefixRow : OpenClaim := { program := "ytejbonnkgejngaa", sum := "028da704ef8a59f378beb2f09f439002a9b15c66d913b42c8c2a59b56fb48daf", func := "loop.example/g02079/laws.FnExactFixedPrefix", spec := "fnExactFixedPrefix", unfollowed := true, recurses := true, apart := false }
def FnExactFixedPrefixSaid : Prop := fnExactFixedPrefixRow.holds Try.pinned (OpenSpec.ofChange fnExactFixedPrefixSpec)

/-- ITS FALSE NEIGHBOUR: 'it returns false'. Refute it at one input. -/
def fnExactFixedPrefixWrong : ChangeSpec := { name := "fnExactFixedPrefix", fn := fun _ => fun
  | [d1, d2, d3] => { results := [.lit (.bool false)], args := [d1, d2, d3] }
  | _ => none }
def FnExactFixedPrefixWrongFalsely : Prop := fnExactFixedPrefixRow.holds Try.pinned (OpenSpec.ofChange fnExactFixedPrefixWrong)

/- THE SECOND FORM. 'bulk': how many values and letters a reading holds, each counted each time it is reached (what is shared counts as often as it is met; a slice's spare places count too). A statement '..UptoSaid' is the law's where the arguments, and the package variables that the reading takes, are together of bulk at most 1048576: NARROWER than '..Said'. Prove '..Said' where nothing that the law and all that it calls make is longer than what came in: it says more and counts as full. Else prove '..UptoSaid'. A law counts once. -/
mutual
def uptoBulk {H : Type} : DataW H → Nat
  | .lit (.string bytes) => bytes.length + 1
  | .lit _ => 1
  | .nil => 1
  | .ptr d => uptoBulk d + 1
  | .slice elems spare => uptoBulkAll elems + uptoBulkAll spare + 1
  | .agg parts => uptoBulkAll parts + 1
  | .iface _ d => uptoBulk d + 1
  | .map entries => uptoBulkEntries entries + 1
  | .held _ => 1
def uptoBulkAll {H : Type} : List (DataW H) → Nat
  | [] => 0
  | d :: r => uptoBulk d + uptoBulkAll r
def uptoBulkEntries {H : Type} : List (Lit × DataW H) → Nat
  | [] => 0
  | x :: r => uptoBulkEntry x + uptoBulkEntries r
def uptoBulkEntry {H : Type} : Lit × DataW H → Nat
  | (.string bytes, d) => bytes.length + uptoBulk d + 1
  | (_, d) => uptoBulk d + 1
 end
def uptoSmall : (H : Type) → List (DataW H) → Bool := fun _ ds => decide (uptoBulkAll ds ≤ 1048576)
def OpenSpec.upto (s : _root_.Go.ChangeSpec) : _root_.Go.OpenSpec := { _root_.Go.OpenSpec.ofChange s with cond := some uptoSmall }

/-- 'laws.FnExactIsWord', WHERE WHAT IT READS IS OF BULK AT MOST 1048576: true; the input reads as it did. -/
def fnExactIsWordUptoRow : OpenClaim := { program := "ytejbonnkgejngaa", sum := "028da704ef8a59f378beb2f09f439002a9b15c66d913b42c8c2a59b56fb48daf", func := "loop.example/g02079/laws.FnExactIsWord", spec := "fnExactIsWord", unfollowed := true, recurses := true, apart := false, narrowed := true }
def FnExactIsWordUptoSaid : Prop := fnExactIsWordUptoRow.holds Try.pinned (OpenSpec.upto fnExactIsWordSpec)

/-- 'laws.FnExactIsMorphism', WHERE WHAT IT READS IS OF BULK AT MOST 1048576: true; the input reads as it did. -/
def fnExactIsMorphismUptoRow : OpenClaim := { program := "ytejbonnkgejngaa", sum := "028da704ef8a59f378beb2f09f439002a9b15c66d913b42c8c2a59b56fb48daf", func := "loop.example/g02079/laws.FnExactIsMorphism", spec := "fnExactIsMorphism", unfollowed := true, recurses := true, apart := false, narrowed := true }
def FnExactIsMorphismUptoSaid : Prop := fnExactIsMorphismUptoRow.holds Try.pinned (OpenSpec.upto fnExactIsMorphismSpec)

/-- 'laws.FnExactIsUniform', WHERE WHAT IT READS IS OF BULK AT MOST 1048576: true; the input reads as it did. -/
def fnExactIsUniformUptoRow : OpenClaim := { program := "ytejbonnkgejngaa", sum := "028da704ef8a59f378beb2f09f439002a9b15c66d913b42c8c2a59b56fb48daf", func := "loop.example/g02079/laws.FnExactIsUniform", spec := "fnExactIsUniform", unfollowed := true, recurses := true, apart := false, narrowed := true }
def FnExactIsUniformUptoSaid : Prop := fnExactIsUniformUptoRow.holds Try.pinned (OpenSpec.upto fnExactIsUniformSpec)

/-- 'laws.FnExactApplyMorphism', WHERE WHAT IT READS IS OF BULK AT MOST 1048576: true; the input reads as it did. -/
def fnExactApplyMorphismUptoRow : OpenClaim := { program := "ytejbonnkgejngaa", sum := "028da704ef8a59f378beb2f09f439002a9b15c66d913b42c8c2a59b56fb48daf", func := "loop.example/g02079/laws.FnExactApplyMorphism", spec := "fnExactApplyMorphism", unfollowed := true, recurses := true, apart := false, narrowed := true }
def FnExactApplyMorphismUptoSaid : Prop := fnExactApplyMorphismUptoRow.holds Try.pinned (OpenSpec.upto fnExactApplyMorphismSpec)

/-- 'laws.FnExactIterateMorphism', WHERE WHAT IT READS IS OF BULK AT MOST 1048576: true; the input reads as it did. -/
def fnExactIterateMorphismUptoRow : OpenClaim := { program := "ytejbonnkgejngaa", sum := "028da704ef8a59f378beb2f09f439002a9b15c66d913b42c8c2a59b56fb48daf", func := "loop.example/g02079/laws.FnExactIterateMorphism", spec := "fnExactIterateMorphism", unfollowed := true, recurses := true, apart := false, narrowed := true }
def FnExactIterateMorphismUptoSaid : Prop := fnExactIterateMorphismUptoRow.holds Try.pinned (OpenSpec.upto fnExactIterateMorphismSpec)

/-- 'laws.FnExactIsGrowing', WHERE WHAT IT READS IS OF BULK AT MOST 1048576: true; the input reads as it did. -/
def fnExactIsGrowingUptoRow : OpenClaim := { program := "ytejbonnkgejngaa", sum := "028da704ef8a59f378beb2f09f439002a9b15c66d913b42c8c2a59b56fb48daf", func := "loop.example/g02079/laws.FnExactIsGrowing", spec := "fnExactIsGrowing", unfollowed := true, recurses := true, apart := false, narrowed := true }
def FnExactIsGrowingUptoSaid : Prop := fnExactIsGrowingUptoRow.holds Try.pinned (OpenSpec.upto fnExactIsGrowingSpec)

/-- 'laws.FnExactFixedPrefix', WHERE WHAT IT READS IS OF BULK AT MOST 1048576: true; the input reads as it did. -/
def fnExactFixedPrefixUptoRow : OpenClaim := { program := "ytejbonnkgejngaa", sum := "028da704ef8a59f378beb2f09f439002a9b15c66d913b42c8c2a59b56fb48daf", func := "loop.example/g02079/laws.FnExactFixedPrefix", spec := "fnExactFixedPrefix", unfollowed := true, recurses := true, apart := false, narrowed := true }
def FnExactFixedPrefixUptoSaid : Prop := fnExactFixedPrefixUptoRow.holds Try.pinned (OpenSpec.upto fnExactFixedPrefixSpec)

end Rows
end Go.Proofs.Ytejbonnkgejngaa
