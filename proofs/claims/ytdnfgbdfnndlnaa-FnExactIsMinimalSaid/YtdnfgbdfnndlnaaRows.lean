/-
  No cell of these rows narrows 'for every input' (looked for: loops, veiled, ifaces, maps, wideKeys, modest, calm, conditions, laid).
  DERIVED. THE GIVEN ROWS OF THIS SEAT. 6 by the template 'for every input the law returns true; each argument reads behind the call as it read before'; 0 by the template 'total and deterministic' (their statements: YtdnfgbdfnndlnaaTotals.lean).
  GIVEN WITH THE SEED: the statements are not yours to turn. If you find one false, say at which input.
  Laid BY PROGRAM, IN A SANDBOX (cutbox-rows.mjs): the forced cells as the released guide's own fill.sh prints them over the translation 51816bf9a60c7b42… (all of the seat's roots in one cut). By AI agents, Wed Nov 11 2026. No macro, syntax, notation, axiom, sorry.
-/
import Derived.Test.YtdnfgbdfnndlnaaChecked
import GoSem.Claim
import GoSem.ClaimJoined
import GoSem.ClaimMapViews
import Derived.JoinedTies
import Derived.KernelRfl
namespace Go.Proofs.Ytdnfgbdfnndlnaa
/- THE CELL 'sum', in the pinned program and in every row, IS THE sha256 OF THE DUMP (.gsa) THAT YtdnfgbdfnndlnaaProg.lean LOADS. Nothing in Lean hashes anything: it is a label: what it is worth is what the hold of that sum in a sandbox is worth. -/
noncomputable def Try.pinned : Pinned := { name := "ytdnfgbdfnndlnaa", sum := "51816bf9a60c7b4268ef67f191951f976eb8e82c3dd7617298d06b3b1eb7309d", checked := Try.checked }
namespace Rows
def none {H : Type} : Left H := { results := [], args := [] }

/-- 'laws.FnExactReachedStates': WHATEVER THE INPUT: true; the input reads as it did. -/
def fnExactReachedStatesSpec : ChangeSpec := { name := "fnExactReachedStates", fn := fun _ => fun
  | [d] => { results := [.lit (.bool true)], args := [d] }
  | _ => none }
def fnExactReachedStatesRow : OpenClaim := { program := "ytdnfgbdfnndlnaa", sum := "51816bf9a60c7b4268ef67f191951f976eb8e82c3dd7617298d06b3b1eb7309d", func := "loop.example/g02079/laws.FnExactReachedStates", spec := "fnExactReachedStates", plainKeys := false, apart := false }
def FnExactReachedStatesSaid : Prop := fnExactReachedStatesRow.holds Try.pinned (OpenSpec.ofChange fnExactReachedStatesSpec)

/-- ITS FALSE NEIGHBOUR: 'it returns false'. Refute it at one input. -/
def fnExactReachedStatesWrong : ChangeSpec := { name := "fnExactReachedStates", fn := fun _ => fun
  | [d] => { results := [.lit (.bool false)], args := [d] }
  | _ => none }
def FnExactReachedStatesWrongFalsely : Prop := fnExactReachedStatesRow.holds Try.pinned (OpenSpec.ofChange fnExactReachedStatesWrong)

/-- 'laws.FnExactStateClasses': WHATEVER THE INPUT: true; the input reads as it did. -/
def fnExactStateClassesSpec : ChangeSpec := { name := "fnExactStateClasses", fn := fun _ => fun
  | [d] => { results := [.lit (.bool true)], args := [d] }
  | _ => none }
def fnExactStateClassesRow : OpenClaim := { program := "ytdnfgbdfnndlnaa", sum := "51816bf9a60c7b4268ef67f191951f976eb8e82c3dd7617298d06b3b1eb7309d", func := "loop.example/g02079/laws.FnExactStateClasses", spec := "fnExactStateClasses", plainKeys := false, apart := false }
def FnExactStateClassesSaid : Prop := fnExactStateClassesRow.holds Try.pinned (OpenSpec.ofChange fnExactStateClassesSpec)

/-- ITS FALSE NEIGHBOUR: 'it returns false'. Refute it at one input. -/
def fnExactStateClassesWrong : ChangeSpec := { name := "fnExactStateClasses", fn := fun _ => fun
  | [d] => { results := [.lit (.bool false)], args := [d] }
  | _ => none }
def FnExactStateClassesWrongFalsely : Prop := fnExactStateClassesRow.holds Try.pinned (OpenSpec.ofChange fnExactStateClassesWrong)

/-- 'laws.FnExactMinimalForm': WHATEVER THE INPUT: true; the input reads as it did. -/
def fnExactMinimalFormSpec : ChangeSpec := { name := "fnExactMinimalForm", fn := fun _ => fun
  | [d] => { results := [.lit (.bool true)], args := [d] }
  | _ => none }
def fnExactMinimalFormRow : OpenClaim := { program := "ytdnfgbdfnndlnaa", sum := "51816bf9a60c7b4268ef67f191951f976eb8e82c3dd7617298d06b3b1eb7309d", func := "loop.example/g02079/laws.FnExactMinimalForm", spec := "fnExactMinimalForm", plainKeys := false, apart := false }
def FnExactMinimalFormSaid : Prop := fnExactMinimalFormRow.holds Try.pinned (OpenSpec.ofChange fnExactMinimalFormSpec)

/-- ITS FALSE NEIGHBOUR: 'it returns false'. Refute it at one input. -/
def fnExactMinimalFormWrong : ChangeSpec := { name := "fnExactMinimalForm", fn := fun _ => fun
  | [d] => { results := [.lit (.bool false)], args := [d] }
  | _ => none }
def FnExactMinimalFormWrongFalsely : Prop := fnExactMinimalFormRow.holds Try.pinned (OpenSpec.ofChange fnExactMinimalFormWrong)

/-- 'laws.FnExactAreSameTerms': WHATEVER THE INPUT: true; the input reads as it did. -/
def fnExactAreSameTermsSpec : ChangeSpec := { name := "fnExactAreSameTerms", fn := fun _ => fun
  | [d1, d2] => { results := [.lit (.bool true)], args := [d1, d2] }
  | _ => none }
def fnExactAreSameTermsRow : OpenClaim := { program := "ytdnfgbdfnndlnaa", sum := "51816bf9a60c7b4268ef67f191951f976eb8e82c3dd7617298d06b3b1eb7309d", func := "loop.example/g02079/laws.FnExactAreSameTerms", spec := "fnExactAreSameTerms", unfollowed := true, recurses := true, plainKeys := false, apart := false }
def FnExactAreSameTermsSaid : Prop := fnExactAreSameTermsRow.holds Try.pinned (OpenSpec.ofChange fnExactAreSameTermsSpec)

/-- ITS FALSE NEIGHBOUR: 'it returns false'. Refute it at one input. -/
def fnExactAreSameTermsWrong : ChangeSpec := { name := "fnExactAreSameTerms", fn := fun _ => fun
  | [d1, d2] => { results := [.lit (.bool false)], args := [d1, d2] }
  | _ => none }
def FnExactAreSameTermsWrongFalsely : Prop := fnExactAreSameTermsRow.holds Try.pinned (OpenSpec.ofChange fnExactAreSameTermsWrong)

/-- 'laws.FnExactFirstDifference': WHATEVER THE INPUT: true; the input reads as it did. -/
def fnExactFirstDifferenceSpec : ChangeSpec := { name := "fnExactFirstDifference", fn := fun _ => fun
  | [d1, d2] => { results := [.lit (.bool true)], args := [d1, d2] }
  | _ => none }
def fnExactFirstDifferenceRow : OpenClaim := { program := "ytdnfgbdfnndlnaa", sum := "51816bf9a60c7b4268ef67f191951f976eb8e82c3dd7617298d06b3b1eb7309d", func := "loop.example/g02079/laws.FnExactFirstDifference", spec := "fnExactFirstDifference", plainKeys := false, apart := false }
def FnExactFirstDifferenceSaid : Prop := fnExactFirstDifferenceRow.holds Try.pinned (OpenSpec.ofChange fnExactFirstDifferenceSpec)

/-- ITS FALSE NEIGHBOUR: 'it returns false'. Refute it at one input. -/
def fnExactFirstDifferenceWrong : ChangeSpec := { name := "fnExactFirstDifference", fn := fun _ => fun
  | [d1, d2] => { results := [.lit (.bool false)], args := [d1, d2] }
  | _ => none }
def FnExactFirstDifferenceWrongFalsely : Prop := fnExactFirstDifferenceRow.holds Try.pinned (OpenSpec.ofChange fnExactFirstDifferenceWrong)

/-- 'laws.FnExactIsMinimal': WHATEVER THE INPUT: true; the input reads as it did. -/
def fnExactIsMinimalSpec : ChangeSpec := { name := "fnExactIsMinimal", fn := fun _ => fun
  | [d] => { results := [.lit (.bool true)], args := [d] }
  | _ => none }
def fnExactIsMinimalRow : OpenClaim := { program := "ytdnfgbdfnndlnaa", sum := "51816bf9a60c7b4268ef67f191951f976eb8e82c3dd7617298d06b3b1eb7309d", func := "loop.example/g02079/laws.FnExactIsMinimal", spec := "fnExactIsMinimal", plainKeys := false, apart := false }
def FnExactIsMinimalSaid : Prop := fnExactIsMinimalRow.holds Try.pinned (OpenSpec.ofChange fnExactIsMinimalSpec)

/-- ITS FALSE NEIGHBOUR: 'it returns false'. Refute it at one input. -/
def fnExactIsMinimalWrong : ChangeSpec := { name := "fnExactIsMinimal", fn := fun _ => fun
  | [d] => { results := [.lit (.bool false)], args := [d] }
  | _ => none }
def FnExactIsMinimalWrongFalsely : Prop := fnExactIsMinimalRow.holds Try.pinned (OpenSpec.ofChange fnExactIsMinimalWrong)

/- THE SECOND FORM. 'bulk': how many values and letters a reading holds, each counted each time it is reached (what is shared counts as often as it is met; a slice's spare places count too). A statement '..UptoSaid' is the law's where the arguments, and the package variables that the reading takes, are together of bulk at most 1048576: NARROWER than '..Said'. Prove '..Said' where nothing that the law and all that it calls make is longer than what came in: it says more and counts as full. Else prove '..UptoSaid'. A law counts once. -/
mutual
def uptoBulk {H : Type} : DataW H → Nat
  | .lit (.string bytes) => bytes.length + 1
  | .lit _ => 1
  | .nil => 1
  | .ptr d => uptoBulk d + 1
  | .slice elems spare => uptoBulkAll elems + uptoBulkAll spare + 1
  | .agg parts => uptoBulkAll parts + 1
  | .iface _ d => uptoBulk d + 1
  | .map entries => uptoBulkEntries entries + 1
  | .held _ => 1
def uptoBulkAll {H : Type} : List (DataW H) → Nat
  | [] => 0
  | d :: r => uptoBulk d + uptoBulkAll r
def uptoBulkEntries {H : Type} : List (Lit × DataW H) → Nat
  | [] => 0
  | x :: r => uptoBulkEntry x + uptoBulkEntries r
def uptoBulkEntry {H : Type} : Lit × DataW H → Nat
  | (.string bytes, d) => bytes.length + uptoBulk d + 1
  | (_, d) => uptoBulk d + 1
 end
def uptoSmall : (H : Type) → List (DataW H) → Bool := fun _ ds => decide (uptoBulkAll ds ≤ 1048576)
def OpenSpec.upto (s : _root_.Go.ChangeSpec) : _root_.Go.OpenSpec := { _root_.Go.OpenSpec.ofChange s with cond := some uptoSmall }

/-- 'laws.FnExactReachedStates', WHERE WHAT IT READS IS OF BULK AT MOST 1048576: true; the input reads as it did. -/
def fnExactReachedStatesUptoRow : OpenClaim := { program := "ytdnfgbdfnndlnaa", sum := "51816bf9a60c7b4268ef67f191951f976eb8e82c3dd7617298d06b3b1eb7309d", func := "loop.example/g02079/laws.FnExactReachedStates", spec := "fnExactReachedStates", plainKeys := false, apart := false, narrowed := true }
def FnExactReachedStatesUptoSaid : Prop := fnExactReachedStatesUptoRow.holds Try.pinned (OpenSpec.upto fnExactReachedStatesSpec)

/-- 'laws.FnExactStateClasses', WHERE WHAT IT READS IS OF BULK AT MOST 1048576: true; the input reads as it did. -/
def fnExactStateClassesUptoRow : OpenClaim := { program := "ytdnfgbdfnndlnaa", sum := "51816bf9a60c7b4268ef67f191951f976eb8e82c3dd7617298d06b3b1eb7309d", func := "loop.example/g02079/laws.FnExactStateClasses", spec := "fnExactStateClasses", plainKeys := false, apart := false, narrowed := true }
def FnExactStateClassesUptoSaid : Prop := fnExactStateClassesUptoRow.holds Try.pinned (OpenSpec.upto fnExactStateClassesSpec)

/-- 'laws.FnExactMinimalForm', WHERE WHAT IT READS IS OF BULK AT MOST 1048576: true; the input reads as it did. -/
def fnExactMinimalFormUptoRow : OpenClaim := { program := "ytdnfgbdfnndlnaa", sum := "51816bf9a60c7b4268ef67f191951f976eb8e82c3dd7617298d06b3b1eb7309d", func := "loop.example/g02079/laws.FnExactMinimalForm", spec := "fnExactMinimalForm", plainKeys := false, apart := false, narrowed := true }
def FnExactMinimalFormUptoSaid : Prop := fnExactMinimalFormUptoRow.holds Try.pinned (OpenSpec.upto fnExactMinimalFormSpec)

/-- 'laws.FnExactAreSameTerms', WHERE WHAT IT READS IS OF BULK AT MOST 1048576: true; the input reads as it did. -/
def fnExactAreSameTermsUptoRow : OpenClaim := { program := "ytdnfgbdfnndlnaa", sum := "51816bf9a60c7b4268ef67f191951f976eb8e82c3dd7617298d06b3b1eb7309d", func := "loop.example/g02079/laws.FnExactAreSameTerms", spec := "fnExactAreSameTerms", unfollowed := true, recurses := true, plainKeys := false, apart := false, narrowed := true }
def FnExactAreSameTermsUptoSaid : Prop := fnExactAreSameTermsUptoRow.holds Try.pinned (OpenSpec.upto fnExactAreSameTermsSpec)

/-- 'laws.FnExactFirstDifference', WHERE WHAT IT READS IS OF BULK AT MOST 1048576: true; the input reads as it did. -/
def fnExactFirstDifferenceUptoRow : OpenClaim := { program := "ytdnfgbdfnndlnaa", sum := "51816bf9a60c7b4268ef67f191951f976eb8e82c3dd7617298d06b3b1eb7309d", func := "loop.example/g02079/laws.FnExactFirstDifference", spec := "fnExactFirstDifference", plainKeys := false, apart := false, narrowed := true }
def FnExactFirstDifferenceUptoSaid : Prop := fnExactFirstDifferenceUptoRow.holds Try.pinned (OpenSpec.upto fnExactFirstDifferenceSpec)

/-- 'laws.FnExactIsMinimal', WHERE WHAT IT READS IS OF BULK AT MOST 1048576: true; the input reads as it did. -/
def fnExactIsMinimalUptoRow : OpenClaim := { program := "ytdnfgbdfnndlnaa", sum := "51816bf9a60c7b4268ef67f191951f976eb8e82c3dd7617298d06b3b1eb7309d", func := "loop.example/g02079/laws.FnExactIsMinimal", spec := "fnExactIsMinimal", plainKeys := false, apart := false, narrowed := true }
def FnExactIsMinimalUptoSaid : Prop := fnExactIsMinimalUptoRow.holds Try.pinned (OpenSpec.upto fnExactIsMinimalSpec)

end Rows
end Go.Proofs.Ytdnfgbdfnndlnaa
