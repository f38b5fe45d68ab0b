/-
  DERIVED. GIVEN WITH THE SEED: THE CARDS: each row of YtppnklmmfagbiaaDoorRows.lean that lists a variable, with what it lists TIED to the program's text (the seventh form; the later family's looks); each row that meets fmt, with fmt's text TOLD by the authors' own Lean function (tested against real Go, not proved from fmt's source: count such statements apart). THE CARD IS WHAT COUNTS. Prove the row's statement (the work); the ties are given (YtppnklmmfagbiaaDoorTie.lean); close each card by the builder's one call (the guide's Derived/Test/ToyasCard.lean, 'card_holds'). Laid BY PROGRAM, IN A SANDBOX (cutbox-door.mjs). By AI agents, Wed Nov 11 2026. No macro, syntax, notation, axiom, sorry.
-/
import Derived.Test.YtppnklmmfagbiaaDoorRows
import GoSem.ClaimSeven
namespace Go.Proofs.YtppnklmmfagbiaaDoor
namespace Rows

/-- THE TIED CARD OF 'laws.FnExactFormatSequence'. -/
def fnExactFormatSequenceCard : Claim7 := { stood := { row := fnExactFormatSequenceRow, standIns := [], harness := (true, "4baaa5784b96e89eeca1f696817f8990325571d1638401814486ee4f840bf2a7"), looks := false }, kinds := [], alts := [], laidByText := true, laidKinds := [.data, .data, .data], laidTests := true, laidLooks := .later }
def FnExactFormatSequenceCardSaid : Prop := Claim7.holds Tryd.pinned (.plain (OpenSpec.ofChange fnExactFormatSequenceSpec)) fnExactFormatSequenceCard

/-- THE SECOND FORM's CARD OF 'laws.FnExactFormatSequence'. -/
def fnExactFormatSequenceUptoCard : Claim7 := { stood := { row := fnExactFormatSequenceUptoRow, standIns := [], harness := (true, "4baaa5784b96e89eeca1f696817f8990325571d1638401814486ee4f840bf2a7"), looks := false }, kinds := [], alts := [], laidByText := true, laidKinds := [.data, .data, .data], laidTests := true, laidLooks := .later }
def FnExactFormatSequenceUptoCardSaid : Prop := Claim7.holds Tryd.pinned (.plain (OpenSpec.upto fnExactFormatSequenceSpec)) fnExactFormatSequenceUptoCard
end Rows
end Go.Proofs.YtppnklmmfagbiaaDoor
