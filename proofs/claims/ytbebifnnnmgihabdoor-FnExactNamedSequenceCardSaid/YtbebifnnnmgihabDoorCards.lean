/-
  DERIVED. GIVEN WITH THE SEED: THE CARDS: each row of YtbebifnnnmgihabDoorRows.lean that lists a variable, with what it lists TIED to the program's text (the seventh form; the later family's looks); each row that meets fmt, with fmt's text TOLD by the authors' own Lean function (tested against real Go, not proved from fmt's source: count such statements apart). THE CARD IS WHAT COUNTS. Prove the row's statement (the work); the ties are given (YtbebifnnnmgihabDoorTie.lean); close each card by the builder's one call (the guide's Derived/Test/ToyasCard.lean, 'card_holds'). Laid BY PROGRAM, IN A SANDBOX (cutbox-door.mjs). By AI agents, Wed Nov 11 2026. No macro, syntax, notation, axiom, sorry.
-/
import Derived.Test.YtbebifnnnmgihabDoorRows
import GoSem.ClaimSeven
namespace Go.Proofs.YtbebifnnnmgihabDoor
namespace Rows

/-- THE TIED CARD OF 'laws.FnExactFormatSequence'. -/
def fnExactFormatSequenceCard : Claim7 := { stood := { row := fnExactFormatSequenceRow, standIns := [], harness := (true, "ee247b71922f4b48db9261317323c503953ae2ca9bada093bc4eb310311533c2"), looks := false }, kinds := [], alts := [], laidByText := true, laidKinds := [.data, .data, .data], laidTests := true, laidLooks := .later }
def FnExactFormatSequenceCardSaid : Prop := Claim7.holds Tryd.pinned (.plain (OpenSpec.ofChange fnExactFormatSequenceSpec)) fnExactFormatSequenceCard

/-- THE TIED CARD OF 'laws.FnExactParseSequence'. -/
def fnExactParseSequenceCard : Claim7 := { stood := { row := fnExactParseSequenceRow, standIns := [], harness := (true, "ee247b71922f4b48db9261317323c503953ae2ca9bada093bc4eb310311533c2"), looks := false }, kinds := [], alts := [], laidByText := true, laidKinds := [.data, .data, .data, .data, .pinned], laidTests := true, laidLooks := .later }
def FnExactParseSequenceCardSaid : Prop := Claim7.holds Tryd.pinned (.plain (OpenSpec.ofChange fnExactParseSequenceSpec)) fnExactParseSequenceCard

/-- THE TIED CARD OF 'laws.FnExactNamedSequence'. -/
def fnExactNamedSequenceCard : Claim7 := { stood := { row := fnExactNamedSequenceRow, standIns := [], harness := (true, "ee247b71922f4b48db9261317323c503953ae2ca9bada093bc4eb310311533c2"), looks := false }, kinds := [], alts := [], laidByText := true, laidKinds := [.data, .data, .data, .data, .pinned], laidTests := true, laidLooks := .later }
def FnExactNamedSequenceCardSaid : Prop := Claim7.holds Tryd.pinned (.plain (OpenSpec.ofChange fnExactNamedSequenceSpec)) fnExactNamedSequenceCard

/-- THE SECOND FORM's CARD OF 'laws.FnExactFormatSequence'. -/
def fnExactFormatSequenceUptoCard : Claim7 := { stood := { row := fnExactFormatSequenceUptoRow, standIns := [], harness := (true, "ee247b71922f4b48db9261317323c503953ae2ca9bada093bc4eb310311533c2"), looks := false }, kinds := [], alts := [], laidByText := true, laidKinds := [.data, .data, .data], laidTests := true, laidLooks := .later }
def FnExactFormatSequenceUptoCardSaid : Prop := Claim7.holds Tryd.pinned (.plain (OpenSpec.upto fnExactFormatSequenceSpec)) fnExactFormatSequenceUptoCard

/-- THE SECOND FORM's CARD OF 'laws.FnExactParseSequence'. -/
def fnExactParseSequenceUptoCard : Claim7 := { stood := { row := fnExactParseSequenceUptoRow, standIns := [], harness := (true, "ee247b71922f4b48db9261317323c503953ae2ca9bada093bc4eb310311533c2"), looks := false }, kinds := [], alts := [], laidByText := true, laidKinds := [.data, .data, .data, .data, .pinned], laidTests := true, laidLooks := .later }
def FnExactParseSequenceUptoCardSaid : Prop := Claim7.holds Tryd.pinned (.plain (OpenSpec.upto fnExactParseSequenceSpec)) fnExactParseSequenceUptoCard

/-- THE SECOND FORM's CARD OF 'laws.FnExactNamedSequence'. -/
def fnExactNamedSequenceUptoCard : Claim7 := { stood := { row := fnExactNamedSequenceUptoRow, standIns := [], harness := (true, "ee247b71922f4b48db9261317323c503953ae2ca9bada093bc4eb310311533c2"), looks := false }, kinds := [], alts := [], laidByText := true, laidKinds := [.data, .data, .data, .data, .pinned], laidTests := true, laidLooks := .later }
def FnExactNamedSequenceUptoCardSaid : Prop := Claim7.holds Tryd.pinned (.plain (OpenSpec.upto fnExactNamedSequenceSpec)) fnExactNamedSequenceUptoCard
end Rows
end Go.Proofs.YtbebifnnnmgihabDoor
