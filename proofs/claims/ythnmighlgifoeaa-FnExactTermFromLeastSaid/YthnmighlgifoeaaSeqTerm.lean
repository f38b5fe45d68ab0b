/- Contracts of TermAt, of the program and of the model. No conditions beyond those that each states. -/
import Derived.Test.YthnmighlgifoeaaSeqAfter
import Derived.Test.YthnmighlgifoeaaSeqEq
import Derived.Test.YthnmighlgifoeaaDigits3
import Derived.Deep.RegionHeld3
namespace Go.Proofs.Ythnmighlgifoeaa
open Go.ChangeShapes Go.WideShapes Go.ChangeAt Go.RowKit
open Go.PlainAid Plain
set_option linter.unusedVariables false
namespace Seqs
theorem cell_below {w w' : World} {p : Addr} {x : Value} (h : w.cell? p = some x) (hb : Below w.heap.size w w') : w'.cell? p = some x := (hb.cell (World.block_lt_of_cell? w p h)).trans h
open Digits
/-- May the term be asked for? -/
def askB (b : Int) (rows : List (List Int)) (out : List Int) (n : Int) : Bool := seqB b rows out && decide (0 ≤ n) && decide (n < powV b 16)
/-- The term n, -1 where it may not be asked for. -/
def termV (b : Int) (rows : List (List Int)) (out : List Int) (n : Int) : Int := if askB b rows out n = true then out.getD (afterS rows (digV n b)).toNat 0 else -1
theorem dig_ok {b : Int} {rows : List (List Int)} {out : List Int} (h : IsSeq b rows out) (n : Int) : (∀ d ∈ digV n b, 0 ≤ d ∧ d < b) ∧ areD b (digV n b) = true := by
  have hm : ∀ d ∈ digV n b, 0 ≤ d ∧ d < b := by
    intro d hd
    unfold digV at hd
    split at hd
    · have := digs_mem n.toNat b.toNat (by have := h.1; omega) d hd
      have := h.1
      omega
    · cases hd
  exact ⟨hm, areD_yes h.1 h.2.1 (digV_len n b) hm⟩
end Seqs
end Go.Proofs.Ythnmighlgifoeaa
