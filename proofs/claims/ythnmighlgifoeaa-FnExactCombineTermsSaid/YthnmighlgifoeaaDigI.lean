/- Contract of DigitSequence of the program. No conditions beyond those that it states. -/
import Derived.Test.YthnmighlgifoeaaConst
import Derived.Test.YthnmighlgifoeaaSeqs3
import Derived.Test.YthnmighlgifoeaaSeqForms
import Derived.Test.YthnmighlgifoeaaSeqTo
namespace Go.Proofs.Ythnmighlgifoeaa
open Go.ChangeShapes Go.WideShapes Go.ChangeAt Go.RowKit
open Go.PlainAid Plain
set_option linter.unusedVariables false
namespace Comb
open Seqs
def dgK (b m : Int) : Bool := decide ((2 ≤ b ∧ b ≤ 4) ∧ 1 ≤ m ∧ m ≤ 4)
def dgPart (m i k : Nat) : List Int := (List.range k).map fun k : Nat => (((i + k) % m : Nat) : Int)
def dgRow (b m i : Nat) : List Int := dgPart m i b
def dgRows (b m i : Nat) : List (List Int) := (List.range i).map (dgRow b m)
def dgOut (i : Nat) : List Int := (List.range i).map fun k : Nat => (k : Int)
def dgB (b m : Int) : Int := if dgK b m = true then b else 0
def dgR (b m : Int) : List (List Int) := if dgK b m = true then dgRows b.toNat m.toNat m.toNat else []
def dgO (b m : Int) : List Int := if dgK b m = true then dgOut m.toNat else []
theorem dg_no {b m : Int} (h : dgK b m = false) : dgB b m = 0 ∧ dgR b m = [] ∧ dgO b m = [] := by
  unfold dgB dgR dgO
  rw [h]
  simp
theorem dgPart_len (m i k : Nat) : (dgPart m i k).length = k := by simp [dgPart]
theorem dgPart_succ (m i k : Nat) : dgPart m i (k + 1) = dgPart m i k ++ [(((i + k) % m : Nat) : Int)] := by simp [dgPart, List.range_succ]
theorem dgRows_succ (b m i : Nat) : dgRows b m (i + 1) = dgRows b m i ++ [dgRow b m i] := by simp [dgRows, List.range_succ]
theorem dgOut_succ (i : Nat) : dgOut (i + 1) = dgOut i ++ [(i : Int)] := by simp [dgOut, List.range_succ]
theorem dgRows_len (b m i : Nat) : (dgRows b m i).length = i := by simp [dgRows]
theorem dgOut_len (i : Nat) : (dgOut i).length = i := by simp [dgOut]
theorem dg_valid {b m : Int} (h : dgK b m = true) : IsSeq b (dgR b m) (dgO b m) := by
  have h1 := of_decide_eq_true h
  unfold dgR dgO
  rw [if_pos h, if_pos h]
  refine ⟨h1.1.1, h1.1.2, by rw [dgRows_len]; omega, by rw [dgRows_len]; omega, by rw [dgRows_len, dgOut_len], fun r hr => ?_, fun x hx => ?_⟩
  · obtain ⟨i, hi, rfl⟩ := List.mem_map.1 hr
    refine ⟨by rw [dgRow, dgPart_len]; omega, fun x hx => ?_⟩
    obtain ⟨k, hk, rfl⟩ := List.mem_map.1 hx
    rw [dgRows_len]
    have := Nat.mod_lt (i + k) (show m.toNat > 0 by omega)
    omega
  · obtain ⟨k, hk, rfl⟩ := List.mem_map.1 hx
    have := List.mem_range.1 hk
    omega
theorem dg_size (b m : Int) : tot (dgR b m) + (dgO b m).length ≤ 1000 := by
  cases h : dgK b m with
  | false => rw [(dg_no h).2.1, (dg_no h).2.2]; simp [tot]
  | true =>
    have hv := seq_rows4 (seqB_yes (dg_valid h))
    have := tot_le4 _ hv.1
    omega
theorem mod_val (i k m : Nat) : ((i : Int) + (k : Int)).tmod (m : Int) = (((i + k) % m : Nat) : Int) := by
  rw [← Int.natCast_add, Int.tmod_eq_emod_of_nonneg (Int.natCast_nonneg _), Int.natCast_emod]
theorem fill_dg {l : List Int} {n i : Nat} (c : Int) (hl : l.length = i) (h : i < n) : ((l ++ List.replicate (n - i) 0).map (Value.int .i64)).set i (.int .i64 c) = ((l ++ [c]) ++ List.replicate (n - (i + 1)) 0).map (Value.int .i64) := by
  rw [show n - i = (n - (i + 1)) + 1 from by omega, List.replicate_succ, List.map_append, List.map_cons, set_mid _ _ _ _ i (by rw [List.length_map]; exact hl), List.append_assoc, List.map_append]
  rfl
end Comb
end Go.Proofs.Ythnmighlgifoeaa
