/- Contracts of PrefixOf, of the program and of the model. No conditions beyond those that each states. -/
import Derived.Test.YtdnfgbdfnndlnaaSeqTerm
import Derived.Test.YtdnfgbdfnndlnaaSeqEq
import Derived.Test.YtdnfgbdfnndlnaaDigits3
import Derived.Deep.RegionHeld3
namespace Go.Proofs.Ytdnfgbdfnndlnaa
open Go.ChangeShapes Go.WideShapes Go.ChangeAt Go.RowKit
open Go.PlainAid Plain
set_option linter.unusedVariables false
namespace Seqs
open Digits
/-- The term n, told without a look whether it may be asked for. -/
def termG (b : Int) (rows : List (List Int)) (out : List Int) (i : Nat) : Int := out.getD (afterS rows (digV (i : Int) b)).toNat 0
def termsG (b : Int) (rows : List (List Int)) (out : List Int) (i : Nat) : List Int := (List.range i).map (termG b rows out)
theorem termsG_len (b : Int) (rows : List (List Int)) (out : List Int) (i : Nat) : (termsG b rows out i).length = i := by simp [termsG]
theorem termsG_succ (b : Int) (rows : List (List Int)) (out : List Int) (i : Nat) : termsG b rows out (i + 1) = termsG b rows out i ++ [termG b rows out i] := by simp [termsG, List.range_succ]
theorem termsG_set (b : Int) (rows : List (List Int)) (out : List Int) (i m : Nat) (h : i < m) : ((termsG b rows out i ++ List.replicate (m - i) 0).map (Value.int .i64)).set i (.int .i64 (termG b rows out i)) = (termsG b rows out (i + 1) ++ List.replicate (m - (i + 1)) 0).map (Value.int .i64) := by
  rw [show m - i = (m - (i + 1)) + 1 from by omega, List.replicate_succ, List.map_append, List.map_cons, set_mid _ _ _ _ i (by rw [List.length_map, termsG_len]), termsG_succ, List.append_assoc, List.map_append]
  rfl
/-- May the terms be asked for? -/
def prefB (b : Int) (rows : List (List Int)) (out : List Int) (n : Int) : Bool := seqB b rows out && decide (1 ≤ n) && decide (n ≤ 256)
/-- The terms before n, none where they may not be asked for. -/
def prefV (b : Int) (rows : List (List Int)) (out : List Int) (n : Int) : List Int := if prefB b rows out n = true then termsG b rows out n.toNat else []
theorem prefV_len (b : Int) (rows : List (List Int)) (out : List Int) (n : Int) : (prefV b rows out n).length ≤ 256 := by
  unfold prefV
  split
  · rename_i h
    simp only [prefB, Bool.and_eq_true, decide_eq_true_eq] at h
    rw [termsG_len]
    omega
  · simp
theorem ask_small {b : Int} {rows : List (List Int)} {out : List Int} (h : seqB b rows out = true) (i : Nat) (hi : i ≤ 256) : termV b rows out (i : Int) = termG b rows out i := by
  have hb := seqB_out h
  have h2 : (i : Int) < powV b 16 := by
    obtain ⟨n, rfl⟩ := Int.eq_ofNat_of_zero_le (show 0 ≤ b by have := hb.1; omega)
    have hn := hb.1
    rw [powV_in n (by omega) (by have := hb.2.1; omega)]
    have h3 : 2 ^ 16 ≤ n ^ 16 := Nat.pow_le_pow_left (by omega) 16
    have h4 : (2 : Nat) ^ 16 = 65536 := by decide
    omega
  rw [termV, if_pos (by simp [askB, h, h2])]
  rfl
end Seqs
end Go.Proofs.Ytdnfgbdfnndlnaa
