/- Contracts of ReverseDigits and PadDigits, of the program and of the model. No conditions beyond those that each states. -/
import Derived.Test.YtojmlhcgghaceaaDigits3
import Derived.Laws.CopyOwn
import Derived.Deep.RegionLaw
namespace Go.Proofs.Ytojmlhcgghaceaa
open Go.ChangeShapes Go.WideShapes Go.ChangeAt Go.RowKit
open Go.PlainAid Plain
set_option linter.unusedVariables false
namespace Digits
open Ints

theorem drop_rev (xs : List Int) (j : Nat) (h : j < xs.length) : (xs.drop j).reverse = (xs.drop (j + 1)).reverse ++ [xs[j]] := by
  rw [List.drop_eq_getElem_cons h, List.reverse_cons]
theorem padD_same {b : Int} {xs : List Int} (h : b ≤ xs.length ∨ 16 < b) : padD b xs = xs := if_pos h
theorem padD_more {n : Nat} {xs : List Int} (h0 : xs.length < n) (h : n ≤ 16) : padD n xs = List.replicate (n - xs.length) 0 ++ xs := by
  rw [padD, if_neg (by omega)]
  rfl
theorem rep_snoc (i : Nat) : List.replicate (i + 1) (0 : Int) = List.replicate i 0 ++ [0] := List.replicate_succ'
theorem zeros_copied (n : Nat) (xs : List Int) (h : xs.length ≤ n) : (List.replicate n (0 : Int)).take (n - xs.length) ++ (xs.take xs.length ++ (List.replicate n (0 : Int)).drop (n - xs.length + xs.length)) = List.replicate (n - xs.length) 0 ++ xs := by
  rw [List.take_replicate, List.take_length, List.drop_replicate, show min (n - xs.length) n = n - xs.length from by omega, show n - (n - xs.length + xs.length) = 0 from by omega]
  simp
theorem padD_len (b : Int) (xs : List Int) : (padD b xs).length ≤ 16 + xs.length := by
  unfold padD
  split
  · omega
  · rw [List.length_append, List.length_replicate]; omega
end Digits
end Go.Proofs.Ytojmlhcgghaceaa
