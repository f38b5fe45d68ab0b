/- Contracts of ReverseDigits and PadDigits, of the program and of the model. No conditions beyond those that each states. -/
import Derived.Test.YtgbgcaaekpgapabDigits3
import Derived.Laws.CopyOwn
import Derived.Deep.RegionLaw
namespace Go.Proofs.Ytgbgcaaekpgapab
open Go.ChangeShapes Go.WideShapes Go.ChangeAt Go.RowKit
open Go.PlainAid Plain
set_option linter.unusedVariables false
namespace Digits
open Ints

theorem drop_rev (xs : List Int) (j : Nat) (h : j < xs.length) : (xs.drop j).reverse = (xs.drop (j + 1)).reverse ++ [xs[j]] := by
  rw [List.drop_eq_getElem_cons h, List.reverse_cons]
theorem spec_rev (v : Value) (xs : List Int) (w : World) (h : Lies (Value.int .i64) w v xs) (hs : xs.length ≤ 1048576) :
    Calls Try.prog 29 #[v] w (Gives (Value.int .i64) 3 xs.reverse w) := by
  obtain ⟨i0, hi, hz0, hz1, hz2⟩ := info_parts infoI
  have HL := Lib.hid h
  obtain ⟨hl, a, ca, rfl, -, -⟩ := h
  go_enter Try.func29, Try.ntmps29
  go_wp2
  go_loopw [3, 4] (fun o' i' wr => ∃ k : Nat, k ≤ xs.length ∧ i' = .int .i64 ((k : Int) - 1) ∧ Hid (Has (Value.int .i64) 3 wr w.heap.size o' (xs.drop k).reverse) ∧ Hid (Below w.heap.size w wr)) (fun _ i' _ => (intOf i' + 1).toNat)
  case atStart => exact ⟨xs.length, by omega, by go_num, by rw [List.drop_length]; exact has_empty w, (Below.refl _ _).alloc (Nat.le_refl _) _⟩
  case round =>
    obtain ⟨k, hk, rfl, hown, hbel⟩ := hrel
    by_cases h0 : 0 < k
    · obtain ⟨j, rfl⟩ : ∃ j, k = j + 1 := ⟨k - 1, by omega⟩
      have hj : j < xs.length := by omega
      obtain ⟨_, _, _, he, _, hc⟩ := HL.out.below hbel.out
      injection he with e1 e2 e3
      obtain ⟨b, off, hA, hcell⟩ := hc j _ (List.getElem?_eq_getElem hj)
      rw [← e1] at hA
      subst hA
      have HD := Lib.hid (drop_rev xs j hj)
      have hlen : (xs.drop (j + 1)).reverse.length + 1 ≤ 1048577 := by rw [List.length_reverse, List.length_drop]; omega
      have hb2 := hbel.out.size
      obtain ⟨x, hx⟩ : ∃ x, x = xs[j] := ⟨_, rfl⟩
      rw [← hx] at hcell HD
      clear hx hc e1 e2 e3
      go_wp2_with (at_builtin; refine append_one (enc := Value.int .i64) (e := 3) wr rfl _ _ 22 rfl w.heap.size i0 (.int .i64 0) 8 Try.underlying22 hi hz0 hz1 hz2 rfl u3 _ rfl hown.out x rfl (fun _ => rfl) (by omega) (by omega) hb2 ?_; intro v' w' hown' hgrow')
      have hbel' : Hid (Below w.heap.size w w') := hown.out.frame hbel.out (Nat.le_refl _) hgrow'
      have HO := Lib.hid hown'
      clear hown' hgrow'
      go_wp2
      go_roundw
      case rel => exact ⟨j, by omega, by go_num, by rw [HD.out]; exact HO.out, hbel'⟩
      case measure => simp [intOf]
    · obtain rfl : k = 0 := by omega
      have H2 : Hid (Has (Value.int .i64) 3 wr w.heap.size u3 xs.reverse) := hown.out
      clear hown
      go_wp2
      go_ret
      exact ⟨u3, rfl, H2.out, hbel.out⟩
theorem impl_rev (v : Value) (xs : List Int) (w : World) (h : Lies (Value.int .i64) w v xs) (hs : xs.length ≤ 1048576) :
    Calls Try.prog 31 #[v] w (Gives (Value.int .i64) 3 xs.reverse w) := by
  have HC := Lib.hid (clone_lies v xs w h hs)
  clear h
  go_enter Try.func31, Try.ntmps31
  go_wp2_with fail
  refine HC.out.mono ?_
  rintro e w1 ⟨u, rfl, ho, hb⟩
  go_wp2_with fail
  refine (reverse_has u _ w1 _ ho).mono ?_
  rintro e w2 ⟨rfl, ho2, hg⟩
  have HG : Hid (Gives (Value.int .i64) 3 xs.reverse w (.returned u) w2) := ⟨u, rfl, ho2, ho.frame hb (Nat.le_refl _) hg⟩
  clear ho ho2 hg
  go_wp2
  go_ret
  exact HG.out
theorem padD_same {b : Int} {xs : List Int} (h : b ≤ xs.length ∨ 16 < b) : padD b xs = xs := if_pos h
theorem padD_more {n : Nat} {xs : List Int} (h0 : xs.length < n) (h : n ≤ 16) : padD n xs = List.replicate (n - xs.length) 0 ++ xs := by
  rw [padD, if_neg (by omega)]
  rfl
theorem rep_snoc (i : Nat) : List.replicate (i + 1) (0 : Int) = List.replicate i 0 ++ [0] := List.replicate_succ'
theorem zeros_copied (n : Nat) (xs : List Int) (h : xs.length ≤ n) : (List.replicate n (0 : Int)).take (n - xs.length) ++ (xs.take xs.length ++ (List.replicate n (0 : Int)).drop (n - xs.length + xs.length)) = List.replicate (n - xs.length) 0 ++ xs := by
  rw [List.take_replicate, List.take_length, List.drop_replicate, show min (n - xs.length) n = n - xs.length from by omega, show n - (n - xs.length + xs.length) = 0 from by omega]
  simp
theorem padD_len (b : Int) (xs : List Int) : (padD b xs).length ≤ 16 + xs.length := by
  unfold padD
  split
  · omega
  · rw [List.length_append, List.length_replicate]; omega
end Digits
end Go.Proofs.Ytgbgcaaekpgapab
