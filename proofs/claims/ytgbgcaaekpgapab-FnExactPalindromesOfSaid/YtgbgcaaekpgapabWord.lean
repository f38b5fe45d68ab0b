/- Contracts of IsWord, of the model and of the program, and of the library's search with the program's two tests. No conditions beyond those that each states. -/
import Derived.Test.YtgbgcaaekpgapabWordVal
import Derived.Test.YtgbgcaaekpgapabCommon
import Derived.Test.YtgbgcaaekpgapabSeqSz
import Derived.Outline
import Derived.OneCell
import Derived.Shelf.Abstract
namespace Go.Proofs.Ytgbgcaaekpgapab
open Go.ChangeShapes Go.WideShapes Go.ChangeAt Go.RowKit
open Go.PlainAid Plain
set_option linter.unusedVariables false
namespace Mor
open Seqs
theorem spec_word (v : Value) (xs : List Int) (n : Int) (w : World) (h : Lies (Value.int .i64) w v xs) :
    Calls Try.prog 32 #[v, .int .i64 n] w fun e w' => e = .returned (.bool (wordB xs n)) ∧ w = w' := by
  obtain ⟨hl, a, ca, rfl, _, hc⟩ := h
  have HC := Lib.hid hc
  clear hc
  go_enter Try.func32, Try.ntmps32
  go_wp2
  go_loop [5] (fun i' => ∃ i : Nat, i ≤ xs.length ∧ i' = .int .i64 i ∧ Hid (∀ (j : Nat) (x : Int), j < i → xs[j]? = some x → 0 ≤ x ∧ x < n)) (fun i' => xs.length - (intOf i').toNat)
  case atStart => exact ⟨0, Nat.zero_le _, rfl, fun j x h => by omega⟩
  case round =>
    obtain ⟨i, hi, rfl, HI⟩ := hrel
    by_cases hlt : i < xs.length
    · obtain ⟨x, hx⟩ : ∃ x, xs[i]? = some x := ⟨_, List.getElem?_eq_getElem hlt⟩
      obtain ⟨q, r, rfl, hc2⟩ := HC.out i _ hx
      have HX := Lib.hid hx
      clear hx
      by_cases hx0 : x < 0
      · have hd := decide_eq_true hx0
        have HE := Lib.hid (not_word_at (n := n) HX.out (.inl hx0))
        go_wp2
        go_ret
        exact ⟨ret_b HE.out.symm, rfl⟩
      · have hd := decide_eq_false hx0
        by_cases hx1 : n ≤ x
        · have hd1 := decide_eq_true hx1
          have HE := Lib.hid (not_word_at (n := n) HX.out (.inr hx1))
          go_wp2
          go_ret
          exact ⟨ret_b HE.out.symm, rfl⟩
        · have hd1 := decide_eq_false hx1
          have HN : Hid (∀ (j : Nat) (x : Int), j < i + 1 → xs[j]? = some x → 0 ≤ x ∧ x < n) := fun j y hj hy => by
            by_cases e : j = i
            · subst e
              obtain rfl := Option.some.inj (HX.out.symm.trans hy)
              omega
            · exact HI.out j y (by omega) hy
          go_wp2
          go_round
          case rel => exact ⟨i + 1, by omega, by go_num, HN⟩
          case measure => simp [intOf]; omega
    · have HA : Hid (∀ x ∈ xs, 0 ≤ x ∧ x < n) := all_at fun j x hx => HI.out j x (by have := (List.getElem?_eq_some_iff.1 hx).1; omega) hx
      clear HI HC
      by_cases hn : 1 ≤ n ∧ n ≤ 16
      · obtain ⟨hn1, hn2⟩ := hn
        by_cases hlen : xs.length ≤ 400
        · have HE := Lib.hid (wordB_yes ⟨hn1, hn2, hlen, HA.out⟩)
          have hd := decide_eq_true (show (xs.length : Int) ≤ 400 by omega)
          go_wp2_with fail
          refine (l1In_yes _ _ _ _ hn1 hn2).mono ?_
          rintro e w' ⟨rfl, rfl⟩
          go_wp2
          go_ret
          exact ⟨ret_b HE.out.symm, rfl⟩
        · have HE := Lib.hid (wordB_no (xs := xs) (n := n) fun h => hlen h.2.2.1)
          have hd := decide_eq_false (show ¬ (xs.length : Int) ≤ 400 by omega)
          go_wp2_with fail
          refine (l1In_yes _ _ _ _ hn1 hn2).mono ?_
          rintro e w' ⟨rfl, rfl⟩
          go_wp2
          go_ret
          exact ⟨ret_b HE.out.symm, rfl⟩
      · have HE := Lib.hid (wordB_no (xs := xs) (n := n) fun h => hn ⟨h.1, h.2.1⟩)
        have HNO : Hid (n < 1 ∨ 16 < n) := by show _ ∨ _; omega
        clear hn
        go_wp2_with fail
        refine (l1In_no _ _ _ _ HNO.out).mono ?_
        rintro e w' ⟨rfl, rfl⟩
        go_wp2
        go_ret
        exact ⟨ret_b HE.out.symm, rfl⟩
/-- Where a test holds first, -1 where it never does. -/
def firstAt (p : Int → Bool) (xs : List Int) : Int := if xs.any p = true then (xs.findIdx p : Int) else -1
theorem first_yes {p : Int → Bool} {xs : List Int} {i : Nat} {x : Int} (hx : xs[i]? = some x) (h : p x = true) (hb : ∀ (j : Nat) (y : Int), j < i → xs[j]? = some y → p y = false) : firstAt p xs = (i : Int) := by
  obtain ⟨hi, hxi⟩ := List.getElem?_eq_some_iff.1 hx
  have : xs.any p = true := List.any_eq_true.2 ⟨x, List.mem_of_getElem? hx, h⟩
  rw [firstAt, if_pos this, (List.findIdx_eq hi).2 ⟨by rw [hxi]; exact h, fun j hj => by rw [hb j _ hj (List.getElem?_eq_getElem (by omega))]⟩]
theorem first_no {p : Int → Bool} {xs : List Int} (h : ∀ (j : Nat) (y : Int), xs[j]? = some y → p y = false) : firstAt p xs = -1 := by
  have : ¬ xs.any p = true := fun ha => by
    obtain ⟨x, hx, hp⟩ := List.any_eq_true.1 ha
    obtain ⟨j, hj⟩ := List.getElem?_of_mem hx
    rw [h j x hj] at hp; cases hp
  rw [firstAt, if_neg this]
theorem first_ge (p : Int → Bool) (xs : List Int) : decide (0 ≤ firstAt p xs) = xs.any p := by
  unfold firstAt
  split
  · rename_i h; rw [h]; simp
  · rename_i h; rw [Bool.eq_false_iff.2 h]; decide
theorem index_word (v : Value) (xs : List Int) (cap : Array Value) (p : Int → Bool) (w : World) (h : Lies (Value.int .i64) w v xs)
    (hp : Hid (∀ x ∈ xs, Calls Try.prog 47 (#[.int .i64 x] ++ cap) w fun e w' => e = .returned (.bool (p x)) ∧ w = w')) :
    Calls Try.prog 52 #[v, .func (.func 47) #[] cap] w fun e w' => e = .returned (.int .i64 (firstAt p xs)) ∧ w = w' := by
  have eg : ∀ args w, (callFunc 47 args).run Try.prog w = .ok (.enter 47 args) w := enters_of Try.func47 (by kernel_rfl) rfl
  obtain ⟨hl, a, ca, rfl, _, hc⟩ := h
  have HC := Lib.hid hc
  clear hc
  go_enter Try.func52, Try.ntmps52
  go_wp2
  go_loop [8] (fun i' => ∃ i : Nat, i ≤ xs.length ∧ i' = .int .i64 i ∧ Hid (∀ (j : Nat) (y : Int), j < i → xs[j]? = some y → p y = false)) (fun i' => xs.length - (intOf i').toNat)
  case atStart => exact ⟨0, Nat.zero_le _, rfl, fun j x h => by omega⟩
  case round =>
    obtain ⟨i, hi, rfl, HI⟩ := hrel
    by_cases hlt : i < xs.length
    · obtain ⟨x, hx⟩ : ∃ x, xs[i]? = some x := ⟨_, List.getElem?_eq_getElem hlt⟩
      obtain ⟨q, r, rfl, hc2⟩ := HC.out i _ hx
      have HX := Lib.hid hx
      have HP := Lib.hid (hp.out x (List.mem_of_getElem? hx))
      clear hx
      obtain ⟨c, hcc⟩ : ∃ c, c = p x := ⟨_, rfl⟩
      rw [← hcc] at HP
      have HCC := Lib.hid hcc
      clear hcc
      cases c with
      | true =>
        have HE := Lib.hid (first_yes HX.out HCC.out.symm HI.out)
        go_wp2_with (go_at_fn 47; refine HP.out.mono ?_; rintro e w' ⟨rfl, rfl⟩)
        go_ret
        exact ⟨ret_i HE.out.symm, rfl⟩
      | false =>
        have HN : Hid (∀ (j : Nat) (y : Int), j < i + 1 → xs[j]? = some y → p y = false) := fun j y hj hy => by
          by_cases e : j = i
          · subst e
            obtain rfl := Option.some.inj (HX.out.symm.trans hy)
            exact HCC.out.symm
          · exact HI.out j y (by omega) hy
        go_wp2_with (go_at_fn 47; refine HP.out.mono ?_; rintro e w' ⟨rfl, rfl⟩)
        go_round
        case rel => exact ⟨i + 1, by omega, by go_num, HN⟩
        case measure => simp [intOf]; omega
    · have HE := Lib.hid (first_no (p := p) (xs := xs) fun j x hx => HI.out j x (by have := (List.getElem?_eq_some_iff.1 hx).1; omega) hx)
      go_wp2
      go_ret
      exact ⟨ret_i HE.out.symm, rfl⟩
theorem any_word (v : Value) (xs : List Int) (cap : Array Value) (p : Int → Bool) (w : World) (h : Lies (Value.int .i64) w v xs)
    (hp : Hid (∀ x ∈ xs, Calls Try.prog 47 (#[.int .i64 x] ++ cap) w fun e w' => e = .returned (.bool (p x)) ∧ w = w')) :
    Calls Try.prog 46 #[v, .func (.func 47) #[] cap] w fun e w' => e = .returned (.bool (xs.any p)) ∧ w = w' := by
  have HL := Lib.hid h
  have HG := Lib.hid (first_ge p xs)
  clear h
  go_enter Try.func46, Try.ntmps46
  go_wp2_with fail
  refine (index_word v xs cap p w HL.out hp).mono ?_
  rintro e w' ⟨rfl, rfl⟩
  go_wp2
  go_ret
  exact ⟨ret_b HG.out, rfl⟩
theorem word_test (x n : Int) (B : Nat) (w : World) (hB : w.cell? ⟨B, 0, none⟩ = some (.int .i64 n)) :
    Calls Try.prog 47 #[.int .i64 x, .pointer (some ⟨B, 0, none⟩)] w fun e w' => e = .returned (.bool ((decide (x < 0) || decide (n ≤ x)))) ∧ w = w' := by
  by_cases hx0 : x < 0
  · have hd := decide_eq_true hx0
    have HE : Hid ((decide (x < 0) || decide (n ≤ x)) = true) := by show _ = _; rw [hd]; rfl
    go_enter Try.func47, Try.ntmps47
    go_wp2
    go_ret
    exact ⟨ret_b HE.out.symm, rfl⟩
  · have hd := decide_eq_false hx0
    have HE : Hid ((decide (x < 0) || decide (n ≤ x)) = decide (n ≤ x)) := by show _ = _; rw [hd]; rfl
    go_enter Try.func47, Try.ntmps47
    go_wp2
    go_ret
    exact ⟨by first | rfl | exact ret_b HE.out.symm, rfl⟩
theorem word_any {xs : List Int} {n : Int} (h1 : 1 ≤ n) (h2 : n ≤ 16) (h3 : xs.length ≤ 400) : (!xs.any fun x => (decide (x < 0) || decide (n ≤ x))) = wordB xs n := by
  unfold wordB
  rw [Bool.eq_iff_iff, Bool.not_eq_true', decide_eq_true_iff, Bool.eq_false_iff, ne_eq, List.any_eq_true]
  constructor
  · intro h
    refine ⟨h1, h2, h3, fun x hx => Classical.byContradiction fun hn => h ⟨x, hx, by simp; omega⟩⟩
  · rintro h ⟨x, hx, hd⟩
    have := h.2.2.2 x hx
    simp at hd
    omega
theorem impl_word (v : Value) (xs : List Int) (n : Int) (w : World) (h : Lies (Value.int .i64) w v xs) :
    Calls Try.prog 34 #[v, .int .i64 n] w fun e w' => e = .returned (.bool (wordB xs n)) ∧ Below w.heap.size w w' := by
  have HL := Lib.hid h
  obtain ⟨hl, a, ca, rfl, _, _⟩ := h
  by_cases hn1 : n < 1
  · have hd := decide_eq_true hn1
    have HE := Lib.hid (wordB_no (xs := xs) (n := n) fun h => by have := h.1; omega)
    go_enter Try.func34, Try.ntmps34
    go_wp2
    go_ret
    exact ⟨ret_b HE.out.symm, (Below.refl _ _).alloc (Nat.le_refl _) _⟩
  · have hd := decide_eq_false hn1
    by_cases hn2 : n > 16
    · have hd1 := decide_eq_true hn2
      have HE := Lib.hid (wordB_no (xs := xs) (n := n) fun h => by have := h.2.1; omega)
      go_enter Try.func34, Try.ntmps34
      go_wp2
      go_ret
      exact ⟨ret_b HE.out.symm, (Below.refl _ _).alloc (Nat.le_refl _) _⟩
    · have hd1 := decide_eq_false hn2
      by_cases hlen : xs.length ≤ 400
      · have hd2 := decide_eq_false (show ¬ (xs.length : Int) > 400 by omega)
        have HE := Lib.hid (word_any (xs := xs) (n := n) (by omega) (by omega) hlen)
        have hB : Below w.heap.size w (w.alloc (Obj.cells #[Value.int .i64 n] 3)) := (Below.refl _ _).alloc (Nat.le_refl _) _
        have hc : (w.alloc (Obj.cells #[Value.int .i64 n] 3)).cell? ⟨w.heap.size, 0, none⟩ = some (.int .i64 n) := one_cell w 3 (.int .i64 n) 0 _ rfl
        have HP : Hid (∀ x ∈ xs, Calls Try.prog 47 (#[.int .i64 x] ++ #[.pointer (some ⟨w.heap.size, 0, none⟩)]) (w.alloc (Obj.cells #[Value.int .i64 n] 3)) fun e w' => e = .returned (.bool ((decide (x < 0) || decide (n ≤ x)))) ∧ (w.alloc (Obj.cells #[Value.int .i64 n] 3)) = w') := fun x _ => word_test x n w.heap.size _ hc
        have HB := Lib.hid hB
        clear hB hc
        go_enter Try.func34, Try.ntmps34
        go_wp2_with fail
        refine (any_word _ xs _ (fun x => (decide (x < 0) || decide (n ≤ x))) _ (HL.out.below HB.out) HP).mono ?_
        rintro e w' ⟨rfl, rfl⟩
        go_wp2
        go_ret
        exact ⟨ret_b HE.out, HB.out⟩
      · have hd2 := decide_eq_true (show (xs.length : Int) > 400 by omega)
        have HE := Lib.hid (wordB_no (xs := xs) (n := n) fun h => by have := h.2.2.1; omega)
        go_enter Try.func34, Try.ntmps34
        go_wp2
        go_ret
        exact ⟨ret_b HE.out.symm, (Below.refl _ _).alloc (Nat.le_refl _) _⟩
end Mor
end Go.Proofs.Ytgbgcaaekpgapab
