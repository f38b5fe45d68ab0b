/- Contracts of CombineValues and of the ways to combine two terms, of the model and of the program. No conditions beyond those that each states. -/
import Derived.Test.YthnmighlgifoeaaSeqIsI
import Derived.Test.YthnmighlgifoeaaDigits3
import Derived.Deep.DeepCutAuto
namespace Go.Proofs.Ythnmighlgifoeaa
open Go.ChangeShapes Go.WideShapes Go.ChangeAt Go.RowKit
open Go.PlainAid Plain
set_option linter.unusedVariables false
namespace Comb
open Seqs
theorem eq_no {a b : Int} (h : ¬ a = b) : (a == b) = false := by simpa using h
theorem eq_yes {a b : Int} (h : a = b) : (a == b) = true := by simpa using h
/-- What the ways say of two terms. -/
def combW (x y how : Int) : Int := if how = 1 then (x + y) % 4 else if how = 2 then (if x = y then 1 else 0) else if how = 3 then (if x < y then 1 else 0) else max x y
def combK (x y how : Int) : Bool := decide ((0 ≤ x ∧ x ≤ 3) ∧ (0 ≤ y ∧ y ≤ 3) ∧ 1 ≤ how ∧ how ≤ 4)
def combV (x y how : Int) : Int := if combK x y how = true then combW x y how else -1
theorem combW_bd {x y how : Int} (hx : 0 ≤ x ∧ x ≤ 3) (hy : 0 ≤ y ∧ y ≤ 3) : 0 ≤ combW x y how ∧ combW x y how ≤ 3 := by
  unfold combW
  split
  · omega
  · split
    · split <;> omega
    · split
      · split <;> omega
      · rw [Int.max_def]; split <;> omega
theorem spec_values (x y how : Int) (w : World) :
    Calls Try.prog 37 #[.int .i64 x, .int .i64 y, .int .i64 how] w fun e w' => e = .returned (.int .i64 (combV x y how)) ∧ w = w' := by
  by_cases hx : 0 ≤ x ∧ x ≤ 3
  case neg =>
    have hk : combV x y how = -1 := by rw [combV, combK, decide_eq_false (fun h => hx h.1)]; rfl
    have HK := Lib.hid hk
    have HX := Lib.hid (show x < 0 ∨ 3 < x by omega)
    clear hk hx
    go_enter Try.func37, Try.ntmps37
    go_wp2_with fail
    refine (l1In_no _ _ _ _ HX.out).mono ?_
    rintro e w' ⟨rfl, rfl⟩
    go_wp2
    go_ret
    exact ⟨ret_i HK.out.symm, rfl⟩
  case pos =>
    obtain ⟨hx0, hx3⟩ := hx
    by_cases hy : 0 ≤ y ∧ y ≤ 3
    case neg =>
      have hk : combV x y how = -1 := by rw [combV, combK, decide_eq_false (fun h => hy h.2.1)]; rfl
      have HK := Lib.hid hk
      have HX := Lib.hid (show y < 0 ∨ 3 < y by omega)
      clear hk hy
      go_enter Try.func37, Try.ntmps37
      go_wp2_with fail
      refine (l1In_yes _ _ _ _ hx0 hx3).mono ?_
      rintro e w' ⟨rfl, rfl⟩
      go_wp2_with fail
      refine (l1In_no _ _ _ _ HX.out).mono ?_
      rintro e w' ⟨rfl, rfl⟩
      go_wp2
      go_ret
      exact ⟨ret_i HK.out.symm, rfl⟩
    case pos =>
      obtain ⟨hy0, hy3⟩ := hy
      have hv : combV x y how = if 1 ≤ how ∧ how ≤ 4 then combW x y how else -1 := by
        unfold combV combK
        by_cases h : 1 ≤ how ∧ how ≤ 4
        · rw [decide_eq_true ⟨⟨hx0, hx3⟩, ⟨hy0, hy3⟩, h⟩, if_pos h]; rfl
        · rw [decide_eq_false (fun h' => h h'.2.2), if_neg h]; rfl
      have HV := Lib.hid hv
      clear hv
      by_cases h1 : how = 1
      · subst h1
        have HK := Lib.hid (show combV x y 1 = (x + y) % 4 from HV.out)
        clear HV
        go_enter Try.func37, Try.ntmps37
        go_wp2_with fail
        refine (l1In_yes _ _ _ _ hx0 hx3).mono ?_
        rintro e w' ⟨rfl, rfl⟩
        go_wp2_with fail
        refine (l1In_yes _ _ _ _ hy0 hy3).mono ?_
        rintro e w' ⟨rfl, rfl⟩
        go_wp2
        go_ret
        exact ⟨ret_i HK.out.symm, rfl⟩
      · by_cases h2 : how = 2
        · subst h2
          have HK := Lib.hid (show combV x y 2 = if x = y then 1 else 0 from HV.out)
          clear HV h1
          by_cases he : x = y
          · have hd := eq_yes he
            have HK1 := Lib.hid (show combV x y 2 = 1 by rw [HK.out, if_pos he])
            clear HK he
            go_enter Try.func37, Try.ntmps37
            go_wp2_with fail
            refine (l1In_yes _ _ _ _ hx0 hx3).mono ?_
            rintro e w' ⟨rfl, rfl⟩
            go_wp2_with fail
            refine (l1In_yes _ _ _ _ hy0 hy3).mono ?_
            rintro e w' ⟨rfl, rfl⟩
            go_wp2
            go_ret
            exact ⟨ret_i HK1.out.symm, rfl⟩
          · have hd := eq_no he
            have HK1 := Lib.hid (show combV x y 2 = 0 by rw [HK.out, if_neg he])
            clear HK he
            go_enter Try.func37, Try.ntmps37
            go_wp2_with fail
            refine (l1In_yes _ _ _ _ hx0 hx3).mono ?_
            rintro e w' ⟨rfl, rfl⟩
            go_wp2_with fail
            refine (l1In_yes _ _ _ _ hy0 hy3).mono ?_
            rintro e w' ⟨rfl, rfl⟩
            go_wp2
            go_ret
            exact ⟨ret_i HK1.out.symm, rfl⟩
        · by_cases h3 : how = 3
          · subst h3
            have HK := Lib.hid (show combV x y 3 = if x < y then 1 else 0 from HV.out)
            clear HV h1 h2
            by_cases he : x < y
            · have hd := decide_eq_true he
              have HK1 := Lib.hid (show combV x y 3 = 1 by rw [HK.out, if_pos he])
              clear HK he
              go_enter Try.func37, Try.ntmps37
              go_wp2_with fail
              refine (l1In_yes _ _ _ _ hx0 hx3).mono ?_
              rintro e w' ⟨rfl, rfl⟩
              go_wp2_with fail
              refine (l1In_yes _ _ _ _ hy0 hy3).mono ?_
              rintro e w' ⟨rfl, rfl⟩
              go_wp2
              go_ret
              exact ⟨ret_i HK1.out.symm, rfl⟩
            · have hd := decide_eq_false he
              have HK1 := Lib.hid (show combV x y 3 = 0 by rw [HK.out, if_neg he])
              clear HK he
              go_enter Try.func37, Try.ntmps37
              go_wp2_with fail
              refine (l1In_yes _ _ _ _ hx0 hx3).mono ?_
              rintro e w' ⟨rfl, rfl⟩
              go_wp2_with fail
              refine (l1In_yes _ _ _ _ hy0 hy3).mono ?_
              rintro e w' ⟨rfl, rfl⟩
              go_wp2
              go_ret
              exact ⟨ret_i HK1.out.symm, rfl⟩
          · by_cases h4 : how = 4
            · subst h4
              have HK := Lib.hid (show combV x y 4 = max x y from HV.out)
              clear HV h1 h2 h3
              go_enter Try.func37, Try.ntmps37
              go_wp2_with fail
              refine (l1In_yes _ _ _ _ hx0 hx3).mono ?_
              rintro e w' ⟨rfl, rfl⟩
              go_wp2_with fail
              refine (l1In_yes _ _ _ _ hy0 hy3).mono ?_
              rintro e w' ⟨rfl, rfl⟩
              go_wp2
              go_ret
              exact ⟨ret_i HK.out.symm, rfl⟩
            · have HK := Lib.hid (show combV x y how = -1 by rw [HV.out, if_neg (by omega)])
              have d1 := eq_no h1
              have d2 := eq_no h2
              have d3 := eq_no h3
              have d4 := eq_no h4
              clear HV h1 h2 h3 h4
              go_enter Try.func37, Try.ntmps37
              go_wp2_with fail
              refine (l1In_yes _ _ _ _ hx0 hx3).mono ?_
              rintro e w' ⟨rfl, rfl⟩
              go_wp2_with fail
              refine (l1In_yes _ _ _ _ hy0 hy3).mono ?_
              rintro e w' ⟨rfl, rfl⟩
              go_wp2
              go_ret
              exact ⟨ret_i HK.out.symm, rfl⟩
/-- The closure that looks for a way: it compares the way's number. -/
theorem way_pred (how k : Int) (fv : Value) (w : World) (B : Nat) (hB : B < w.heap.size) (hc : w.cell? ⟨B, 0, none⟩ = some (.int .i64 how)) :
    Calls Try.prog 74 #[.agg #[.int .i64 k, fv], .pointer (some ⟨B, 0, none⟩)] w fun e w' => e = .returned (.bool (k == how)) ∧ Below w.heap.size w w' := by
  have hne : B ≠ w.heap.size := by omega
  go_enter Try.func74, Try.ntmps74
  go_wp2
  all_goals (go_ret; exact ⟨rfl, (Below.refl _ _).alloc (Nat.le_refl _) _⟩)
def wayF (how : Int) : Nat := if how = 1 then 68 else if how = 2 then 69 else if how = 3 then 71 else 72
theorem way_enters (how : Int) : ∀ args w, (callFunc (wayF how) args).run Try.prog w = .ok (.enter (wayF how) args) w := by
  unfold wayF
  split
  · exact enters_of Try.func68 (by kernel_rfl) rfl
  · split
    · exact enters_of Try.func69 (by kernel_rfl) rfl
    · split
      · exact enters_of Try.func71 (by kernel_rfl) rfl
      · exact enters_of Try.func72 (by kernel_rfl) rfl
theorem one_if (c : Bool) (w : World) : Calls Try.prog 70 #[.bool c] w fun e w' => e = .returned (.int .i64 (if c = true then 1 else 0)) ∧ w = w' := by
  cases c with
  | true =>
    go_enter Try.func70, Try.ntmps70
    go_wp2
    go_ret
    exact ⟨rfl, rfl⟩
  | false =>
    go_enter Try.func70, Try.ntmps70
    go_wp2
    go_ret
    exact ⟨rfl, rfl⟩
/-- What each way's function answers. -/
theorem way_call (x y how : Int) (w : World) (hx : 0 ≤ x ∧ x ≤ 3) (hy : 0 ≤ y ∧ y ≤ 3) (h : 1 ≤ how ∧ how ≤ 4) :
    Calls Try.prog (wayF how) #[.int .i64 x, .int .i64 y] w fun e w' => e = .returned (.int .i64 (combW x y how)) ∧ w = w' := by
  obtain ⟨hx0, hx3⟩ := hx
  obtain ⟨hy0, hy3⟩ := hy
  have h4 : how = 1 ∨ how = 2 ∨ how = 3 ∨ how = 4 := by omega
  clear h
  rcases h4 with rfl | rfl | rfl | rfl
  · show Calls Try.prog 68 _ w fun e w' => e = .returned (.int .i64 ((x + y) % 4)) ∧ w = w'
    go_enter Try.func68, Try.ntmps68
    go_wp2
    go_ret
    exact ⟨rfl, rfl⟩
  · show Calls Try.prog 69 _ w fun e w' => e = .returned (.int .i64 (if x = y then 1 else 0)) ∧ w = w'
    by_cases he : x = y
    · have hd := eq_yes he
      rw [if_pos he]
      clear he
      go_enter Try.func69, Try.ntmps69
      go_wp2_with fail
      first | (rw [hd]; refine (one_if _ _).mono ?_) | refine (one_if _ _).mono ?_
      rintro e w' ⟨rfl, rfl⟩
      go_wp2
      go_ret
      exact ⟨rfl, rfl⟩
    · have hd := eq_no he
      rw [if_neg he]
      clear he
      go_enter Try.func69, Try.ntmps69
      go_wp2_with fail
      first | (rw [hd]; refine (one_if _ _).mono ?_) | refine (one_if _ _).mono ?_
      rintro e w' ⟨rfl, rfl⟩
      go_wp2
      go_ret
      exact ⟨rfl, rfl⟩
  · show Calls Try.prog 71 _ w fun e w' => e = .returned (.int .i64 (if x < y then 1 else 0)) ∧ w = w'
    by_cases he : x < y
    · have hd := decide_eq_true he
      rw [if_pos he]
      clear he
      go_enter Try.func71, Try.ntmps71
      go_wp2_with fail
      first | (rw [hd]; refine (one_if _ _).mono ?_) | refine (one_if _ _).mono ?_
      rintro e w' ⟨rfl, rfl⟩
      go_wp2
      go_ret
      exact ⟨rfl, rfl⟩
    · have hd := decide_eq_false he
      rw [if_neg he]
      clear he
      go_enter Try.func71, Try.ntmps71
      go_wp2_with fail
      first | (rw [hd]; refine (one_if _ _).mono ?_) | refine (one_if _ _).mono ?_
      rintro e w' ⟨rfl, rfl⟩
      go_wp2
      go_ret
      exact ⟨rfl, rfl⟩
  · show Calls Try.prog 72 _ w fun e w' => e = .returned (.int .i64 (max x y)) ∧ w = w'
    go_enter Try.func72, Try.ntmps72
    go_wp2
    go_ret
    exact ⟨rfl, rfl⟩
/-- Where the way lies among the four. -/
def wayAt (how : Int) : Int := if 1 ≤ how ∧ how ≤ 4 then how - 1 else -1
def wayV (k : Nat) : Value := .func (.func (wayF ((k : Int) + 1))) #[] #[]
theorem way_index (how : Int) (w : World) (z B : Nat) (hB : B < w.heap.size) (hz : z < w.heap.size) (hc : w.cell? ⟨B, 0, none⟩ = some (.int .i64 how))
    (hk : ∀ k : Nat, k < 4 → w.cell? ⟨z, k * 2, none⟩ = some (.int .i64 ((k : Int) + 1)) ∧ w.cell? ⟨z, k * 2 + 1, none⟩ = some (wayV k)) :
    Calls Try.prog 73 #[.slice (some ⟨z, 0, none⟩) 4 4, .func (.func 74) #[] #[.pointer (some ⟨B, 0, none⟩)]] w fun e w' => e = .returned (.int .i64 (wayAt how)) ∧ Below w.heap.size w w' := by
  have eg : ∀ args w, (callFunc 74 args).run Try.prog w = .ok (.enter 74 args) w := enters_of Try.func74 (by kernel_rfl) rfl
  have HKC := Lib.hid hk
  have HC := Lib.hid hc
  clear hk hc
  go_enter Try.func73, Try.ntmps73
  go_wp2
  go_loopw [8] (fun i' wr => ∃ i : Nat, i ≤ 4 ∧ i' = .int .i64 i ∧ Hid (∀ j : Nat, j < i → ¬ ((j : Int) + 1 = how)) ∧ Hid (Below w.heap.size w wr)) (fun i' _ => 4 - (intOf i').toNat)
  case atStart => exact ⟨0, by omega, rfl, fun j hj => by omega, Below.refl _ _⟩
  case round =>
    obtain ⟨i, hi, rfl, HI, HB⟩ := hrel
    by_cases hlt : i < 4
    · have hk0 := (HB.out.cell (p := ⟨z, i * 2, none⟩) hz).trans (HKC.out i hlt).1
      have hk1 := (HB.out.cell (p := ⟨z, i * 2 + 1, none⟩) hz).trans (HKC.out i hlt).2
      have HC1 := Lib.hid ((HB.out.cell (p := ⟨B, 0, none⟩) hB).trans HC.out)
      have HP := Lib.hid (way_pred how ((i : Int) + 1) (wayV i) wr B (Nat.lt_of_lt_of_le hB HB.out.size) HC1.out)
      obtain ⟨c, hc⟩ : ∃ c, c = ((i : Int) + 1 == how) := ⟨_, rfl⟩
      rw [← hc] at HP
      obtain ⟨u, hu⟩ : ∃ u, u = wayV i := ⟨_, rfl⟩
      rw [← hu] at hk1 HP
      obtain ⟨j, hj⟩ : ∃ j : Int, j = (i : Int) + 1 := ⟨_, rfl⟩
      rw [← hj] at hk0 HP
      have HCC := Lib.hid hc
      clear hc hu hj
      cases c with
      | true =>
        have HE : Hid (wayAt how = (i : Int)) := by
          have h := beq_iff_eq.1 HCC.out.symm
          show _ = _
          rw [wayAt, if_pos (by omega)]
          omega
        go_wp2_with (go_at_fn 74; refine HP.out.mono ?_; rintro e w' ⟨rfl, hb⟩)
        go_ret
        exact ⟨ret_i HE.out.symm, HB.out.trans (hb.mono HB.out.size)⟩
      | false =>
        have HN : Hid (∀ j : Nat, j < i + 1 → ¬ ((j : Int) + 1 = how)) := fun j hj => by
          by_cases e : j = i
          · subst e; exact beq_eq_false_iff_ne.1 HCC.out.symm
          · exact HI.out j (by omega)
        go_wp2_with (go_at_fn 74; refine HP.out.mono ?_; rintro e w' ⟨rfl, hb⟩; have HB2 := Lib.hid (HB.out.trans (hb.mono HB.out.size)))
        go_roundw
        case rel => exact ⟨i + 1, by omega, by go_num, HN, HB2⟩
        case measure => simp [intOf]; omega
    · have HE : Hid (wayAt how = -1) := by
        show _ = _
        rw [wayAt, if_neg]
        intro h
        have h0 := HI.out (how - 1).toNat (by omega)
        omega
      go_wp2
      go_ret
      exact ⟨ret_i HE.out.symm, HB.out⟩
end Comb
end Go.Proofs.Ythnmighlgifoeaa
