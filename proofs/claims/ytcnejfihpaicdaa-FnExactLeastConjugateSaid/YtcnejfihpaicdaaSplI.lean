/- Contract of the program's StandardSplit. No conditions beyond those that it states. -/
import Derived.Test.YtcnejfihpaicdaaLynI2
namespace Go.Proofs.Ytcnejfihpaicdaa
open Go.ChangeShapes Go.WideShapes Go.ChangeAt Go.RowKit
open Go.PlainAid Plain
set_option linter.unusedVariables false
namespace Lynd
open Fac Seqs
/-- Two new slices of ints, in intervals of their own, and a bool. -/
def GivesII (xs ys : List Int) (k : Bool) (w : World) (e : Ending) (w' : World) : Prop := ∃ v1 v2 m, e = .returned (.tuple #[v1, v2, .bool k]) ∧ OwnI w' m w'.heap.size v1 xs ∧ OwnI w' w.heap.size m v2 ys ∧ (w.heap.size ≤ m ∧ m ≤ w'.heap.size) ∧ Below w.heap.size w w'
/-- Two new slices of ints and a bool. -/
def GivesIS (xs ys : List Int) (k : Bool) (w : World) (e : Ending) (w' : World) : Prop := ∃ v1 v2, e = .returned (.tuple #[v1, v2, .bool k]) ∧ OwnI w' w.heap.size w'.heap.size v1 xs ∧ OwnI w' w.heap.size w'.heap.size v2 ys ∧ Below w.heap.size w w'
theorem ownI_nil (w : World) (lo : Nat) {hi : Nat} (h : hi ≤ w.heap.size) : OwnI w lo hi (.slice none 0 0) [] := ⟨World.ownsRow_nil _ _ _ _, (fun k hk => by cases hk), h⟩
theorem spK_no {u : List Int} (h : spK u = false) : spA u = [] ∧ spB u = [] := by unfold spA spB; simp [h]
theorem spK_yes {u : List Int} (h : spK u = true) : spA u = u.take (spN u) ∧ spB u = u.drop (spN u) := by unfold spA spB; simp [h]
theorem ii_no {u : List Int} {w w' : World} (h : spK u = false) (hb : Below w.heap.size w w') : GivesII (spA u) (spB u) (spK u) w (.returned (.tuple #[.slice none 0 0, .slice none 0 0, .bool false])) w' := by
  rw [h, (spK_no h).1, (spK_no h).2]
  exact ⟨_, _, w.heap.size, rfl, ownI_nil _ _ (Nat.le_refl _), ownI_nil _ _ hb.size, ⟨Nat.le_refl _, hb.size⟩, hb⟩
set_option maxRecDepth 100000 in
set_option maxHeartbeats 2000000 in
theorem impl_sp (v : Value) (u : List Int) (w : World) (h : LiesC w v u) (hs : u.length ≤ 1048576) :
    Calls Try.prog 33 #[v] w (GivesII (spA u) (spB u) (spK u) w) := by
  have HL := Lib.hid (impl_lyn v u w h.lies (by omega))
  obtain ⟨a, ca, rfl, hcap⟩ := h.form
  have HX := Lib.hid h
  clear h
  by_cases h2 : 2 ≤ u.length
  · have hd2 := decide_eq_false (show ¬ (u.length : Int) < 2 by omega)
    obtain ⟨c, hc⟩ : ∃ c, c = lyB u := ⟨_, rfl⟩
    rw [← hc] at HL
    cases c with
    | false =>
      have HK : Hid (spK u = false) := by show _ = _; unfold spK; rw [← hc, Bool.and_false]
      clear hc
      go_enter Try.func33, Try.ntmps33
      go_wp2_with (go_at_call 13; refine HL.out.mono ?_; rintro e W1 ⟨rfl, b1⟩)
      go_ret3
      exact ii_no HK.out b1
    | true =>
      have HK : Hid (spK u = true) := by show _ = _; unfold spK; rw [← hc, decide_eq_true h2, Bool.and_true]
      obtain ⟨hq0, hql, hlast, _, _⟩ := sp_spec h2
      obtain ⟨q, hq⟩ : ∃ q, q = spN u := ⟨_, rfl⟩
      rw [← hq] at hq0 hql hlast
      have HEA : Hid (spA u = u.take q) := by show _ = _; rw [(spK_yes HK.out).1, ← hq]
      have HEB : Hid (spB u = u.drop q) := by show _ = _; rw [(spK_yes HK.out).2, ← hq]
      obtain ⟨a2, c2, hsl, hc2⟩ := cut_from HX.out (l := 1) (by omega) (L := 1) (by omega)
      obtain ⟨V, hV⟩ : ∃ V, V = u.drop 1 := ⟨_, rfl⟩
      rw [← hV] at hsl hc2 hlast
      have hVl : V.length ≤ 1048576 := by rw [hV, List.length_drop]; omega
      obtain ⟨E, hE⟩ : ∃ E, E = u.drop q := ⟨_, rfl⟩
      rw [← hE] at hlast HEB
      have hEl : E.length = u.length - q := by rw [hE, List.length_drop]
      have hEq : (u.length : Int) - (E.length : Int) = (q : Int) := by omega
      have hEq2 : IntKind.i64.wrap ((u.length : Int) - (E.length : Int)) = (q : Int) := by rw [IntKind.wrap_i64]; omega
      have HLA := Lib.hid hlast
      have HC2 := Lib.hid hc2
      obtain ⟨a3, c3, hsl3, hc3⟩ := cut_to HX.out (h := q) (by omega) (H := (q : Int)) rfl
      have HC3 := Lib.hid hc3
      have hLV := lynF_len V
      clear hc hq hV hE hlast hc2 hc3 hEl hcap
      go_enter Try.func33, Try.ntmps33
      go_upto_region 3 with (go_at_call 13; refine HL.out.mono ?_; rintro e W1 ⟨rfl, b1⟩; have HB1 := Lib.hid b1; have HLF := Lib.hid (impl_lf _ V W1 (HC2.out.below b1) hVl); clear b1)
      go_wp2_with fail
      refine HLF.out.mono ?_
      rintro e W2 ⟨vr, us, rfl, hr, b2⟩
      have hl := hr.rows.len
      have hi0 : 0 < (lynF V).length := by
        rcases Nat.eq_zero_or_pos (lynF V).length with e | e
        · have := HLA.out; rw [List.eq_nil_of_length_eq_zero e] at this; simp at this
        · exact e
      have hat := HLA.out
      rw [List.getLast?_eq_getElem?] at hat
      obtain ⟨uu, huu⟩ : ∃ uu, us[(lynF V).length - 1]? = some uu := ⟨_, List.getElem?_eq_getElem (by omega)⟩
      obtain ⟨ra, rc, hvr, _⟩ := hr.top.form
      subst hvr
      obtain ⟨g, o, hra, hcell⟩ := lies_at (enc := id) hr.top.lies huu
      subst hra
      have hrow := hr.rows.row _ uu E huu hat
      obtain ⟨ea, ec, heu⟩ := hrow.form
      subst heu
      have HROW := Lib.hid hrow
      have HB2 := Lib.hid (HB1.out.trans (b2.mono HB1.out.size))
      obtain ⟨m, hm⟩ : ∃ m, (lynF V).length = m + 1 := ⟨(lynF V).length - 1, by omega⟩
      rw [hm] at hl hcell hLV
      rw [hl]
      have hcell2 : W2.cell? ⟨g, o + m, none⟩ = some (.slice ea E.length ec) := hcell
      have hm1 : ((m + 1 : Nat) : Int) - 1 = (m : Int) := by omega
      have HCL := Lib.hid (Digits.clone_lies _ (u.take q) W2 (HC3.out.lies.below HB2.out) (by rw [List.length_take]; omega))
      have HL1 := Lib.hid HB1.out.size
      clear hr hl hat huu hrow hcell hm b2 hi0 HLF HLA
      go_wp2_with fail
      refine HCL.out.mono ?_
      rintro e W5 ⟨v5, rfl, hv5, b5⟩
      obtain ⟨x5, y5, hx5, _⟩ := hv5.form
      have HI5 : Hid (OwnI W5 W2.heap.size W5.heap.size v5 (u.take q)) := ⟨hv5, fun k hk => (hv5.lt k hk).2, Nat.le_refl _⟩
      have HI6 := Lib.hid (HROW.out.below b5)
      have HB5 := Lib.hid (HB2.out.trans (b5.mono HB2.out.size))
      have HS5 := Lib.hid b5.size
      clear hv5 b5 HCL hx5
      go_wp2
      go_ret3
      rw [HK.out, HEA.out, HEB.out]
      exact ⟨_, _, W2.heap.size, rfl, HI5.out, HI6.out.mono HL1.out (Nat.le_refl _) HS5.out, ⟨HB2.out.size, HS5.out⟩, HB5.out⟩
  · have hd2 := decide_eq_true (show (u.length : Int) < 2 by omega)
    have HK : Hid (spK u = false) := by show _ = _; unfold spK; rw [decide_eq_false h2, Bool.false_and]
    clear h2
    go_enter Try.func33, Try.ntmps33
    go_wp2
    go_ret3
    exact ii_no HK.out (Below.refl _ _)
end Lynd
end Go.Proofs.Ytcnejfihpaicdaa
