/- Contracts of IsSteady, StateAfter and TermAt, of the program and of the model. No conditions beyond those that each states. -/
import Derived.Test.YtejbonnkgejngabSeqIsI
import Derived.Test.YtejbonnkgejngabSeqEq
import Derived.Test.YtejbonnkgejngabDigits3
import Derived.Deep.RegionHeld3
namespace Go.Proofs.Ytejbonnkgejngab
open Go.ChangeShapes Go.WideShapes Go.ChangeAt Go.RowKit
open Go.PlainAid Plain
set_option linter.unusedVariables false
namespace Seqs
theorem IsSeq.first {b : Int} {rows : List (List Int)} {out : List Int} (h : IsSeq b rows out) : ∃ r, rows[0]? = some r ∧ r[0]? = some (nextS rows 0 0) := by
  obtain ⟨r, h1, h2, _⟩ := h.next (s := 0) (d := 0) (Int.le_refl _) (by have := h.2.2.1; omega) (Int.le_refl _) (by have := h.1; omega)
  exact ⟨r, h1, h2⟩
theorem spec_steady (v : Value) (b : Int) (rows : List (List Int)) (out : List Int) (w : World) (h : LiesS w v b rows out) :
    Calls Try.prog 31 #[v] w fun e w' => e = .returned (.bool (steadyB b rows out)) ∧ Below w.heap.size w w' := by
  have HS := Lib.hid h
  obtain ⟨an, cn, ao, co, rfl⟩ := h.form
  clear h
  have hB : Below w.heap.size w (w.alloc (Obj.cells #[Value.int .i64 b, Value.slice an rows.length cn, Value.slice ao out.length co] 31)) := (Below.refl _ _).alloc (Nat.le_refl _) _
  have HC := Lib.hid (Cells3.new w 31 (.int .i64 b) (.slice an rows.length cn) (.slice ao out.length co))
  have HB := Lib.hid hB
  clear hB
  cases hs : seqB b rows out with
  | false =>
    have HQ := Lib.hid hs
    have HE : Hid (steadyB b rows out = false) := by show _ = _; rw [steadyB, hs]; rfl
    clear hs
    go_enter Try.func31, Try.ntmps31
    go_wp2_with fail
    refine (spec_is _ b rows out _ (HS.out.below HB.out)).mono ?_
    rintro e W1 ⟨rfl, b1⟩
    have HB1 := Lib.hid (HB.out.trans (b1.mono HB.out.size))
    rw [HQ.out]
    clear b1
    go_wp2
    go_ret
    exact ⟨ret_b HE.out.symm, HB1.out⟩
  | true =>
    have HQ := Lib.hid hs
    obtain ⟨x, hx⟩ : ∃ x, x = nextS rows 0 0 := ⟨_, rfl⟩
    have HE : Hid (steadyB b rows out = (x == 0)) := by show _ = _; rw [steadyB, hs, hx]; rfl
    obtain ⟨r, hr, hr0⟩ := IsSeq.first (seqB_out hs)
    rw [← hx] at hr0
    have HR := Lib.hid hr
    have HR0 := Lib.hid hr0
    clear hs hx hr hr0
    go_enter Try.func31, Try.ntmps31
    go_wp2_with fail
    refine (spec_is _ b rows out _ (HS.out.below HB.out)).mono ?_
    rintro e W1 ⟨rfl, b1⟩
    have HB1 := Lib.hid (HB.out.trans (b1.mono HB.out.size))
    have HC1 := Lib.hid (HC.out.below b1)
    rw [HQ.out]
    clear b1
    obtain ⟨hN, _⟩ := (HS.out.below HB1.out).cells
    obtain ⟨p, o, a', c', rfl, hcell, hrow⟩ := hN 0 r HR.out
    obtain ⟨q, s, rfl, hc0⟩ := hrow 0 x HR0.out
    have hrl : 0 < r.length := (List.getElem?_eq_some_iff.1 HR0.out).1
    have hrr : 0 < rows.length := (List.getElem?_eq_some_iff.1 HR.out).1
    rw [Nat.add_zero] at hcell hc0
    clear hN hrow
    have k0 := HC1.out.c0
    have k1 := HC1.out.c1
    have k2 := HC1.out.c2
    go_wp2
    go_ret
    exact ⟨ret_b HE.out.symm, HB1.out⟩
theorem impl_steady (v : Value) (b : Int) (rows : List (List Int)) (out : List Int) (w : World) (h : LiesS w v b rows out) :
    Calls Try.prog 33 #[v] w fun e w' => e = .returned (.bool (steadyB b rows out)) ∧ Below w.heap.size w w' := by
  have HS := Lib.hid h
  obtain ⟨an, cn, ao, co, rfl⟩ := h.form
  clear h
  have hB : Below w.heap.size w (w.alloc (Obj.cells #[Value.int .i64 b, Value.slice an rows.length cn, Value.slice ao out.length co] 31)) := (Below.refl _ _).alloc (Nat.le_refl _) _
  have HC := Lib.hid (Cells3.new w 31 (.int .i64 b) (.slice an rows.length cn) (.slice ao out.length co))
  have HB := Lib.hid hB
  clear hB
  cases hs : seqB b rows out with
  | false =>
    have HQ := Lib.hid hs
    have HE : Hid (steadyB b rows out = false) := by show _ = _; rw [steadyB, hs]; rfl
    clear hs
    go_enter Try.func33, Try.ntmps33
    go_wp2_with fail
    refine (impl_is _ b rows out _ (HS.out.below HB.out)).mono ?_
    rintro e W1 ⟨rfl, b1⟩
    have HB1 := Lib.hid (HB.out.trans (b1.mono HB.out.size))
    rw [HQ.out]
    clear b1
    go_wp2
    go_ret
    exact ⟨ret_b HE.out.symm, HB1.out⟩
  | true =>
    have HQ := Lib.hid hs
    obtain ⟨x, hx⟩ : ∃ x, x = nextS rows 0 0 := ⟨_, rfl⟩
    have HE : Hid (steadyB b rows out = (x == 0)) := by show _ = _; rw [steadyB, hs, hx]; rfl
    obtain ⟨r, hr, hr0⟩ := IsSeq.first (seqB_out hs)
    rw [← hx] at hr0
    have HR := Lib.hid hr
    have HR0 := Lib.hid hr0
    clear hs hx hr hr0
    go_enter Try.func33, Try.ntmps33
    go_wp2_with fail
    refine (impl_is _ b rows out _ (HS.out.below HB.out)).mono ?_
    rintro e W1 ⟨rfl, b1⟩
    have HB1 := Lib.hid (HB.out.trans (b1.mono HB.out.size))
    have HC1 := Lib.hid (HC.out.below b1)
    rw [HQ.out]
    clear b1
    obtain ⟨hN, _⟩ := (HS.out.below HB1.out).cells
    obtain ⟨p, o, a', c', rfl, hcell, hrow⟩ := hN 0 r HR.out
    obtain ⟨q, s, rfl, hc0⟩ := hrow 0 x HR0.out
    have hrl : 0 < r.length := (List.getElem?_eq_some_iff.1 HR0.out).1
    have hrr : 0 < rows.length := (List.getElem?_eq_some_iff.1 HR.out).1
    rw [Nat.add_zero] at hcell hc0
    clear hN hrow
    have k0 := HC1.out.c0
    have k1 := HC1.out.c1
    have k2 := HC1.out.c2
    go_wp2
    go_ret
    exact ⟨ret_b HE.out.symm, HB1.out⟩
end Seqs
end Go.Proofs.Ytejbonnkgejngab
