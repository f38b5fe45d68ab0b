/- Contract of the model's SteadyForm. No conditions beyond those that each states. -/
import Derived.Test.YthnmighlgifoeaaSeqForm
import Derived.Test.YthnmighlgifoeaaSeqSteady
import Derived.Test.YthnmighlgifoeaaSeqRaise
import Derived.Test.YthnmighlgifoeaaSeqs3
import Derived.Deep.DeepCutAuto
import Derived.Deep.RegionHeld3
namespace Go.Proofs.Ythnmighlgifoeaa
open Go.ChangeShapes Go.WideShapes Go.ChangeAt Go.RowKit
open Go.PlainAid Plain
set_option linter.unusedVariables false
namespace Seqs
open Digits

theorem spec_form_no (v : Value) (b : Int) (rows : List (List Int)) (out : List Int) (w : World) (h : LiesS w v b rows out) (hno : formK b rows out = false) :
    Calls Try.prog 51 #[v] w (GivesK 0 [] [] false w) := by
  have HS := Lib.hid h
  obtain ⟨an, cn, ao, co, rfl⟩ := h.form
  clear h
  have hst : steadyB b rows out = false := by simp [formK] at hno; exact hno.1
  have HST := Lib.hid hst
  have hB : Below w.heap.size w ((w.alloc (Obj.cells #[Value.int .i64 b, Value.slice an rows.length cn, Value.slice ao out.length co] 27)).alloc (Obj.cells #[Value.int .i64 0, Value.slice none 0 0, Value.slice none 0 0] 27)) := ((Below.refl _ _).alloc (Nat.le_refl _) _).alloc (by simp) _
  have hA0 := Lib.hid ((Cells3.new w 27 (.int .i64 b) (.slice an rows.length cn) (.slice ao out.length co)).alloc (Obj.cells #[Value.int .i64 0, Value.slice none 0 0, Value.slice none 0 0] 27))
  have hZ0 := Lib.hid (Cells3.new (w.alloc (Obj.cells #[Value.int .i64 b, Value.slice an rows.length cn, Value.slice ao out.length co] 27)) 27 (.int .i64 0) (.slice none 0 0) (.slice none 0 0))
  rw [size_alloc'] at hZ0
  have HB0 := Lib.hid hB
  have hs0 : w.heap.size + 2 ≤ ((w.alloc (Obj.cells #[Value.int .i64 b, Value.slice an rows.length cn, Value.slice ao out.length co] 27)).alloc (Obj.cells #[Value.int .i64 0, Value.slice none 0 0, Value.slice none 0 0] 27)).heap.size := by simp
  clear hB
  cases hq : seqB b rows out with
  | false =>
    have HQ := Lib.hid hq
    clear hq hno hst
    go_enter Try.func51, Try.ntmps51
    go_wp2_with fail
    refine (spec_is _ b rows out _ (HS.out.below HB0.out)).mono ?_
    rintro e W1 ⟨rfl, b1⟩
    rw [HQ.out]
    have HB1 := Lib.hid (HB0.out.trans (b1.mono HB0.out.size))
    have hA1 := Lib.hid (hA0.out.below b1)
    have hZ1 := Lib.hid (hZ0.out.below b1)
    have hs1 : w.heap.size + 2 ≤ W1.heap.size := Nat.le_trans hs0 b1.size
    clear b1 HB0 hA0 hZ0
    have k0 := hA1.out.c0
    have k1 := hA1.out.c1
    have k2 := hA1.out.c2
    have HB2 := HB1
    have hZ2 := hZ1
    have z0 := hZ2.out.c0
    have z1 := hZ2.out.c1
    have z2 := hZ2.out.c2
    have z3 := hZ2.out.f
    go_wp2
    have m0 := (((hZ2.out.set0 (.int .i64 0)).set1 (.slice none 0 0)).set2 (.slice none 0 0)).c0
    have m1 := (((hZ2.out.set0 (.int .i64 0)).set1 (.slice none 0 0)).set2 (.slice none 0 0)).c1
    have m2 := (((hZ2.out.set0 (.int .i64 0)).set1 (.slice none 0 0)).set2 (.slice none 0 0)).c2
    refine bodyPost_ret (v := .tuple #[.agg #[.int .i64 0, .slice none 0 0, .slice none 0 0], .bool false]) (by simp [results, Try.results51, go_sem, m0, m1, m2]) rfl ⟨_, rfl, OwnS.zero _, ?_⟩
    exact ((HB2.out.setCell (by show _ ≤ _ + 1; omega) _).setCell (by show _ ≤ _ + 1; omega) _).setCell (by show _ ≤ _ + 1; omega) _
  | true =>
    have hl : rows.length = 16 := by
      have h1 := seqB_out hq
      simp [formK, hq] at hno
      have := h1.2.2.2.1
      omega
    have HQ := Lib.hid hq
    have hd := decide_eq_true (show 16 ≤ (rows.length : Int) by omega)
    clear hq hno hst hl
    go_enter Try.func51, Try.ntmps51
    go_wp2_with fail
    refine (spec_is _ b rows out _ (HS.out.below HB0.out)).mono ?_
    rintro e W1 ⟨rfl, b1⟩
    rw [HQ.out]
    have HB1 := Lib.hid (HB0.out.trans (b1.mono HB0.out.size))
    have hA1 := Lib.hid (hA0.out.below b1)
    have hZ1 := Lib.hid (hZ0.out.below b1)
    have hs1 : w.heap.size + 2 ≤ W1.heap.size := Nat.le_trans hs0 b1.size
    clear b1 HB0 hA0 hZ0
    have k0 := hA1.out.c0
    have k1 := hA1.out.c1
    have k2 := hA1.out.c2
    go_wp2_with fail
    refine (spec_steady _ b rows out _ (HS.out.below HB1.out)).mono ?_
    rintro e W2 ⟨rfl, b1⟩
    rw [HST.out]
    have HB2 := Lib.hid (HB1.out.trans (b1.mono HB1.out.size))
    have hA2 := Lib.hid (hA1.out.below b1)
    have hZ2 := Lib.hid (hZ1.out.below b1)
    have hs2 : w.heap.size + 2 ≤ W2.heap.size := Nat.le_trans hs1 b1.size
    clear b1 HB1 hA1 hZ1
    have k0 := hA2.out.c0
    have k1 := hA2.out.c1
    have k2 := hA2.out.c2
    have z0 := hZ2.out.c0
    have z1 := hZ2.out.c1
    have z2 := hZ2.out.c2
    have z3 := hZ2.out.f
    go_wp2
    have m0 := (((hZ2.out.set0 (.int .i64 0)).set1 (.slice none 0 0)).set2 (.slice none 0 0)).c0
    have m1 := (((hZ2.out.set0 (.int .i64 0)).set1 (.slice none 0 0)).set2 (.slice none 0 0)).c1
    have m2 := (((hZ2.out.set0 (.int .i64 0)).set1 (.slice none 0 0)).set2 (.slice none 0 0)).c2
    refine bodyPost_ret (v := .tuple #[.agg #[.int .i64 0, .slice none 0 0, .slice none 0 0], .bool false]) (by simp [results, Try.results51, go_sem, m0, m1, m2]) rfl ⟨_, rfl, OwnS.zero _, ?_⟩
    exact ((HB2.out.setCell (by show _ ≤ _ + 1; omega) _).setCell (by show _ ≤ _ + 1; omega) _).setCell (by show _ ≤ _ + 1; omega) _
set_option maxHeartbeats 1000000 in
theorem spec_form_same (v : Value) (b : Int) (rows : List (List Int)) (out : List Int) (w : World) (h : LiesS w v b rows out) (hst : steadyB b rows out = true) (hs : rows.length + tot rows + out.length ≤ 1048576) :
    Calls Try.prog 51 #[v] w (GivesK b rows out true w) := by
  have HS := Lib.hid h
  obtain ⟨an, cn, ao, co, rfl⟩ := h.form
  clear h
  have hq : seqB b rows out = true := by rw [steadyB, Bool.and_eq_true] at hst; exact hst.1
  have HST := Lib.hid hst
  have HQ := Lib.hid hq
  clear hst hq
  have hB : Below w.heap.size w ((w.alloc (Obj.cells #[Value.int .i64 b, Value.slice an rows.length cn, Value.slice ao out.length co] 27)).alloc (Obj.cells #[Value.int .i64 0, Value.slice none 0 0, Value.slice none 0 0] 27)) := ((Below.refl _ _).alloc (Nat.le_refl _) _).alloc (by simp) _
  have hA0 := Lib.hid ((Cells3.new w 27 (.int .i64 b) (.slice an rows.length cn) (.slice ao out.length co)).alloc (Obj.cells #[Value.int .i64 0, Value.slice none 0 0, Value.slice none 0 0] 27))
  have hZ0 := Lib.hid (Cells3.new (w.alloc (Obj.cells #[Value.int .i64 b, Value.slice an rows.length cn, Value.slice ao out.length co] 27)) 27 (.int .i64 0) (.slice none 0 0) (.slice none 0 0))
  rw [size_alloc'] at hZ0
  have HB0 := Lib.hid hB
  have hs0 : w.heap.size + 2 ≤ ((w.alloc (Obj.cells #[Value.int .i64 b, Value.slice an rows.length cn, Value.slice ao out.length co] 27)).alloc (Obj.cells #[Value.int .i64 0, Value.slice none 0 0, Value.slice none 0 0] 27)).heap.size := by simp
  clear hB

  by_cases hl : rows.length = 16
  · have hd := decide_eq_true (show 16 ≤ (rows.length : Int) by omega)
    clear hl
    go_enter Try.func51, Try.ntmps51
    go_wp2_with fail
    refine (spec_is _ b rows out _ (HS.out.below HB0.out)).mono ?_
    rintro e W1 ⟨rfl, b1⟩
    rw [HQ.out]
    have HB1 := Lib.hid (HB0.out.trans (b1.mono HB0.out.size))
    have hA1 := Lib.hid (hA0.out.below b1)
    have hZ1 := Lib.hid (hZ0.out.below b1)
    have hs1 : w.heap.size + 2 ≤ W1.heap.size := Nat.le_trans hs0 b1.size
    clear b1 HB0 hA0 hZ0
    have k0 := hA1.out.c0
    have k1 := hA1.out.c1
    have k2 := hA1.out.c2
    go_wp2_with fail
    refine (spec_steady _ b rows out _ (HS.out.below HB1.out)).mono ?_
    rintro e W2 ⟨rfl, b1⟩
    rw [HST.out]
    have HB2 := Lib.hid (HB1.out.trans (b1.mono HB1.out.size))
    have hA2 := Lib.hid (hA1.out.below b1)
    have hZ2 := Lib.hid (hZ1.out.below b1)
    have hs2 : w.heap.size + 2 ≤ W2.heap.size := Nat.le_trans hs1 b1.size
    clear b1 HB1 hA1 hZ1
    have k0 := hA2.out.c0
    have k1 := hA2.out.c1
    have k2 := hA2.out.c2
    go_wp2_with fail
    refine (spec_steady _ b rows out _ (HS.out.below HB2.out)).mono ?_
    rintro e W3 ⟨rfl, b1⟩
    rw [HST.out]
    have HB3 := Lib.hid (HB2.out.trans (b1.mono HB2.out.size))
    have hA3 := Lib.hid (hA2.out.below b1)
    have hZ3 := Lib.hid (hZ2.out.below b1)
    have hs3 : w.heap.size + 2 ≤ W3.heap.size := Nat.le_trans hs2 b1.size
    clear b1 HB2 hA2 hZ2
    have k0 := hA3.out.c0
    have k1 := hA3.out.c1
    have k2 := hA3.out.c2
    go_wp2_with fail
    refine (spec_copied _ b rows out _ (HS.out.below HB3.out) hs).mono ?_
    rintro e WE ⟨v2, rfl, ho, b1⟩
    obtain ⟨a1, c1, a2, c2, rfl⟩ := ho.form
    have HBE := Lib.hid (HB3.out.trans (b1.mono HB3.out.size))
    have hZE := Lib.hid (hZ3.out.below b1)
    have HO := Lib.hid ho
    clear b1 HB3 hA3 hZ3 k0 k1 k2 ho
    have z0 := hZE.out.c0
    have z1 := hZE.out.c1
    have z2 := hZE.out.c2
    have z3 := hZE.out.f
    go_wp2
    have hZ3 := (((hZE.out.set0 (.int .i64 b)).set1 (.slice a1 rows.length c1)).set2 (.slice a2 out.length c2))
    have m0 := hZ3.c0
    have m1 := hZ3.c1
    have m2 := hZ3.c2
    refine bodyPost_ret (v := .tuple #[.agg #[.int .i64 b, .slice a1 rows.length c1, .slice a2 out.length c2], .bool true]) (by simp [results, Try.results51, go_sem, m0, m1, m2]) rfl ⟨_, rfl, ?_, ?_⟩
    · have T0 : Plain.Touch w.heap.size (w.heap.size + 2) WE (((WE.setCell ⟨w.heap.size + 1, 0, none⟩ (.int .i64 b)).setCell ⟨w.heap.size + 1, 1, none⟩ (.slice a1 rows.length c1)).setCell ⟨w.heap.size + 1, 2, none⟩ (.slice a2 out.length c2)) :=
        ((Plain.Touch.of_set _ (by show _ ≤ _ + 1; omega) (by show _ + 1 < _; omega)).trans (Plain.Touch.of_set _ (by show _ ≤ _ + 1; omega) (by show _ + 1 < _; omega))).trans (Plain.Touch.of_set _ (by show _ ≤ _ + 1; omega) (by show _ + 1 < _; omega))
      have := (HO.out.touch T0 (.inr hs3)).lower (show w.heap.size ≤ W3.heap.size by omega)
      simpa only [size_setCell'] using this
    · exact ((HBE.out.setCell (by show _ ≤ _ + 1; omega) _).setCell (by show _ ≤ _ + 1; omega) _).setCell (by show _ ≤ _ + 1; omega) _
  · have hl2 : rows.length < 16 := by
      have := (seqB_out HQ.out).2.2.2.1
      omega
    have hd := decide_eq_false (show ¬ 16 ≤ (rows.length : Int) by omega)
    clear hl
    go_enter Try.func51, Try.ntmps51
    go_wp2_with fail
    refine (spec_is _ b rows out _ (HS.out.below HB0.out)).mono ?_
    rintro e W1 ⟨rfl, b1⟩
    rw [HQ.out]
    have HB1 := Lib.hid (HB0.out.trans (b1.mono HB0.out.size))
    have hA1 := Lib.hid (hA0.out.below b1)
    have hZ1 := Lib.hid (hZ0.out.below b1)
    have hs1 : w.heap.size + 2 ≤ W1.heap.size := Nat.le_trans hs0 b1.size
    clear b1 HB0 hA0 hZ0
    have k0 := hA1.out.c0
    have k1 := hA1.out.c1
    have k2 := hA1.out.c2
    go_wp2_with fail
    refine (spec_steady _ b rows out _ (HS.out.below HB1.out)).mono ?_
    rintro e W2 ⟨rfl, b1⟩
    rw [HST.out]
    have HB2 := Lib.hid (HB1.out.trans (b1.mono HB1.out.size))
    have hA2 := Lib.hid (hA1.out.below b1)
    have hZ2 := Lib.hid (hZ1.out.below b1)
    have hs2 : w.heap.size + 2 ≤ W2.heap.size := Nat.le_trans hs1 b1.size
    clear b1 HB1 hA1 hZ1
    have k0 := hA2.out.c0
    have k1 := hA2.out.c1
    have k2 := hA2.out.c2
    go_wp2_with fail
    refine (spec_copied _ b rows out _ (HS.out.below HB2.out) hs).mono ?_
    rintro e WE ⟨v2, rfl, ho, b1⟩
    obtain ⟨a1, c1, a2, c2, rfl⟩ := ho.form
    have HBE := Lib.hid (HB2.out.trans (b1.mono HB2.out.size))
    have hZE := Lib.hid (hZ2.out.below b1)
    have HO := Lib.hid ho
    clear b1 HB2 hA2 hZ2 k0 k1 k2 ho
    have z0 := hZE.out.c0
    have z1 := hZE.out.c1
    have z2 := hZE.out.c2
    have z3 := hZE.out.f
    go_wp2
    have hZ3 := (((hZE.out.set0 (.int .i64 b)).set1 (.slice a1 rows.length c1)).set2 (.slice a2 out.length c2))
    have m0 := hZ3.c0
    have m1 := hZ3.c1
    have m2 := hZ3.c2
    refine bodyPost_ret (v := .tuple #[.agg #[.int .i64 b, .slice a1 rows.length c1, .slice a2 out.length c2], .bool true]) (by simp [results, Try.results51, go_sem, m0, m1, m2]) rfl ⟨_, rfl, ?_, ?_⟩
    · have T0 : Plain.Touch w.heap.size (w.heap.size + 2) WE (((WE.setCell ⟨w.heap.size + 1, 0, none⟩ (.int .i64 b)).setCell ⟨w.heap.size + 1, 1, none⟩ (.slice a1 rows.length c1)).setCell ⟨w.heap.size + 1, 2, none⟩ (.slice a2 out.length c2)) :=
        ((Plain.Touch.of_set _ (by show _ ≤ _ + 1; omega) (by show _ + 1 < _; omega)).trans (Plain.Touch.of_set _ (by show _ ≤ _ + 1; omega) (by show _ + 1 < _; omega))).trans (Plain.Touch.of_set _ (by show _ ≤ _ + 1; omega) (by show _ + 1 < _; omega))
      have := (HO.out.touch T0 (.inr hs2)).lower (show w.heap.size ≤ W2.heap.size by omega)
      simpa only [size_setCell'] using this
    · exact ((HBE.out.setCell (by show _ ≤ _ + 1; omega) _).setCell (by show _ ≤ _ + 1; omega) _).setCell (by show _ ≤ _ + 1; omega) _

theorem raise_snoc (l : List Int) (k : Nat) (x : Int) (h : l[k]? = some x) : raise (l.take (k + 1)) = raise (l.take k) ++ [x + 1] := by
  obtain ⟨h1, rfl⟩ := List.getElem?_eq_some_iff.1 h
  rw [List.take_succ_eq_append_getElem h1]
  simp only [raise, List.map_append, List.map_cons, List.map_nil]
set_option maxRecDepth 100000 in
set_option maxHeartbeats 4000000 in
theorem spec_form_make (v : Value) (b : Int) (rows : List (List Int)) (out : List Int) (w : World) (h : LiesS w v b rows out) (hq : seqB b rows out = true) (hst : steadyB b rows out = false) (hlen : rows.length < 16) :
    Calls Try.prog 51 #[v] w (GivesK b (steadyRows rows) (steadyOut out) true w) := by
  obtain ⟨i0, hi, hzA0, hzA1, hzA2⟩ := info_parts infoR
  obtain ⟨i1, hi1, hzB0, hzB1, hzB2⟩ := info_parts Ints.infoI
  have HS := Lib.hid h
  obtain ⟨an, cn, ao, co, rfl, hN, hO⟩ := liesS_open h
  have HN := Lib.hid hN
  have HO := Lib.hid hO
  clear h hN hO
  have HST := Lib.hid hst
  have HQ := Lib.hid hq
  have hv := seqB_out hq
  have hr1 : 0 < rows.length := by have := hv.2.2.1; omega
  have hol : out.length = rows.length := hv.2.2.2.2.1
  obtain ⟨bn, hbn⟩ : ∃ n : Nat, b = (n : Int) := ⟨b.toNat, by have := hv.1; omega⟩
  have hb2 : 2 ≤ bn := by have := hv.1; omega
  have hb4 : bn ≤ 4 := by have := hv.2.1; omega
  have HROW := Lib.hid (fun (i : Nat) (r : List Int) (hr : rows[i]? = some r) => hv.2.2.2.2.2.1 r (List.mem_of_getElem? hr))
  obtain ⟨o0, ho0⟩ : ∃ o0, out[0]? = some o0 := ⟨_, List.getElem?_eq_getElem (by omega)⟩
  obtain ⟨r0, hr0⟩ : ∃ r0, rows[0]? = some r0 := ⟨_, List.getElem?_eq_getElem hr1⟩
  have HO0 := Lib.hid ho0
  have HR0 := Lib.hid hr0
  have HSR := Lib.hid (show steadyRows rows = (0 :: raise (r0.drop 1)) :: rows.map raise by rw [steadyRows, List.getD_eq_getElem?_getD, hr0]; rfl)
  have HSO := Lib.hid (show steadyOut out = o0 :: out by rw [steadyOut, List.getD_eq_getElem?_getD, ho0]; rfl)
  have HOL := Lib.hid hol
  have hd := decide_eq_false (show ¬ 16 ≤ (rows.length : Int) by omega)
  subst hbn
  clear hst hq hv ho0 hr0 hol
  have hB : Below w.heap.size w ((w.alloc (Obj.cells #[Value.int .i64 bn, Value.slice an rows.length cn, Value.slice ao out.length co] 27)).alloc (Obj.cells #[Value.int .i64 0, Value.slice none 0 0, Value.slice none 0 0] 27)) := ((Below.refl _ _).alloc (Nat.le_refl _) _).alloc (by simp) _
  have hA0 := Lib.hid ((Cells3.new w 27 (.int .i64 bn) (.slice an rows.length cn) (.slice ao out.length co)).alloc (Obj.cells #[Value.int .i64 0, Value.slice none 0 0, Value.slice none 0 0] 27))
  have hZ0 := Lib.hid (Cells3.new (w.alloc (Obj.cells #[Value.int .i64 bn, Value.slice an rows.length cn, Value.slice ao out.length co] 27)) 27 (.int .i64 0) (.slice none 0 0) (.slice none 0 0))
  rw [size_alloc'] at hZ0
  have HB0 := Lib.hid hB
  have hs0 : w.heap.size + 2 ≤ ((w.alloc (Obj.cells #[Value.int .i64 bn, Value.slice an rows.length cn, Value.slice ao out.length co] 27)).alloc (Obj.cells #[Value.int .i64 0, Value.slice none 0 0, Value.slice none 0 0] 27)).heap.size := by simp
  clear hB
  go_enter Try.func51, Try.ntmps51
  go_wp2_with fail
  refine (spec_is _ (bn : Int) rows out _ (HS.out.below HB0.out)).mono ?_
  rintro e W1 ⟨rfl, b1⟩
  rw [HQ.out]
  have HB1 := Lib.hid (HB0.out.trans (b1.mono HB0.out.size))
  have hA1 := Lib.hid (hA0.out.below b1)
  have hZ1 := Lib.hid (hZ0.out.below b1)
  have hs1 : w.heap.size + 2 ≤ W1.heap.size := Nat.le_trans hs0 b1.size
  clear b1 HB0 hA0 hZ0
  have k0 := hA1.out.c0
  have k1 := hA1.out.c1
  have k2 := hA1.out.c2
  go_wp2_with fail
  refine (spec_steady _ (bn : Int) rows out _ (HS.out.below HB1.out)).mono ?_
  rintro e W2 ⟨rfl, b1⟩
  rw [HST.out]
  have HB2 := Lib.hid (HB1.out.trans (b1.mono HB1.out.size))
  have hA2 := Lib.hid (hA1.out.below b1)
  have hZ2 := Lib.hid (hZ1.out.below b1)
  have hs2 : w.heap.size + 2 ≤ W2.heap.size := Nat.le_trans hs1 b1.size
  clear b1 HB1 hA1 hZ1
  have k0 := hA2.out.c0
  have k1 := hA2.out.c1
  have k2 := hA2.out.c2
  have hoc : ∃ po oo, ao = some ⟨po, oo, none⟩ ∧ W2.cell? ⟨po, oo, none⟩ = some (.int .i64 o0) ∧ po < w.heap.size := by
    obtain ⟨_, ao', co', hv0, _, hco'⟩ := HO.out
    injection hv0 with e1 e2 e3
    subst e1
    obtain ⟨po', oo', h1, h2⟩ := hco' 0 o0 HO0.out
    rw [Nat.add_zero] at h2
    exact ⟨po', oo', h1, (HB2.out.cell (p := ⟨po', oo', none⟩) (World.block_lt_of_cell? w _ h2)).trans h2, World.block_lt_of_cell? w _ h2⟩
  obtain ⟨po, oo, rfl, hoc, hpo⟩ := hoc
  have HOC := Lib.hid hoc
  have hol : 0 < out.length := by have := HOL.out; omega
  have HOW := Lib.hid (HO.out.below HB2.out)
  have HOLL := Lib.hid (show ([o0].length + out.length) * 8 ≤ 140737488355328 ∧ [o0].length + out.length ≤ 9223372036854775807 by have := HOL.out; simp; omega)
  clear hoc
  go_wp2_with fail
  go_cut [4] (fun s wx => ∃ (p : Nat) (vo : Value), s = .pointer (some ⟨p, 0, none⟩) ∧ Hid (w.heap.size + 2 ≤ p ∧ p < wx.heap.size) ∧ Hid (Cells3 wx p 27 (.int .i64 bn) (.slice none 0 0) vo) ∧ Hid (OwnI wx (w.heap.size + 2) wx.heap.size vo (o0 :: out)) ∧ Hid (Cells3 wx w.heap.size 27 (.int .i64 bn) (.slice an rows.length cn) (.slice (some ⟨po, oo, none⟩) out.length co)) ∧ Hid (Cells3 wx (w.heap.size + 1) 27 (.int .i64 0) (.slice none 0 0) (.slice none 0 0)) ∧ Hid (Below w.heap.size w wx))
  case first =>
    go_region_held3 (fun w' => w'.cell? ⟨w.heap.size, 0, none⟩ = some (.int .i64 bn) ∧ w'.cell? ⟨w.heap.size, 1, none⟩ = some (.slice an rows.length cn) ∧ w'.cell? ⟨w.heap.size, 2, none⟩ = some (.slice (some ⟨po, oo, none⟩) out.length co) ∧ w'.cell? ⟨po, oo, none⟩ = some (.int .i64 o0))
      ((refine copy_held (w := w) (wo := W2) (t := 27) hA2.out hpo HOC.out ?_; repeat (first | with_reducible exact Below.refl _ _ | with_reducible exact hbw | with_reducible apply Below.drew | (with_reducible refine Below.alloc ?_ ?_ _; rotate_left; focus (first | exact hs2 | exact Nat.le_trans hs2 hbw.size | omega | (simp; omega))) | (with_reducible refine Below.setCell ?_ ?_ _; rotate_left; focus (simp; omega)))))
      ((refine step_append_list (enc := Value.int .i64) (e := 3) rfl (.tmp 35) (.tmp 37) 23 rfl W2.heap.size i1 (.int .i64 0) 8 Try.underlying23 hi1 hzB0 hzB1 hzB2 rfl (Value.slice (some ⟨_, 0, none⟩) 1 1) [o0] rfl (by repeat (first | with_reducible apply has_drew | ((with_reducible refine has_lit1 (enc := Value.int .i64) _ ?_ ?_) <;> (first | rfl | exact Nat.le_refl _ | omega | (simp; done) | (simp; omega))) | with_reducible apply has_alloc)) (Value.slice (some ⟨po, oo, none⟩) out.length co) out rfl (by repeat (first | with_reducible exact HOW.out | with_reducible apply lies_drew | with_reducible apply lies_alloc)) (fun _ _ => rfl) HOLL.out.1 HOLL.out.2 (by simp <;> omega) ?_; intro vo w1 ho hg; obtain ⟨av, cv, hvf, _⟩ := ho.form; rw [show ([o0] ++ out).length = out.length + 1 from by simp] at hvf; subst hvf; rw [List.singleton_append] at ho; refine with_fact (T := W2.grownBy w1 (some W2.heap.size) ∨ W2.grownBy w1 (some (W2.heap.size + 1))) ?_ ?_; (focus (first | exact Or.inl (grown_alloc (grown_drew hg)) | exact Or.inl (grown_alloc (grown_alloc (grown_drew hg))) | exact Or.inr (grown_alloc (grown_alloc (grown_drew hg))))); intro hgW; have hbw : Below (w.heap.size + 2) W2 w1 := grown_below2 hgW hs2; (first | (refine with_fact (T := Cells3 w1 (W2.heap.size) 27 (.int .i64 0) (.slice none 0 0) (.slice none 0 0)) ?_ ?_; (refine Cells3.grown ?_ hg ?_; (focus ((repeat (first | with_reducible apply c3_drew | ((with_reducible refine c3_new' ?_) <;> (first | rfl | (simp; done))) | with_reducible apply Cells3.alloc)); done)); (focus (simp [Value.ownBlock]; done))); intro hZ1; have q0 := hZ1.c0; have q1 := hZ1.c1; have q2 := hZ1.c2; have q3 := hZ1.f) | (refine with_fact (T := Cells3 w1 (W2.heap.size + 1) 27 (.int .i64 0) (.slice none 0 0) (.slice none 0 0)) ?_ ?_; (refine Cells3.grown ?_ hg ?_; (focus ((repeat (first | with_reducible apply c3_drew | ((with_reducible refine c3_new' ?_) <;> (first | rfl | (simp; done))) | with_reducible apply Cells3.alloc)); done)); (focus (simp [Value.ownBlock]; done))); intro hZ1; have q0 := hZ1.c0; have q1 := hZ1.c1; have q2 := hZ1.c2; have q3 := hZ1.f) | skip)))
    all_goals
      have HA1 := Lib.hid (c3_of_below hbw hA2.out (by omega))
      have HZ1 := Lib.hid (c3_of_below hbw hZ2.out (by omega))
      have HB1 := Lib.hid (HB2.out.trans (hbw.mono (by omega)))
      have HS1 := Lib.hid (Nat.le_trans hs2 hbw.size)
      have HS2 := Lib.hid hbw.size
      have HO1 := Lib.hid ((own_of_has ho).mono hs2 (Nat.le_refl _) (Nat.le_refl _))
      clear hgW hg ho hbw
    · go_wp2_with fail
      go_meet
      refine ⟨_, _, rfl, ⟨HS1.out, ?_⟩, c3_new' rfl, (HO1.out.below ((Below.refl _ _).alloc (Nat.le_refl _) _)).mono (Nat.le_refl _) (by simp) (Nat.le_refl _), HA1.out.alloc _, HZ1.out.alloc _, HB1.out.alloc HB1.out.size _⟩
      simp
    all_goals
      have HC1 := Lib.hid hZ1
      have HNE := Lib.hid (has_ne_c3 HO1.out.has hZ1 (by decide))
      clear hZ1 q0 q1 q2 q3
      go_wp2_with fail
      go_meet
      refine ⟨_, _, rfl, ⟨by omega, by simpa [World.setCell] using HC1.out.lt⟩, ((HC1.out.set0 _).set1 _).set2 _, (((HO1.out.set HNE.out _).set HNE.out _).set HNE.out _).mono (Nat.le_refl _) (by simp [World.setCell]) (Nat.le_refl _), ((HA1.out.other ?_ _).other ?_ _).other ?_ _, ((HZ1.out.other ?_ _).other ?_ _).other ?_ _, ((HB1.out.setCell ?_ _).setCell ?_ _).setCell ?_ _⟩
      all_goals first | (show W2.heap.size ≠ _; omega) | (show W2.heap.size + 1 ≠ _; omega) | (show _ ≤ W2.heap.size; omega) | (show _ ≤ W2.heap.size + 1; omega)
  case rest =>
    obtain ⟨p, vo, rfl, hp, hC, hO, hA, hZ, hB⟩ := hcut
    obtain ⟨W5, rfl⟩ : ∃ W, W = wc := ⟨_, rfl⟩
    have hR0 := HROW.out 0 r0 HR0.out
    have hr0l : r0.length = bn := by omega
    obtain ⟨pa, off, rfl⟩ : ∃ pa off, an = some ⟨pa, off, none⟩ := by
      obtain ⟨a, cap, hv, _, hc⟩ := HN.out.row
      obtain ⟨b', o', u', h1, _⟩ := hc 0 r0 HR0.out
      injection hv with e1 e2 e3
      exact ⟨b', o', by rw [e1, h1]⟩
    obtain ⟨q0, s0, c0, hcell0, hrow0, hpa, hq0⟩ := row_at HN.out HR0.out (by omega)
    rw [Nat.add_zero] at hcell0
    have HCE0 := Lib.hid hcell0
    have HRO0 := Lib.hid hrow0
    have HX0 := Lib.hid hR0.2
    have hp1 := hp.out.1
    have hp2 := hp.out.2
    have hM2 : w.heap.size + 2 ≤ W5.heap.size := by omega
    have hl0 : 0 < rows.length := hr1
    clear hR0 hcell0 hrow0 hp hr1
    have k0 := hA.out.c0
    have k1 := hA.out.c1
    have k2 := hA.out.c2
    go_wp2_with fail
    have HV5 : Hid (Has (Value.int .i64) 3 (W5.alloc (Obj.cells #[Value.int .i64 0] 3)) W5.heap.size (.slice (some ⟨W5.heap.size, 0, none⟩) 1 1) (0 :: raise ((r0.drop 1).take (1 - 1)))) := has_lit1 (enc := Value.int .i64) 0 rfl (Nat.le_refl _)
    have HB5 : Hid (Below W5.heap.size W5 (W5.alloc (Obj.cells #[Value.int .i64 0] 3))) := below_allocs (Below.refl _ _)
    clear k0 k1 k2
    go_loopw [5, 6] (fun t5 t6 wr => ∃ n : Nat, 1 ≤ n ∧ n ≤ bn ∧ t6 = .int .i64 n ∧ Hid (Has (Value.int .i64) 3 wr W5.heap.size t5 (0 :: raise ((r0.drop 1).take (n - 1)))) ∧ Hid (Below W5.heap.size W5 wr)) (fun _ t6 _ => bn - (intOf t6).toNat)
    case atStart => exact ⟨1, by omega, by omega, rfl, HV5, HB5⟩
    case round =>
      clear HV5 HB5
      obtain ⟨n, hn1, hnb, rfl, hown, hbel⟩ := hrel
      obtain ⟨wo, rfl⟩ : ∃ wo : World, wo = wr := ⟨_, rfl⟩
      have hA' := c3_of_below hbel.out hA.out (by omega)
      have hBw := Lib.hid (hB.out.trans (hbel.out.mono (by omega)))
      have k0 := hA'.c0
      have k1 := hA'.c1
      have k2 := hA'.c2
      by_cases hlt : n < bn
      · obtain ⟨x, hx⟩ : ∃ x, r0[n]? = some x := ⟨_, List.getElem?_eq_getElem (by omega)⟩
        have hxb := HX0.out x (List.mem_of_getElem? hx)
        have hx0 : 0 ≤ x := hxb.1
        have hx1 : x < 16 := by omega
        have c1 : wo.cell? ⟨pa, off, none⟩ = some (.slice (some ⟨q0, s0, none⟩) r0.length c0) := (hBw.out.cell (p := ⟨pa, off, none⟩) hpa).trans HCE0.out
        have c2 : wo.cell? ⟨q0, s0 + n, none⟩ = some (.int .i64 x) := (hBw.out.cell (p := ⟨q0, s0 + n, none⟩) hq0).trans (HRO0.out n x hx)
        have HSN := Lib.hid (show raise ((r0.drop 1).take (n + 1 - 1)) = raise ((r0.drop 1).take (n - 1)) ++ [x + 1] from by
          have h1 := raise_snoc (r0.drop 1) (n - 1) x (by rw [List.getElem?_drop, show 1 + (n - 1) = n from by omega]; exact hx)
          rw [show n - 1 + 1 = n + 1 - 1 from by omega] at h1
          exact h1)
        have HLN := Lib.hid (show ((0 :: raise ((r0.drop 1).take (n - 1))).length + 1) * 8 ≤ 140737488355328 ∧ (0 :: raise ((r0.drop 1).take (n - 1))).length + 1 ≤ 9223372036854775807 from by
          have : (raise ((r0.drop 1).take (n - 1))).length ≤ n - 1 := by rw [raise_len, List.length_take]; omega
          simp only [List.length_cons]
          omega)
        have hnl : n < r0.length := by omega
        clear hx hxb hA'
        go_wp2_with (at_builtin; refine wpList_append_list (enc := Value.int .i64) (e := 3) rfl (.tmp 47) (.tmp 56) 23 rfl W5.heap.size i1 (.int .i64 0) 8 Try.underlying23 hi1 hzB0 hzB1 hzB2 rfl u5 (0 :: raise ((r0.drop 1).take (n - 1))) rfl (has_alloc hown.out _) (Value.slice (some ⟨_, 0, none⟩) 1 1) [x + 1] rfl (lies_lit1 (enc := Value.int .i64) _ rfl) (fun _ _ => rfl) HLN.out.1 HLN.out.2 (by have := hbel.out.size; simp; omega) ?_; intro v5 w2 ho2 hg2 hb2)
        have HB2 := Lib.hid (hbel.out.grown (grown_alloc hg2) hbel.out.size (fun k hk => (hown.out.lt k hk).1))
        have HO2 : Hid (Has (Value.int .i64) 3 w2 W5.heap.size v5 (0 :: raise ((r0.drop 1).take (n + 1 - 1)))) := by
          show Has _ _ _ _ _ _
          rw [HSN.out]
          exact ho2
        clear ho2 hg2 hb2 k0 k1 k2 c1 c2
        go_wp2
        go_roundw
        case rel => exact ⟨n + 1, by omega, by omega, by go_num, HO2, HB2⟩
        case measure => simp [intOf]; omega
      · obtain rfl : n = bn := by omega
        have HV5 : Hid (Has (Value.int .i64) 3 wo W5.heap.size u5 (0 :: raise (r0.drop 1))) := by
          have := hown.out
          rw [show (r0.drop 1).take (n - 1) = r0.drop 1 from List.take_of_length_le (by rw [List.length_drop]; omega)] at this
          exact this
        clear hown
        obtain ⟨a5, c5, hv5, _⟩ := HV5.out.form
        rw [show (0 :: raise (r0.drop 1)).length = n from by rw [List.length_cons, raise_len, List.length_drop]; omega] at hv5
        subst hv5
        have hCo := hC.out.below hbel.out
        have c1 := hCo.c1
        have HCo := Lib.hid hCo
        have HVo := Lib.hid (hO.out.below hbel.out)
        have HZo := Lib.hid (c3_of_below hbel.out hZ.out (by omega))
        have HAo := Lib.hid hA'
        have hso := hbel.out.size
        clear hC hO hA hZ hB hA' hCo hbel hlt hn1 hnb
        go_wp2_with (at_builtin; refine wpList_append_list (enc := id) (e := 23) rfl (.tmp 59) (.tmp 61) 22 rfl W5.heap.size i0 (.slice none 0 0) 24 Try.underlying22 hi hzA0 hzA1 hzA2 rfl (.slice none 0 0) [] rfl (World.ownsRow_nil _ _ _ _) (Value.slice (some ⟨_, 0, none⟩) 1 1) [.slice a5 n c5] rfl (lies_lit1v _ rfl) (fun y hy => by simp at hy; subst hy; rfl) (by simp) (by simp) (by simp; omega) ?_; intro vt w2 ho2 hg2 hb2; rw [List.nil_append] at ho2; obtain ⟨at2, ct2, rfl, _⟩ := ho2.form; have hg3 := grown_alloc hg2; have hc2 := HCo.out.grown hg3 (by simp [Value.ownBlock]); have r1 := hc2.c1; have r3 := hc2.f)
        have HB2 : Hid (Below W5.heap.size wo w2) := (Below.refl W5.heap.size wo).grown hg3 hso (fun k hk => by cases hk)
        have HB2' : Hid (Below wo.heap.size wo w2) := (Below.refl wo.heap.size wo).grown hg3 (Nat.le_refl _) (fun k hk => by cases hk)
        obtain ⟨W7, hW7⟩ : ∃ W, W = w2.setCell ⟨p, 1, none⟩ (.slice at2 1 ct2) := ⟨_, rfl⟩
        have HNE := Lib.hid (has_ne_c3 ho2 hc2 (by decide))
        have HN7 := Lib.hid (ho2.set (a := ⟨p, 1, none⟩) HNE.out (.slice at2 1 ct2))
        have HI5 := Lib.hid ((own_of_has HV5.out).below HB2'.out)
        have HIN := Lib.hid (has_ne_c3 HI5.out.has hc2 (by decide))
        have HR7 : Hid (OwnRows (w2.setCell ⟨p, 1, none⟩ (.slice at2 1 ct2)) W5.heap.size (w2.setCell ⟨p, 1, none⟩ (.slice at2 1 ct2)).heap.size [.slice a5 n c5] ((0 :: raise (r0.drop 1)) :: (rows.take 0).map raise)) :=
          OwnRows.one (((HI5.out.set (a := ⟨p, 1, none⟩) HIN.out (.slice at2 1 ct2))).mono (Nat.le_refl _) (by simpa [World.setCell] using HB2'.out.size) (Nat.le_refl _))
        have HC7 := Lib.hid (hc2.set1 (.slice at2 1 ct2))
        have HO7 := Lib.hid ((HVo.out.touch (Plain.Touch.of_grown_none hg3) (.inr (Nat.zero_le _))))
        have HO7' := Lib.hid (HO7.out.set (a := ⟨p, 1, none⟩) (has_ne_c3 HO7.out.has hc2 (by decide)) (.slice at2 1 ct2))
        have HA7 := Lib.hid ((c3_of_below HB2.out HAo.out (by omega)).other (a := ⟨p, 1, none⟩) (by show p ≠ _; omega) (.slice at2 1 ct2))
        have HZ7 := Lib.hid ((c3_of_below HB2.out HZo.out (by omega)).other (a := ⟨p, 1, none⟩) (by show p ≠ _; omega) (.slice at2 1 ct2))
        have HB7 := Lib.hid ((hBw.out.trans (HB2.out.mono (by omega))).setCell (p := ⟨p, 1, none⟩) (by show _ ≤ p; omega) (.slice at2 1 ct2))
        have HS7 : Hid (W5.heap.size ≤ (w2.setCell ⟨p, 1, none⟩ (.slice at2 1 ct2)).heap.size) := by
          have := HB2.out.size
          show _ ≤ _
          simp only [size_setCell']
          omega
        rw [← hW7] at HN7 HR7 HC7 HO7' HA7 HZ7 HB7 HS7
        clear ho2 hg2 hb2 hg3 hc2 r1 r3 HB2 HB2' HNE HI5 HIN HO7 HVo HZo HAo HCo HV5 c1 k0 k1 k2 hso hBw
        go_wp2_with fail
        rw [← hW7]
        clear hW7
        go_loopw [7] (fun t7 wr => ∃ (i : Nat) (us : List Value) (vn : Value), i ≤ rows.length ∧ t7 = .int .i64 i ∧ Hid (Has id 23 wr W5.heap.size vn us) ∧ Hid (OwnRows wr W5.heap.size wr.heap.size us ((0 :: raise (r0.drop 1)) :: (rows.take i).map raise)) ∧ Hid (Cells3 wr p 27 (.int .i64 n) vn vo) ∧ Hid (OwnI wr (w.heap.size + 2) W5.heap.size vo (o0 :: out)) ∧ Hid (Cells3 wr w.heap.size 27 (.int .i64 n) (.slice (some ⟨pa, off, none⟩) rows.length cn) (.slice (some ⟨po, oo, none⟩) out.length co)) ∧ Hid (Cells3 wr (w.heap.size + 1) 27 (.int .i64 0) (.slice none 0 0) (.slice none 0 0)) ∧ Hid (Below w.heap.size w wr) ∧ Hid (W5.heap.size ≤ wr.heap.size)) (fun t7 _ => rows.length - (intOf t7).toNat)
        case atStart => exact ⟨0, [_], _, Nat.zero_le _, rfl, HN7, HR7, HC7, HO7', HA7, HZ7, HB7, HS7⟩
        case round =>
          clear HN7 HR7 HC7 HO7' HA7 HZ7 HB7 HS7
          obtain ⟨i, us, vn, hile, rfl, hN, hR, hC, hO, hA, hZ, hB, hS⟩ := hrel
          obtain ⟨wq, rfl⟩ : ∃ wq : World, wq = wr := ⟨_, rfl⟩
          have k0 := hA.out.c0
          have k1 := hA.out.c1
          have k2 := hA.out.c2
          by_cases hlt : i < rows.length
          · obtain ⟨r, hr⟩ : ∃ r, rows[i]? = some r := ⟨_, List.getElem?_eq_getElem hlt⟩
            have hrb := HROW.out i r hr
            have hrl : r.length = n := by omega
            obtain ⟨q, s, c, hcell, hrow, _, hq⟩ := row_at HN.out hr (by omega)
            have HX := Lib.hid hrb.2
            have HCE := Lib.hid hcell
            have HRO := Lib.hid hrow
            have HT := Lib.hid (show rows.take (i + 1) = rows.take i ++ [r] from by
              obtain ⟨h1, rfl⟩ := List.getElem?_eq_some_iff.1 hr
              exact List.take_succ_eq_append_getElem h1)
            have hws := hS.out
            clear hr hrb hcell hrow
            go_wp2_with fail
            have HV8 : Hid (Has (Value.int .i64) 3 (wq.alloc (Obj.cells #[] 3)) wq.heap.size (.slice (some ⟨wq.heap.size, 0, none⟩) 0 0) (raise (r.take 0))) := has_lit0 rfl (Nat.le_refl _)
            have HB8 : Hid (Below wq.heap.size wq (wq.alloc (Obj.cells #[] 3))) := below_allocs (Below.refl _ _)
            clear k0 k1 k2
            go_loopw [8, 9] (fun t8 t9 wi => ∃ k : Nat, k ≤ n ∧ t9 = .int .i64 k ∧ Hid (Has (Value.int .i64) 3 wi wq.heap.size t8 (raise (r.take k))) ∧ Hid (Below wq.heap.size wq wi)) (fun _ t9 _ => n - (intOf t9).toNat)
            case atStart => exact ⟨0, by omega, rfl, HV8, HB8⟩
            case round =>
              clear HV8 HB8
              obtain ⟨k, hkn, rfl, hown, hbel⟩ := hrel
              obtain ⟨wi', rfl⟩ : ∃ wi' : World, wi' = wr := ⟨_, rfl⟩
              have hA' := c3_of_below hbel.out hA.out (by omega)
              have hBw := Lib.hid (hB.out.trans (hbel.out.mono (by omega)))
              have k0 := hA'.c0
              have k1 := hA'.c1
              have k2 := hA'.c2
              by_cases hkl : k < n
              · obtain ⟨x, hx⟩ : ∃ x, r[k]? = some x := ⟨_, List.getElem?_eq_getElem (by omega)⟩
                have hxb := HX.out x (List.mem_of_getElem? hx)
                have hx0 : 0 ≤ x := hxb.1
                have hx1 : x < 16 := by omega
                have c1 : wi'.cell? ⟨pa, off + i, none⟩ = some (.slice (some ⟨q, s, none⟩) r.length c) := (hBw.out.cell (p := ⟨pa, off + i, none⟩) hpa).trans HCE.out
                have c2 : wi'.cell? ⟨q, s + k, none⟩ = some (.int .i64 x) := (hBw.out.cell (p := ⟨q, s + k, none⟩) hq).trans (HRO.out k x hx)
                have HSN := Lib.hid (raise_snoc r k x hx)
                have HLN := Lib.hid (show ((raise (r.take k)).length + 1) * 8 ≤ 140737488355328 ∧ (raise (r.take k)).length + 1 ≤ 9223372036854775807 from by
                  have : (raise (r.take k)).length ≤ k := by rw [raise_len, List.length_take]; omega
                  omega)
                have hnl : k < r.length := by omega
                clear hx hxb hA'
                go_wp2_with (at_builtin; refine wpList_append_list (enc := Value.int .i64) (e := 3) rfl (.tmp 78) (.tmp 88) 23 rfl wq.heap.size i1 (.int .i64 0) 8 Try.underlying23 hi1 hzB0 hzB1 hzB2 rfl u8 (raise (r.take k)) rfl (has_alloc hown.out _) (Value.slice (some ⟨_, 0, none⟩) 1 1) [x + 1] rfl (lies_lit1 (enc := Value.int .i64) _ rfl) (fun _ _ => rfl) HLN.out.1 HLN.out.2 (by have := hbel.out.size; simp; omega) ?_; intro v8 w2 ho2 hg2 hb2)
                have HB2 := Lib.hid (hbel.out.grown (grown_alloc hg2) hbel.out.size (fun k hk => (hown.out.lt k hk).1))
                have HO2 : Hid (Has (Value.int .i64) 3 w2 wq.heap.size v8 (raise (r.take (k + 1)))) := by
                  show Has _ _ _ _ _ _
                  rw [HSN.out]
                  exact ho2
                clear ho2 hg2 hb2 k0 k1 k2 c1 c2
                go_wp2
                go_roundw
                case rel => exact ⟨k + 1, by omega, by go_num, HO2, HB2⟩
                case measure => simp [intOf]; omega
              · obtain rfl : k = n := by omega
                have HV8 : Hid (Has (Value.int .i64) 3 wi' wq.heap.size u8 (raise r)) := by
                  have := hown.out
                  rw [show r.take k = r from List.take_of_length_le (by omega)] at this
                  exact this
                clear hown
                obtain ⟨a8, c8, hv8, _⟩ := HV8.out.form
                rw [show (raise r).length = k from by rw [raise_len]; exact hrl] at hv8
                subst hv8
                have hCo := hC.out.below hbel.out
                have c1 := hCo.c1
                have HCo := Lib.hid hCo
                have hno := hN.out.below hbel.out
                have HNo := Lib.hid hno
                have hul : us.length = i + 1 := by
                  have := hR.out.len
                  simp at this
                  omega
                have HUL := Lib.hid hul
                have HUS := Lib.hid (show (us.length + 1) * 24 ≤ 140737488355328 ∧ us.length + 1 ≤ 9223372036854775807 by omega)
                have hso := hbel.out.size
                clear hCo hno hul
                go_wp2_with (at_builtin; refine wpList_append_list (enc := id) (e := 23) rfl (.tmp 91) (.tmp 93) 22 rfl W5.heap.size i0 (.slice none 0 0) 24 Try.underlying22 hi hzA0 hzA1 hzA2 rfl vn us rfl (has_alloc HNo.out _) (Value.slice (some ⟨_, 0, none⟩) 1 1) [.slice a8 k c8] rfl (lies_lit1v _ rfl) (fun y hy => by simp at hy; subst hy; rfl) HUS.out.1 HUS.out.2 (by simp; omega) ?_; intro vt w2 ho2 hg2 hb2; obtain ⟨at2, ct2, hvf, _⟩ := ho2.form; rw [show (us ++ [Value.slice a8 k c8]).length = us.length + 1 from by simp] at hvf; subst hvf; have hg3 := grown_alloc hg2; have hc2 := HCo.out.grown hg3 (has_ne_c3 HNo.out HCo.out (by decide)); have r1 := hc2.c1; have r3 := hc2.f)
                have HB2 := Lib.hid ((Below.refl W5.heap.size wi').grown hg3 (by omega) (fun k hk => (HNo.out.lt k hk).1))
                have HC2 := Lib.hid hc2
                have HNT := Lib.hid (has_ne_c3 ho2 hc2 (by decide))
                have HT2 := Lib.hid ho2
                have HR1 : Hid (OwnRows wi' W5.heap.size wi'.heap.size (us ++ [Value.slice a8 k c8]) ((0 :: raise (r0.drop 1)) :: (rows.take (i + 1)).map raise)) := by
                  have h2 := (hR.out.below hbel.out).snoc (own_of_has HV8.out) hws hso
                  rw [HT.out, List.map_append]
                  exact h2
                have HR2 := Lib.hid ((HR1.out.top_grown HNo.out hg3).mono hg3.size (Nat.le_refl _))
                have HRN := Lib.hid (HR2.out.ne_c3 hc2 (by decide))
                have HO2 := Lib.hid ((hO.out.below hbel.out).grown hg3 (fun k hk => .inr (HNo.out.lt k hk).1))
                have HON := Lib.hid (has_ne_c3 HO2.out.has hc2 (by decide))
                have HBW := Lib.hid (Below.trans (hbel.out.mono hws) HB2.out)
                have hsz := hg3.size
                clear ho2 hg2 hb2 hg3 hc2 r1 r3 c1 k0 k1 k2 hA'
                go_roundw
                case rel =>
                  refine ⟨i + 1, us ++ [Value.slice a8 k c8], Value.slice at2 (us.length + 1) ct2, by omega, by go_num, HT2.out.set (a := ⟨p, 1, none⟩) HNT.out (.slice at2 (us.length + 1) ct2), ?_, HC2.out.set1 (.slice at2 (us.length + 1) ct2), HO2.out.set (a := ⟨p, 1, none⟩) HON.out (.slice at2 (us.length + 1) ct2), (c3_of_below HBW.out hA.out (by omega)).other (by show p ≠ _; omega) _, (c3_of_below HBW.out hZ.out (by omega)).other (by show p ≠ _; omega) _, (hB.out.trans (HBW.out.mono (by omega))).setCell (by show _ ≤ p; omega) _, ?_⟩
                  · have := HR2.out.set (a := ⟨p, 1, none⟩) HRN.out (.slice at2 (us.length + 1) ct2)
                    show OwnRows _ _ _ _ _
                    simpa only [size_setCell'] using this
                  · show _ ≤ _
                    simp only [size_setCell']
                    omega
                case measure => simp [intOf]; omega
          · obtain rfl : i = rows.length := by omega
            have hus : us.length = (steadyRows rows).length := by
              have := hR.out.len
              rw [HSR.out]
              simp at this ⊢
              omega
            have hol : (o0 :: out).length = (steadyOut out).length := by rw [HSO.out]
            have HE : Hid (OwnR wq W5.heap.size wq.heap.size vn us (steadyRows rows)) := by
              have h1 := hR.out
              rw [List.take_length] at h1
              rw [HSR.out]
              exact ⟨hN.out, fun k hk => (hN.out.lt k hk).2, Nat.le_refl _, h1⟩
            have HEO : Hid (OwnI wq (w.heap.size + 2) W5.heap.size vo (steadyOut out)) := by
              rw [HSO.out]
              exact hO.out
            obtain ⟨an1, cn1, hv1, _⟩ := hN.out.form
            obtain ⟨ao1, co1, hv2⟩ := hO.out.form
            rw [hus] at hv1
            rw [hol] at hv2
            subst hv1; subst hv2
            have p0 := hC.out.c0
            have p1 := hC.out.c1
            have p2 := hC.out.c2
            have p3 := hC.out.f
            have z0 := hZ.out.c0
            have z1 := hZ.out.c1
            have z2 := hZ.out.c2
            have z3 := hZ.out.f
            clear hus hol hR hN hO
            go_wp2
            have hZ3 := (((hZ.out.set0 (.int .i64 n)).set1 (.slice an1 (steadyRows rows).length cn1)).set2 (.slice ao1 (steadyOut out).length co1))
            have m0 := hZ3.c0
            have m1 := hZ3.c1
            have m2 := hZ3.c2
            refine bodyPost_ret (v := .tuple #[.agg #[.int .i64 n, .slice an1 (steadyRows rows).length cn1, .slice ao1 (steadyOut out).length co1], .bool true]) (by simp [results, Try.results51, go_sem, m0, m1, m2]) rfl ⟨_, rfl, ?_, ?_⟩
            · have T0 : Plain.Touch w.heap.size (w.heap.size + 2) wq (((wq.setCell ⟨w.heap.size + 1, 0, none⟩ (.int .i64 n)).setCell ⟨w.heap.size + 1, 1, none⟩ (.slice an1 (steadyRows rows).length cn1)).setCell ⟨w.heap.size + 1, 2, none⟩ (.slice ao1 (steadyOut out).length co1)) :=
                ((Plain.Touch.of_set _ (by show _ ≤ _ + 1; omega) (by show _ + 1 < _; omega)).trans (Plain.Touch.of_set _ (by show _ ≤ _ + 1; omega) (by show _ + 1 < _; omega))).trans (Plain.Touch.of_set _ (by show _ ≤ _ + 1; omega) (by show _ + 1 < _; omega))
              have hS1 : OwnS wq (w.heap.size + 2) wq.heap.size (.agg #[.int .i64 n, .slice an1 (steadyRows rows).length cn1, .slice ao1 (steadyOut out).length co1]) n (steadyRows rows) (steadyOut out) := OwnS.make_out HEO.out HE.out (Nat.le_refl _) hM2 hS.out
              have := (hS1.touch T0 (.inr (Nat.le_refl _))).lower (show w.heap.size ≤ w.heap.size + 2 by omega)
              simpa only [size_setCell'] using this
            · exact ((hB.out.setCell (by show _ ≤ _ + 1; omega) _).setCell (by show _ ≤ _ + 1; omega) _).setCell (by show _ ≤ _ + 1; omega) _

end Seqs
end Go.Proofs.Ythnmighlgifoeaa
