/- Several texts of this proof, one behind the other: each says ahead of it what it shows and under which conditions. -/
import Derived.Test.YtodnkkofammhbaaCM1
import Derived.Test.YtodnkkofammhbaaCM3
import Derived.Test.YtodnkkofammhbaaCM4
import Derived.Deep.DeepCutAuto
import Derived.Deep.RegionHeld3
import Derived.BigQuiet
import Derived.Laws.StructEq
import Derived.Test.YtodnkkofammhbaaCM2
/- Contract of the model's SteadyForm. No conditions beyond those that each states. -/
namespace Go.Proofs.Ytodnkkofammhbaa
open Go.ChangeShapes Go.WideShapes Go.ChangeAt Go.RowKit
open Go.PlainAid Plain
set_option linter.unusedVariables false
namespace Seqs
open Digits

theorem spec_form_no (v : Value) (b : Int) (rows : List (List Int)) (out : List Int) (w : World) (h : LiesS w v b rows out) (hno : formK b rows out = false) :
    Calls Try.prog 49 #[v] w (GivesK 0 [] [] false w) := by
  have HS := Lib.hid h
  obtain ⟨an, cn, ao, co, rfl⟩ := h.form
  clear h
  have hst : steadyB b rows out = false := by simp [formK] at hno; exact hno.1
  have HST := Lib.hid hst
  have hB : Below w.heap.size w ((w.alloc (Obj.cells #[Value.int .i64 b, Value.slice an rows.length cn, Value.slice ao out.length co] 27)).alloc (Obj.cells #[Value.int .i64 0, Value.slice none 0 0, Value.slice none 0 0] 27)) := ((Below.refl _ _).alloc (Nat.le_refl _) _).alloc (by simp) _
  have hA0 := Lib.hid ((Cells3.new w 27 (.int .i64 b) (.slice an rows.length cn) (.slice ao out.length co)).alloc (Obj.cells #[Value.int .i64 0, Value.slice none 0 0, Value.slice none 0 0] 27))
  have hZ0 := Lib.hid (Cells3.new (w.alloc (Obj.cells #[Value.int .i64 b, Value.slice an rows.length cn, Value.slice ao out.length co] 27)) 27 (.int .i64 0) (.slice none 0 0) (.slice none 0 0))
  rw [size_alloc'] at hZ0
  have HB0 := Lib.hid hB
  have hs0 : w.heap.size + 2 ≤ ((w.alloc (Obj.cells #[Value.int .i64 b, Value.slice an rows.length cn, Value.slice ao out.length co] 27)).alloc (Obj.cells #[Value.int .i64 0, Value.slice none 0 0, Value.slice none 0 0] 27)).heap.size := by simp
  clear hB
  cases hq : seqB b rows out with
  | false =>
    have HQ := Lib.hid hq
    clear hq hno hst
    go_enter Try.func49, Try.ntmps49
    go_wp2_with fail
    refine (spec_is _ b rows out _ (HS.out.below HB0.out)).mono ?_
    rintro e W1 ⟨rfl, b1⟩
    rw [HQ.out]
    have HB1 := Lib.hid (HB0.out.trans (b1.mono HB0.out.size))
    have hA1 := Lib.hid (hA0.out.below b1)
    have hZ1 := Lib.hid (hZ0.out.below b1)
    have hs1 : w.heap.size + 2 ≤ W1.heap.size := Nat.le_trans hs0 b1.size
    clear b1 HB0 hA0 hZ0
    have k0 := hA1.out.c0
    have k1 := hA1.out.c1
    have k2 := hA1.out.c2
    have HB2 := HB1
    have hZ2 := hZ1
    have z0 := hZ2.out.c0
    have z1 := hZ2.out.c1
    have z2 := hZ2.out.c2
    have z3 := hZ2.out.f
    go_wp2
    have m0 := (((hZ2.out.set0 (.int .i64 0)).set1 (.slice none 0 0)).set2 (.slice none 0 0)).c0
    have m1 := (((hZ2.out.set0 (.int .i64 0)).set1 (.slice none 0 0)).set2 (.slice none 0 0)).c1
    have m2 := (((hZ2.out.set0 (.int .i64 0)).set1 (.slice none 0 0)).set2 (.slice none 0 0)).c2
    refine bodyPost_ret (v := .tuple #[.agg #[.int .i64 0, .slice none 0 0, .slice none 0 0], .bool false]) (by simp [results, Try.results49, go_sem, m0, m1, m2]) rfl ⟨_, rfl, OwnS.zero _, ?_⟩
    exact ((HB2.out.setCell (by show _ ≤ _ + 1; omega) _).setCell (by show _ ≤ _ + 1; omega) _).setCell (by show _ ≤ _ + 1; omega) _
  | true =>
    have hl : rows.length = 16 := by
      have h1 := seqB_out hq
      simp [formK, hq] at hno
      have := h1.2.2.2.1
      omega
    have HQ := Lib.hid hq
    have hd := decide_eq_true (show 16 ≤ (rows.length : Int) by omega)
    clear hq hno hst hl
    go_enter Try.func49, Try.ntmps49
    go_wp2_with fail
    refine (spec_is _ b rows out _ (HS.out.below HB0.out)).mono ?_
    rintro e W1 ⟨rfl, b1⟩
    rw [HQ.out]
    have HB1 := Lib.hid (HB0.out.trans (b1.mono HB0.out.size))
    have hA1 := Lib.hid (hA0.out.below b1)
    have hZ1 := Lib.hid (hZ0.out.below b1)
    have hs1 : w.heap.size + 2 ≤ W1.heap.size := Nat.le_trans hs0 b1.size
    clear b1 HB0 hA0 hZ0
    have k0 := hA1.out.c0
    have k1 := hA1.out.c1
    have k2 := hA1.out.c2
    go_wp2_with fail
    refine (spec_steady _ b rows out _ (HS.out.below HB1.out)).mono ?_
    rintro e W2 ⟨rfl, b1⟩
    rw [HST.out]
    have HB2 := Lib.hid (HB1.out.trans (b1.mono HB1.out.size))
    have hA2 := Lib.hid (hA1.out.below b1)
    have hZ2 := Lib.hid (hZ1.out.below b1)
    have hs2 : w.heap.size + 2 ≤ W2.heap.size := Nat.le_trans hs1 b1.size
    clear b1 HB1 hA1 hZ1
    have k0 := hA2.out.c0
    have k1 := hA2.out.c1
    have k2 := hA2.out.c2
    have z0 := hZ2.out.c0
    have z1 := hZ2.out.c1
    have z2 := hZ2.out.c2
    have z3 := hZ2.out.f
    go_wp2
    have m0 := (((hZ2.out.set0 (.int .i64 0)).set1 (.slice none 0 0)).set2 (.slice none 0 0)).c0
    have m1 := (((hZ2.out.set0 (.int .i64 0)).set1 (.slice none 0 0)).set2 (.slice none 0 0)).c1
    have m2 := (((hZ2.out.set0 (.int .i64 0)).set1 (.slice none 0 0)).set2 (.slice none 0 0)).c2
    refine bodyPost_ret (v := .tuple #[.agg #[.int .i64 0, .slice none 0 0, .slice none 0 0], .bool false]) (by simp [results, Try.results49, go_sem, m0, m1, m2]) rfl ⟨_, rfl, OwnS.zero _, ?_⟩
    exact ((HB2.out.setCell (by show _ ≤ _ + 1; omega) _).setCell (by show _ ≤ _ + 1; omega) _).setCell (by show _ ≤ _ + 1; omega) _
set_option maxHeartbeats 1000000 in
theorem spec_form_same (v : Value) (b : Int) (rows : List (List Int)) (out : List Int) (w : World) (h : LiesS w v b rows out) (hst : steadyB b rows out = true) (hs : rows.length + tot rows + out.length ≤ 1048576) :
    Calls Try.prog 49 #[v] w (GivesK b rows out true w) := by
  have HS := Lib.hid h
  obtain ⟨an, cn, ao, co, rfl⟩ := h.form
  clear h
  have hq : seqB b rows out = true := by rw [steadyB, Bool.and_eq_true] at hst; exact hst.1
  have HST := Lib.hid hst
  have HQ := Lib.hid hq
  clear hst hq
  have hB : Below w.heap.size w ((w.alloc (Obj.cells #[Value.int .i64 b, Value.slice an rows.length cn, Value.slice ao out.length co] 27)).alloc (Obj.cells #[Value.int .i64 0, Value.slice none 0 0, Value.slice none 0 0] 27)) := ((Below.refl _ _).alloc (Nat.le_refl _) _).alloc (by simp) _
  have hA0 := Lib.hid ((Cells3.new w 27 (.int .i64 b) (.slice an rows.length cn) (.slice ao out.length co)).alloc (Obj.cells #[Value.int .i64 0, Value.slice none 0 0, Value.slice none 0 0] 27))
  have hZ0 := Lib.hid (Cells3.new (w.alloc (Obj.cells #[Value.int .i64 b, Value.slice an rows.length cn, Value.slice ao out.length co] 27)) 27 (.int .i64 0) (.slice none 0 0) (.slice none 0 0))
  rw [size_alloc'] at hZ0
  have HB0 := Lib.hid hB
  have hs0 : w.heap.size + 2 ≤ ((w.alloc (Obj.cells #[Value.int .i64 b, Value.slice an rows.length cn, Value.slice ao out.length co] 27)).alloc (Obj.cells #[Value.int .i64 0, Value.slice none 0 0, Value.slice none 0 0] 27)).heap.size := by simp
  clear hB

  by_cases hl : rows.length = 16
  · have hd := decide_eq_true (show 16 ≤ (rows.length : Int) by omega)
    clear hl
    go_enter Try.func49, Try.ntmps49
    go_wp2_with fail
    refine (spec_is _ b rows out _ (HS.out.below HB0.out)).mono ?_
    rintro e W1 ⟨rfl, b1⟩
    rw [HQ.out]
    have HB1 := Lib.hid (HB0.out.trans (b1.mono HB0.out.size))
    have hA1 := Lib.hid (hA0.out.below b1)
    have hZ1 := Lib.hid (hZ0.out.below b1)
    have hs1 : w.heap.size + 2 ≤ W1.heap.size := Nat.le_trans hs0 b1.size
    clear b1 HB0 hA0 hZ0
    have k0 := hA1.out.c0
    have k1 := hA1.out.c1
    have k2 := hA1.out.c2
    go_wp2_with fail
    refine (spec_steady _ b rows out _ (HS.out.below HB1.out)).mono ?_
    rintro e W2 ⟨rfl, b1⟩
    rw [HST.out]
    have HB2 := Lib.hid (HB1.out.trans (b1.mono HB1.out.size))
    have hA2 := Lib.hid (hA1.out.below b1)
    have hZ2 := Lib.hid (hZ1.out.below b1)
    have hs2 : w.heap.size + 2 ≤ W2.heap.size := Nat.le_trans hs1 b1.size
    clear b1 HB1 hA1 hZ1
    have k0 := hA2.out.c0
    have k1 := hA2.out.c1
    have k2 := hA2.out.c2
    go_wp2_with fail
    refine (spec_steady _ b rows out _ (HS.out.below HB2.out)).mono ?_
    rintro e W3 ⟨rfl, b1⟩
    rw [HST.out]
    have HB3 := Lib.hid (HB2.out.trans (b1.mono HB2.out.size))
    have hA3 := Lib.hid (hA2.out.below b1)
    have hZ3 := Lib.hid (hZ2.out.below b1)
    have hs3 : w.heap.size + 2 ≤ W3.heap.size := Nat.le_trans hs2 b1.size
    clear b1 HB2 hA2 hZ2
    have k0 := hA3.out.c0
    have k1 := hA3.out.c1
    have k2 := hA3.out.c2
    go_wp2_with fail
    refine (spec_copied _ b rows out _ (HS.out.below HB3.out) hs).mono ?_
    rintro e WE ⟨v2, rfl, ho, b1⟩
    obtain ⟨a1, c1, a2, c2, rfl⟩ := ho.form
    have HBE := Lib.hid (HB3.out.trans (b1.mono HB3.out.size))
    have hZE := Lib.hid (hZ3.out.below b1)
    have HO := Lib.hid ho
    clear b1 HB3 hA3 hZ3 k0 k1 k2 ho
    have z0 := hZE.out.c0
    have z1 := hZE.out.c1
    have z2 := hZE.out.c2
    have z3 := hZE.out.f
    go_wp2
    have hZ3 := (((hZE.out.set0 (.int .i64 b)).set1 (.slice a1 rows.length c1)).set2 (.slice a2 out.length c2))
    have m0 := hZ3.c0
    have m1 := hZ3.c1
    have m2 := hZ3.c2
    refine bodyPost_ret (v := .tuple #[.agg #[.int .i64 b, .slice a1 rows.length c1, .slice a2 out.length c2], .bool true]) (by simp [results, Try.results49, go_sem, m0, m1, m2]) rfl ⟨_, rfl, ?_, ?_⟩
    · have T0 : Plain.Touch w.heap.size (w.heap.size + 2) WE (((WE.setCell ⟨w.heap.size + 1, 0, none⟩ (.int .i64 b)).setCell ⟨w.heap.size + 1, 1, none⟩ (.slice a1 rows.length c1)).setCell ⟨w.heap.size + 1, 2, none⟩ (.slice a2 out.length c2)) :=
        ((Plain.Touch.of_set _ (by show _ ≤ _ + 1; omega) (by show _ + 1 < _; omega)).trans (Plain.Touch.of_set _ (by show _ ≤ _ + 1; omega) (by show _ + 1 < _; omega))).trans (Plain.Touch.of_set _ (by show _ ≤ _ + 1; omega) (by show _ + 1 < _; omega))
      have := (HO.out.touch T0 (.inr hs3)).lower (show w.heap.size ≤ W3.heap.size by omega)
      simpa only [size_setCell'] using this
    · exact ((HBE.out.setCell (by show _ ≤ _ + 1; omega) _).setCell (by show _ ≤ _ + 1; omega) _).setCell (by show _ ≤ _ + 1; omega) _
  · have hl2 : rows.length < 16 := by
      have := (seqB_out HQ.out).2.2.2.1
      omega
    have hd := decide_eq_false (show ¬ 16 ≤ (rows.length : Int) by omega)
    clear hl
    go_enter Try.func49, Try.ntmps49
    go_wp2_with fail
    refine (spec_is _ b rows out _ (HS.out.below HB0.out)).mono ?_
    rintro e W1 ⟨rfl, b1⟩
    rw [HQ.out]
    have HB1 := Lib.hid (HB0.out.trans (b1.mono HB0.out.size))
    have hA1 := Lib.hid (hA0.out.below b1)
    have hZ1 := Lib.hid (hZ0.out.below b1)
    have hs1 : w.heap.size + 2 ≤ W1.heap.size := Nat.le_trans hs0 b1.size
    clear b1 HB0 hA0 hZ0
    have k0 := hA1.out.c0
    have k1 := hA1.out.c1
    have k2 := hA1.out.c2
    go_wp2_with fail
    refine (spec_steady _ b rows out _ (HS.out.below HB1.out)).mono ?_
    rintro e W2 ⟨rfl, b1⟩
    rw [HST.out]
    have HB2 := Lib.hid (HB1.out.trans (b1.mono HB1.out.size))
    have hA2 := Lib.hid (hA1.out.below b1)
    have hZ2 := Lib.hid (hZ1.out.below b1)
    have hs2 : w.heap.size + 2 ≤ W2.heap.size := Nat.le_trans hs1 b1.size
    clear b1 HB1 hA1 hZ1
    have k0 := hA2.out.c0
    have k1 := hA2.out.c1
    have k2 := hA2.out.c2
    go_wp2_with fail
    refine (spec_copied _ b rows out _ (HS.out.below HB2.out) hs).mono ?_
    rintro e WE ⟨v2, rfl, ho, b1⟩
    obtain ⟨a1, c1, a2, c2, rfl⟩ := ho.form
    have HBE := Lib.hid (HB2.out.trans (b1.mono HB2.out.size))
    have hZE := Lib.hid (hZ2.out.below b1)
    have HO := Lib.hid ho
    clear b1 HB2 hA2 hZ2 k0 k1 k2 ho
    have z0 := hZE.out.c0
    have z1 := hZE.out.c1
    have z2 := hZE.out.c2
    have z3 := hZE.out.f
    go_wp2
    have hZ3 := (((hZE.out.set0 (.int .i64 b)).set1 (.slice a1 rows.length c1)).set2 (.slice a2 out.length c2))
    have m0 := hZ3.c0
    have m1 := hZ3.c1
    have m2 := hZ3.c2
    refine bodyPost_ret (v := .tuple #[.agg #[.int .i64 b, .slice a1 rows.length c1, .slice a2 out.length c2], .bool true]) (by simp [results, Try.results49, go_sem, m0, m1, m2]) rfl ⟨_, rfl, ?_, ?_⟩
    · have T0 : Plain.Touch w.heap.size (w.heap.size + 2) WE (((WE.setCell ⟨w.heap.size + 1, 0, none⟩ (.int .i64 b)).setCell ⟨w.heap.size + 1, 1, none⟩ (.slice a1 rows.length c1)).setCell ⟨w.heap.size + 1, 2, none⟩ (.slice a2 out.length c2)) :=
        ((Plain.Touch.of_set _ (by show _ ≤ _ + 1; omega) (by show _ + 1 < _; omega)).trans (Plain.Touch.of_set _ (by show _ ≤ _ + 1; omega) (by show _ + 1 < _; omega))).trans (Plain.Touch.of_set _ (by show _ ≤ _ + 1; omega) (by show _ + 1 < _; omega))
      have := (HO.out.touch T0 (.inr hs2)).lower (show w.heap.size ≤ W2.heap.size by omega)
      simpa only [size_setCell'] using this
    · exact ((HBE.out.setCell (by show _ ≤ _ + 1; omega) _).setCell (by show _ ≤ _ + 1; omega) _).setCell (by show _ ≤ _ + 1; omega) _

theorem raise_snoc (l : List Int) (k : Nat) (x : Int) (h : l[k]? = some x) : raise (l.take (k + 1)) = raise (l.take k) ++ [x + 1] := by
  obtain ⟨h1, rfl⟩ := List.getElem?_eq_some_iff.1 h
  rw [List.take_succ_eq_append_getElem h1]
  simp only [raise, List.map_append, List.map_cons, List.map_nil]
set_option maxRecDepth 100000 in
set_option maxHeartbeats 4000000 in
theorem spec_form_make (v : Value) (b : Int) (rows : List (List Int)) (out : List Int) (w : World) (h : LiesS w v b rows out) (hq : seqB b rows out = true) (hst : steadyB b rows out = false) (hlen : rows.length < 16) :
    Calls Try.prog 49 #[v] w (GivesK b (steadyRows rows) (steadyOut out) true w) := by
  obtain ⟨i0, hi, hzA0, hzA1, hzA2⟩ := info_parts infoR
  obtain ⟨i1, hi1, hzB0, hzB1, hzB2⟩ := info_parts Ints.infoI
  have HS := Lib.hid h
  obtain ⟨an, cn, ao, co, rfl, hN, hO⟩ := liesS_open h
  have HN := Lib.hid hN
  have HO := Lib.hid hO
  clear h hN hO
  have HST := Lib.hid hst
  have HQ := Lib.hid hq
  have hv := seqB_out hq
  have hr1 : 0 < rows.length := by have := hv.2.2.1; omega
  have hol : out.length = rows.length := hv.2.2.2.2.1
  obtain ⟨bn, hbn⟩ : ∃ n : Nat, b = (n : Int) := ⟨b.toNat, by have := hv.1; omega⟩
  have hb2 : 2 ≤ bn := by have := hv.1; omega
  have hb4 : bn ≤ 4 := by have := hv.2.1; omega
  have HROW := Lib.hid (fun (i : Nat) (r : List Int) (hr : rows[i]? = some r) => hv.2.2.2.2.2.1 r (List.mem_of_getElem? hr))
  obtain ⟨o0, ho0⟩ : ∃ o0, out[0]? = some o0 := ⟨_, List.getElem?_eq_getElem (by omega)⟩
  obtain ⟨r0, hr0⟩ : ∃ r0, rows[0]? = some r0 := ⟨_, List.getElem?_eq_getElem hr1⟩
  have HO0 := Lib.hid ho0
  have HR0 := Lib.hid hr0
  have HSR := Lib.hid (show steadyRows rows = (0 :: raise (r0.drop 1)) :: rows.map raise by rw [steadyRows, List.getD_eq_getElem?_getD, hr0]; rfl)
  have HSO := Lib.hid (show steadyOut out = o0 :: out by rw [steadyOut, List.getD_eq_getElem?_getD, ho0]; rfl)
  have HOL := Lib.hid hol
  have hd := decide_eq_false (show ¬ 16 ≤ (rows.length : Int) by omega)
  subst hbn
  clear hst hq hv ho0 hr0 hol
  have hB : Below w.heap.size w ((w.alloc (Obj.cells #[Value.int .i64 bn, Value.slice an rows.length cn, Value.slice ao out.length co] 27)).alloc (Obj.cells #[Value.int .i64 0, Value.slice none 0 0, Value.slice none 0 0] 27)) := ((Below.refl _ _).alloc (Nat.le_refl _) _).alloc (by simp) _
  have hA0 := Lib.hid ((Cells3.new w 27 (.int .i64 bn) (.slice an rows.length cn) (.slice ao out.length co)).alloc (Obj.cells #[Value.int .i64 0, Value.slice none 0 0, Value.slice none 0 0] 27))
  have hZ0 := Lib.hid (Cells3.new (w.alloc (Obj.cells #[Value.int .i64 bn, Value.slice an rows.length cn, Value.slice ao out.length co] 27)) 27 (.int .i64 0) (.slice none 0 0) (.slice none 0 0))
  rw [size_alloc'] at hZ0
  have HB0 := Lib.hid hB
  have hs0 : w.heap.size + 2 ≤ ((w.alloc (Obj.cells #[Value.int .i64 bn, Value.slice an rows.length cn, Value.slice ao out.length co] 27)).alloc (Obj.cells #[Value.int .i64 0, Value.slice none 0 0, Value.slice none 0 0] 27)).heap.size := by simp
  clear hB
  go_enter Try.func49, Try.ntmps49
  go_wp2_with fail
  refine (spec_is _ (bn : Int) rows out _ (HS.out.below HB0.out)).mono ?_
  rintro e W1 ⟨rfl, b1⟩
  rw [HQ.out]
  have HB1 := Lib.hid (HB0.out.trans (b1.mono HB0.out.size))
  have hA1 := Lib.hid (hA0.out.below b1)
  have hZ1 := Lib.hid (hZ0.out.below b1)
  have hs1 : w.heap.size + 2 ≤ W1.heap.size := Nat.le_trans hs0 b1.size
  clear b1 HB0 hA0 hZ0
  have k0 := hA1.out.c0
  have k1 := hA1.out.c1
  have k2 := hA1.out.c2
  go_wp2_with fail
  refine (spec_steady _ (bn : Int) rows out _ (HS.out.below HB1.out)).mono ?_
  rintro e W2 ⟨rfl, b1⟩
  rw [HST.out]
  have HB2 := Lib.hid (HB1.out.trans (b1.mono HB1.out.size))
  have hA2 := Lib.hid (hA1.out.below b1)
  have hZ2 := Lib.hid (hZ1.out.below b1)
  have hs2 : w.heap.size + 2 ≤ W2.heap.size := Nat.le_trans hs1 b1.size
  clear b1 HB1 hA1 hZ1
  have k0 := hA2.out.c0
  have k1 := hA2.out.c1
  have k2 := hA2.out.c2
  have hoc : ∃ po oo, ao = some ⟨po, oo, none⟩ ∧ W2.cell? ⟨po, oo, none⟩ = some (.int .i64 o0) ∧ po < w.heap.size := by
    obtain ⟨_, ao', co', hv0, _, hco'⟩ := HO.out
    injection hv0 with e1 e2 e3
    subst e1
    obtain ⟨po', oo', h1, h2⟩ := hco' 0 o0 HO0.out
    rw [Nat.add_zero] at h2
    exact ⟨po', oo', h1, (HB2.out.cell (p := ⟨po', oo', none⟩) (World.block_lt_of_cell? w _ h2)).trans h2, World.block_lt_of_cell? w _ h2⟩
  obtain ⟨po, oo, rfl, hoc, hpo⟩ := hoc
  have HOC := Lib.hid hoc
  have hol : 0 < out.length := by have := HOL.out; omega
  have HOW := Lib.hid (HO.out.below HB2.out)
  have HOLL := Lib.hid (show ([o0].length + out.length) * 8 ≤ 140737488355328 ∧ [o0].length + out.length ≤ 9223372036854775807 by have := HOL.out; simp; omega)
  clear hoc
  go_wp2_with fail
  go_cut [4] (fun s wx => ∃ (p : Nat) (vo : Value), s = .pointer (some ⟨p, 0, none⟩) ∧ Hid (w.heap.size + 2 ≤ p ∧ p < wx.heap.size) ∧ Hid (Cells3 wx p 27 (.int .i64 bn) (.slice none 0 0) vo) ∧ Hid (OwnI wx (w.heap.size + 2) wx.heap.size vo (o0 :: out)) ∧ Hid (Cells3 wx w.heap.size 27 (.int .i64 bn) (.slice an rows.length cn) (.slice (some ⟨po, oo, none⟩) out.length co)) ∧ Hid (Cells3 wx (w.heap.size + 1) 27 (.int .i64 0) (.slice none 0 0) (.slice none 0 0)) ∧ Hid (Below w.heap.size w wx))
  case first =>
    go_region_held3 (fun w' => w'.cell? ⟨w.heap.size, 0, none⟩ = some (.int .i64 bn) ∧ w'.cell? ⟨w.heap.size, 1, none⟩ = some (.slice an rows.length cn) ∧ w'.cell? ⟨w.heap.size, 2, none⟩ = some (.slice (some ⟨po, oo, none⟩) out.length co) ∧ w'.cell? ⟨po, oo, none⟩ = some (.int .i64 o0))
      ((refine copy_held (w := w) (wo := W2) (t := 27) hA2.out hpo HOC.out ?_; repeat (first | with_reducible exact Below.refl _ _ | with_reducible exact hbw | with_reducible apply Below.drew | (with_reducible refine Below.alloc ?_ ?_ _; rotate_left; focus (first | exact hs2 | exact Nat.le_trans hs2 hbw.size | omega | (simp; omega))) | (with_reducible refine Below.setCell ?_ ?_ _; rotate_left; focus (simp; omega)))))
      ((refine step_append_list (enc := Value.int .i64) (e := 3) rfl (.tmp 35) (.tmp 37) 25 rfl W2.heap.size i1 (.int .i64 0) 8 Try.underlying25 hi1 hzB0 hzB1 hzB2 rfl (Value.slice (some ⟨_, 0, none⟩) 1 1) [o0] rfl (by repeat (first | with_reducible apply has_drew | ((with_reducible refine has_lit1 (enc := Value.int .i64) _ ?_ ?_) <;> (first | rfl | exact Nat.le_refl _ | omega | (simp; done) | (simp; omega))) | with_reducible apply has_alloc)) (Value.slice (some ⟨po, oo, none⟩) out.length co) out rfl (by repeat (first | with_reducible exact HOW.out | with_reducible apply lies_drew | with_reducible apply lies_alloc)) (fun _ _ => rfl) HOLL.out.1 HOLL.out.2 (by simp <;> omega) ?_; intro vo w1 ho hg; obtain ⟨av, cv, hvf, _⟩ := ho.form; rw [show ([o0] ++ out).length = out.length + 1 from by simp] at hvf; subst hvf; rw [List.singleton_append] at ho; refine with_fact (T := W2.grownBy w1 (some W2.heap.size) ∨ W2.grownBy w1 (some (W2.heap.size + 1))) ?_ ?_; (focus (first | exact Or.inl (grown_alloc (grown_drew hg)) | exact Or.inl (grown_alloc (grown_alloc (grown_drew hg))) | exact Or.inr (grown_alloc (grown_alloc (grown_drew hg))))); intro hgW; have hbw : Below (w.heap.size + 2) W2 w1 := grown_below2 hgW hs2; (first | (refine with_fact (T := Cells3 w1 (W2.heap.size) 27 (.int .i64 0) (.slice none 0 0) (.slice none 0 0)) ?_ ?_; (refine Cells3.grown ?_ hg ?_; (focus ((repeat (first | with_reducible apply c3_drew | ((with_reducible refine c3_new' ?_) <;> (first | rfl | (simp; done))) | with_reducible apply Cells3.alloc)); done)); (focus (simp [Value.ownBlock]; done))); intro hZ1; have q0 := hZ1.c0; have q1 := hZ1.c1; have q2 := hZ1.c2; have q3 := hZ1.f) | (refine with_fact (T := Cells3 w1 (W2.heap.size + 1) 27 (.int .i64 0) (.slice none 0 0) (.slice none 0 0)) ?_ ?_; (refine Cells3.grown ?_ hg ?_; (focus ((repeat (first | with_reducible apply c3_drew | ((with_reducible refine c3_new' ?_) <;> (first | rfl | (simp; done))) | with_reducible apply Cells3.alloc)); done)); (focus (simp [Value.ownBlock]; done))); intro hZ1; have q0 := hZ1.c0; have q1 := hZ1.c1; have q2 := hZ1.c2; have q3 := hZ1.f) | skip)))
    all_goals
      have HA1 := Lib.hid (c3_of_below hbw hA2.out (by omega))
      have HZ1 := Lib.hid (c3_of_below hbw hZ2.out (by omega))
      have HB1 := Lib.hid (HB2.out.trans (hbw.mono (by omega)))
      have HS1 := Lib.hid (Nat.le_trans hs2 hbw.size)
      have HS2 := Lib.hid hbw.size
      have HO1 := Lib.hid ((own_of_has ho).mono hs2 (Nat.le_refl _) (Nat.le_refl _))
      clear hgW hg ho hbw
    · go_wp2_with fail
      go_meet
      refine ⟨_, _, rfl, ⟨HS1.out, ?_⟩, c3_new' rfl, (HO1.out.below ((Below.refl _ _).alloc (Nat.le_refl _) _)).mono (Nat.le_refl _) (by simp) (Nat.le_refl _), HA1.out.alloc _, HZ1.out.alloc _, HB1.out.alloc HB1.out.size _⟩
      simp
    all_goals
      have HC1 := Lib.hid hZ1
      have HNE := Lib.hid (has_ne_c3 HO1.out.has hZ1 (by decide))
      clear hZ1 q0 q1 q2 q3
      go_wp2_with fail
      go_meet
      refine ⟨_, _, rfl, ⟨by omega, by simpa [World.setCell] using HC1.out.lt⟩, ((HC1.out.set0 _).set1 _).set2 _, (((HO1.out.set HNE.out _).set HNE.out _).set HNE.out _).mono (Nat.le_refl _) (by simp [World.setCell]) (Nat.le_refl _), ((HA1.out.other ?_ _).other ?_ _).other ?_ _, ((HZ1.out.other ?_ _).other ?_ _).other ?_ _, ((HB1.out.setCell ?_ _).setCell ?_ _).setCell ?_ _⟩
      all_goals first | (show W2.heap.size ≠ _; omega) | (show W2.heap.size + 1 ≠ _; omega) | (show _ ≤ W2.heap.size; omega) | (show _ ≤ W2.heap.size + 1; omega)
  case rest =>
    obtain ⟨p, vo, rfl, hp, hC, hO, hA, hZ, hB⟩ := hcut
    obtain ⟨W5, rfl⟩ : ∃ W, W = wc := ⟨_, rfl⟩
    have hR0 := HROW.out 0 r0 HR0.out
    have hr0l : r0.length = bn := by omega
    obtain ⟨pa, off, rfl⟩ : ∃ pa off, an = some ⟨pa, off, none⟩ := by
      obtain ⟨a, cap, hv, _, hc⟩ := HN.out.row
      obtain ⟨b', o', u', h1, _⟩ := hc 0 r0 HR0.out
      injection hv with e1 e2 e3
      exact ⟨b', o', by rw [e1, h1]⟩
    obtain ⟨q0, s0, c0, hcell0, hrow0, hpa, hq0⟩ := row_at HN.out HR0.out (by omega)
    rw [Nat.add_zero] at hcell0
    have HCE0 := Lib.hid hcell0
    have HRO0 := Lib.hid hrow0
    have HX0 := Lib.hid hR0.2
    have hp1 := hp.out.1
    have hp2 := hp.out.2
    have hM2 : w.heap.size + 2 ≤ W5.heap.size := by omega
    have hl0 : 0 < rows.length := hr1
    clear hR0 hcell0 hrow0 hp hr1
    have k0 := hA.out.c0
    have k1 := hA.out.c1
    have k2 := hA.out.c2
    go_wp2_with fail
    have HV5 : Hid (Has (Value.int .i64) 3 (W5.alloc (Obj.cells #[Value.int .i64 0] 3)) W5.heap.size (.slice (some ⟨W5.heap.size, 0, none⟩) 1 1) (0 :: raise ((r0.drop 1).take (1 - 1)))) := has_lit1 (enc := Value.int .i64) 0 rfl (Nat.le_refl _)
    have HB5 : Hid (Below W5.heap.size W5 (W5.alloc (Obj.cells #[Value.int .i64 0] 3))) := below_allocs (Below.refl _ _)
    clear k0 k1 k2
    go_loopw [5, 6] (fun t5 t6 wr => ∃ n : Nat, 1 ≤ n ∧ n ≤ bn ∧ t6 = .int .i64 n ∧ Hid (Has (Value.int .i64) 3 wr W5.heap.size t5 (0 :: raise ((r0.drop 1).take (n - 1)))) ∧ Hid (Below W5.heap.size W5 wr)) (fun _ t6 _ => bn - (intOf t6).toNat)
    case atStart => exact ⟨1, by omega, by omega, rfl, HV5, HB5⟩
    case round =>
      clear HV5 HB5
      obtain ⟨n, hn1, hnb, rfl, hown, hbel⟩ := hrel
      obtain ⟨wo, rfl⟩ : ∃ wo : World, wo = wr := ⟨_, rfl⟩
      have hA' := c3_of_below hbel.out hA.out (by omega)
      have hBw := Lib.hid (hB.out.trans (hbel.out.mono (by omega)))
      have k0 := hA'.c0
      have k1 := hA'.c1
      have k2 := hA'.c2
      by_cases hlt : n < bn
      · obtain ⟨x, hx⟩ : ∃ x, r0[n]? = some x := ⟨_, List.getElem?_eq_getElem (by omega)⟩
        have hxb := HX0.out x (List.mem_of_getElem? hx)
        have hx0 : 0 ≤ x := hxb.1
        have hx1 : x < 16 := by omega
        have c1 : wo.cell? ⟨pa, off, none⟩ = some (.slice (some ⟨q0, s0, none⟩) r0.length c0) := (hBw.out.cell (p := ⟨pa, off, none⟩) hpa).trans HCE0.out
        have c2 : wo.cell? ⟨q0, s0 + n, none⟩ = some (.int .i64 x) := (hBw.out.cell (p := ⟨q0, s0 + n, none⟩) hq0).trans (HRO0.out n x hx)
        have HSN := Lib.hid (show raise ((r0.drop 1).take (n + 1 - 1)) = raise ((r0.drop 1).take (n - 1)) ++ [x + 1] from by
          have h1 := raise_snoc (r0.drop 1) (n - 1) x (by rw [List.getElem?_drop, show 1 + (n - 1) = n from by omega]; exact hx)
          rw [show n - 1 + 1 = n + 1 - 1 from by omega] at h1
          exact h1)
        have HLN := Lib.hid (show ((0 :: raise ((r0.drop 1).take (n - 1))).length + 1) * 8 ≤ 140737488355328 ∧ (0 :: raise ((r0.drop 1).take (n - 1))).length + 1 ≤ 9223372036854775807 from by
          have : (raise ((r0.drop 1).take (n - 1))).length ≤ n - 1 := by rw [raise_len, List.length_take]; omega
          simp only [List.length_cons]
          omega)
        have hnl : n < r0.length := by omega
        clear hx hxb hA'
        go_wp2_with (at_builtin; refine wpList_append_list (enc := Value.int .i64) (e := 3) rfl (.tmp 47) (.tmp 56) 25 rfl W5.heap.size i1 (.int .i64 0) 8 Try.underlying25 hi1 hzB0 hzB1 hzB2 rfl u5 (0 :: raise ((r0.drop 1).take (n - 1))) rfl (has_alloc hown.out _) (Value.slice (some ⟨_, 0, none⟩) 1 1) [x + 1] rfl (lies_lit1 (enc := Value.int .i64) _ rfl) (fun _ _ => rfl) HLN.out.1 HLN.out.2 (by have := hbel.out.size; simp; omega) ?_; intro v5 w2 ho2 hg2 hb2)
        have HB2 := Lib.hid (hbel.out.grown (grown_alloc hg2) hbel.out.size (fun k hk => (hown.out.lt k hk).1))
        have HO2 : Hid (Has (Value.int .i64) 3 w2 W5.heap.size v5 (0 :: raise ((r0.drop 1).take (n + 1 - 1)))) := by
          show Has _ _ _ _ _ _
          rw [HSN.out]
          exact ho2
        clear ho2 hg2 hb2 k0 k1 k2 c1 c2
        go_wp2
        go_roundw
        case rel => exact ⟨n + 1, by omega, by omega, by go_num, HO2, HB2⟩
        case measure => simp [intOf]; omega
      · obtain rfl : n = bn := by omega
        have HV5 : Hid (Has (Value.int .i64) 3 wo W5.heap.size u5 (0 :: raise (r0.drop 1))) := by
          have := hown.out
          rw [show (r0.drop 1).take (n - 1) = r0.drop 1 from List.take_of_length_le (by rw [List.length_drop]; omega)] at this
          exact this
        clear hown
        obtain ⟨a5, c5, hv5, _⟩ := HV5.out.form
        rw [show (0 :: raise (r0.drop 1)).length = n from by rw [List.length_cons, raise_len, List.length_drop]; omega] at hv5
        subst hv5
        have hCo := hC.out.below hbel.out
        have c1 := hCo.c1
        have HCo := Lib.hid hCo
        have HVo := Lib.hid (hO.out.below hbel.out)
        have HZo := Lib.hid (c3_of_below hbel.out hZ.out (by omega))
        have HAo := Lib.hid hA'
        have hso := hbel.out.size
        clear hC hO hA hZ hB hA' hCo hbel hlt hn1 hnb
        go_wp2_with (at_builtin; refine wpList_append_list (enc := id) (e := 25) rfl (.tmp 59) (.tmp 61) 24 rfl W5.heap.size i0 (.slice none 0 0) 24 Try.underlying24 hi hzA0 hzA1 hzA2 rfl (.slice none 0 0) [] rfl (World.ownsRow_nil _ _ _ _) (Value.slice (some ⟨_, 0, none⟩) 1 1) [.slice a5 n c5] rfl (lies_lit1v _ rfl) (fun y hy => by simp at hy; subst hy; rfl) (by simp) (by simp) (by simp; omega) ?_; intro vt w2 ho2 hg2 hb2; rw [List.nil_append] at ho2; obtain ⟨at2, ct2, rfl, _⟩ := ho2.form; have hg3 := grown_alloc hg2; have hc2 := HCo.out.grown hg3 (by simp [Value.ownBlock]); have r1 := hc2.c1; have r3 := hc2.f)
        have HB2 : Hid (Below W5.heap.size wo w2) := (Below.refl W5.heap.size wo).grown hg3 hso (fun k hk => by cases hk)
        have HB2' : Hid (Below wo.heap.size wo w2) := (Below.refl wo.heap.size wo).grown hg3 (Nat.le_refl _) (fun k hk => by cases hk)
        obtain ⟨W7, hW7⟩ : ∃ W, W = w2.setCell ⟨p, 1, none⟩ (.slice at2 1 ct2) := ⟨_, rfl⟩
        have HNE := Lib.hid (has_ne_c3 ho2 hc2 (by decide))
        have HN7 := Lib.hid (ho2.set (a := ⟨p, 1, none⟩) HNE.out (.slice at2 1 ct2))
        have HI5 := Lib.hid ((own_of_has HV5.out).below HB2'.out)
        have HIN := Lib.hid (has_ne_c3 HI5.out.has hc2 (by decide))
        have HR7 : Hid (OwnRows (w2.setCell ⟨p, 1, none⟩ (.slice at2 1 ct2)) W5.heap.size (w2.setCell ⟨p, 1, none⟩ (.slice at2 1 ct2)).heap.size [.slice a5 n c5] ((0 :: raise (r0.drop 1)) :: (rows.take 0).map raise)) :=
          OwnRows.one (((HI5.out.set (a := ⟨p, 1, none⟩) HIN.out (.slice at2 1 ct2))).mono (Nat.le_refl _) (by simpa [World.setCell] using HB2'.out.size) (Nat.le_refl _))
        have HC7 := Lib.hid (hc2.set1 (.slice at2 1 ct2))
        have HO7 := Lib.hid ((HVo.out.touch (Plain.Touch.of_grown_none hg3) (.inr (Nat.zero_le _))))
        have HO7' := Lib.hid (HO7.out.set (a := ⟨p, 1, none⟩) (has_ne_c3 HO7.out.has hc2 (by decide)) (.slice at2 1 ct2))
        have HA7 := Lib.hid ((c3_of_below HB2.out HAo.out (by omega)).other (a := ⟨p, 1, none⟩) (by show p ≠ _; omega) (.slice at2 1 ct2))
        have HZ7 := Lib.hid ((c3_of_below HB2.out HZo.out (by omega)).other (a := ⟨p, 1, none⟩) (by show p ≠ _; omega) (.slice at2 1 ct2))
        have HB7 := Lib.hid ((hBw.out.trans (HB2.out.mono (by omega))).setCell (p := ⟨p, 1, none⟩) (by show _ ≤ p; omega) (.slice at2 1 ct2))
        have HS7 : Hid (W5.heap.size ≤ (w2.setCell ⟨p, 1, none⟩ (.slice at2 1 ct2)).heap.size) := by
          have := HB2.out.size
          show _ ≤ _
          simp only [size_setCell']
          omega
        rw [← hW7] at HN7 HR7 HC7 HO7' HA7 HZ7 HB7 HS7
        clear ho2 hg2 hb2 hg3 hc2 r1 r3 HB2 HB2' HNE HI5 HIN HO7 HVo HZo HAo HCo HV5 c1 k0 k1 k2 hso hBw
        go_wp2_with fail
        rw [← hW7]
        clear hW7
        go_loopw [7] (fun t7 wr => ∃ (i : Nat) (us : List Value) (vn : Value), i ≤ rows.length ∧ t7 = .int .i64 i ∧ Hid (Has id 25 wr W5.heap.size vn us) ∧ Hid (OwnRows wr W5.heap.size wr.heap.size us ((0 :: raise (r0.drop 1)) :: (rows.take i).map raise)) ∧ Hid (Cells3 wr p 27 (.int .i64 n) vn vo) ∧ Hid (OwnI wr (w.heap.size + 2) W5.heap.size vo (o0 :: out)) ∧ Hid (Cells3 wr w.heap.size 27 (.int .i64 n) (.slice (some ⟨pa, off, none⟩) rows.length cn) (.slice (some ⟨po, oo, none⟩) out.length co)) ∧ Hid (Cells3 wr (w.heap.size + 1) 27 (.int .i64 0) (.slice none 0 0) (.slice none 0 0)) ∧ Hid (Below w.heap.size w wr) ∧ Hid (W5.heap.size ≤ wr.heap.size)) (fun t7 _ => rows.length - (intOf t7).toNat)
        case atStart => exact ⟨0, [_], _, Nat.zero_le _, rfl, HN7, HR7, HC7, HO7', HA7, HZ7, HB7, HS7⟩
        case round =>
          clear HN7 HR7 HC7 HO7' HA7 HZ7 HB7 HS7
          obtain ⟨i, us, vn, hile, rfl, hN, hR, hC, hO, hA, hZ, hB, hS⟩ := hrel
          obtain ⟨wq, rfl⟩ : ∃ wq : World, wq = wr := ⟨_, rfl⟩
          have k0 := hA.out.c0
          have k1 := hA.out.c1
          have k2 := hA.out.c2
          by_cases hlt : i < rows.length
          · obtain ⟨r, hr⟩ : ∃ r, rows[i]? = some r := ⟨_, List.getElem?_eq_getElem hlt⟩
            have hrb := HROW.out i r hr
            have hrl : r.length = n := by omega
            obtain ⟨q, s, c, hcell, hrow, _, hq⟩ := row_at HN.out hr (by omega)
            have HX := Lib.hid hrb.2
            have HCE := Lib.hid hcell
            have HRO := Lib.hid hrow
            have HT := Lib.hid (show rows.take (i + 1) = rows.take i ++ [r] from by
              obtain ⟨h1, rfl⟩ := List.getElem?_eq_some_iff.1 hr
              exact List.take_succ_eq_append_getElem h1)
            have hws := hS.out
            clear hr hrb hcell hrow
            go_wp2_with fail
            have HV8 : Hid (Has (Value.int .i64) 3 (wq.alloc (Obj.cells #[] 3)) wq.heap.size (.slice (some ⟨wq.heap.size, 0, none⟩) 0 0) (raise (r.take 0))) := has_lit0 rfl (Nat.le_refl _)
            have HB8 : Hid (Below wq.heap.size wq (wq.alloc (Obj.cells #[] 3))) := below_allocs (Below.refl _ _)
            clear k0 k1 k2
            go_loopw [8, 9] (fun t8 t9 wi => ∃ k : Nat, k ≤ n ∧ t9 = .int .i64 k ∧ Hid (Has (Value.int .i64) 3 wi wq.heap.size t8 (raise (r.take k))) ∧ Hid (Below wq.heap.size wq wi)) (fun _ t9 _ => n - (intOf t9).toNat)
            case atStart => exact ⟨0, by omega, rfl, HV8, HB8⟩
            case round =>
              clear HV8 HB8
              obtain ⟨k, hkn, rfl, hown, hbel⟩ := hrel
              obtain ⟨wi', rfl⟩ : ∃ wi' : World, wi' = wr := ⟨_, rfl⟩
              have hA' := c3_of_below hbel.out hA.out (by omega)
              have hBw := Lib.hid (hB.out.trans (hbel.out.mono (by omega)))
              have k0 := hA'.c0
              have k1 := hA'.c1
              have k2 := hA'.c2
              by_cases hkl : k < n
              · obtain ⟨x, hx⟩ : ∃ x, r[k]? = some x := ⟨_, List.getElem?_eq_getElem (by omega)⟩
                have hxb := HX.out x (List.mem_of_getElem? hx)
                have hx0 : 0 ≤ x := hxb.1
                have hx1 : x < 16 := by omega
                have c1 : wi'.cell? ⟨pa, off + i, none⟩ = some (.slice (some ⟨q, s, none⟩) r.length c) := (hBw.out.cell (p := ⟨pa, off + i, none⟩) hpa).trans HCE.out
                have c2 : wi'.cell? ⟨q, s + k, none⟩ = some (.int .i64 x) := (hBw.out.cell (p := ⟨q, s + k, none⟩) hq).trans (HRO.out k x hx)
                have HSN := Lib.hid (raise_snoc r k x hx)
                have HLN := Lib.hid (show ((raise (r.take k)).length + 1) * 8 ≤ 140737488355328 ∧ (raise (r.take k)).length + 1 ≤ 9223372036854775807 from by
                  have : (raise (r.take k)).length ≤ k := by rw [raise_len, List.length_take]; omega
                  omega)
                have hnl : k < r.length := by omega
                clear hx hxb hA'
                go_wp2_with (at_builtin; refine wpList_append_list (enc := Value.int .i64) (e := 3) rfl (.tmp 78) (.tmp 88) 25 rfl wq.heap.size i1 (.int .i64 0) 8 Try.underlying25 hi1 hzB0 hzB1 hzB2 rfl u8 (raise (r.take k)) rfl (has_alloc hown.out _) (Value.slice (some ⟨_, 0, none⟩) 1 1) [x + 1] rfl (lies_lit1 (enc := Value.int .i64) _ rfl) (fun _ _ => rfl) HLN.out.1 HLN.out.2 (by have := hbel.out.size; simp; omega) ?_; intro v8 w2 ho2 hg2 hb2)
                have HB2 := Lib.hid (hbel.out.grown (grown_alloc hg2) hbel.out.size (fun k hk => (hown.out.lt k hk).1))
                have HO2 : Hid (Has (Value.int .i64) 3 w2 wq.heap.size v8 (raise (r.take (k + 1)))) := by
                  show Has _ _ _ _ _ _
                  rw [HSN.out]
                  exact ho2
                clear ho2 hg2 hb2 k0 k1 k2 c1 c2
                go_wp2
                go_roundw
                case rel => exact ⟨k + 1, by omega, by go_num, HO2, HB2⟩
                case measure => simp [intOf]; omega
              · obtain rfl : k = n := by omega
                have HV8 : Hid (Has (Value.int .i64) 3 wi' wq.heap.size u8 (raise r)) := by
                  have := hown.out
                  rw [show r.take k = r from List.take_of_length_le (by omega)] at this
                  exact this
                clear hown
                obtain ⟨a8, c8, hv8, _⟩ := HV8.out.form
                rw [show (raise r).length = k from by rw [raise_len]; exact hrl] at hv8
                subst hv8
                have hCo := hC.out.below hbel.out
                have c1 := hCo.c1
                have HCo := Lib.hid hCo
                have hno := hN.out.below hbel.out
                have HNo := Lib.hid hno
                have hul : us.length = i + 1 := by
                  have := hR.out.len
                  simp at this
                  omega
                have HUL := Lib.hid hul
                have HUS := Lib.hid (show (us.length + 1) * 24 ≤ 140737488355328 ∧ us.length + 1 ≤ 9223372036854775807 by omega)
                have hso := hbel.out.size
                clear hCo hno hul
                go_wp2_with (at_builtin; refine wpList_append_list (enc := id) (e := 25) rfl (.tmp 91) (.tmp 93) 24 rfl W5.heap.size i0 (.slice none 0 0) 24 Try.underlying24 hi hzA0 hzA1 hzA2 rfl vn us rfl (has_alloc HNo.out _) (Value.slice (some ⟨_, 0, none⟩) 1 1) [.slice a8 k c8] rfl (lies_lit1v _ rfl) (fun y hy => by simp at hy; subst hy; rfl) HUS.out.1 HUS.out.2 (by simp; omega) ?_; intro vt w2 ho2 hg2 hb2; obtain ⟨at2, ct2, hvf, _⟩ := ho2.form; rw [show (us ++ [Value.slice a8 k c8]).length = us.length + 1 from by simp] at hvf; subst hvf; have hg3 := grown_alloc hg2; have hc2 := HCo.out.grown hg3 (has_ne_c3 HNo.out HCo.out (by decide)); have r1 := hc2.c1; have r3 := hc2.f)
                have HB2 := Lib.hid ((Below.refl W5.heap.size wi').grown hg3 (by omega) (fun k hk => (HNo.out.lt k hk).1))
                have HC2 := Lib.hid hc2
                have HNT := Lib.hid (has_ne_c3 ho2 hc2 (by decide))
                have HT2 := Lib.hid ho2
                have HR1 : Hid (OwnRows wi' W5.heap.size wi'.heap.size (us ++ [Value.slice a8 k c8]) ((0 :: raise (r0.drop 1)) :: (rows.take (i + 1)).map raise)) := by
                  have h2 := (hR.out.below hbel.out).snoc (own_of_has HV8.out) hws hso
                  rw [HT.out, List.map_append]
                  exact h2
                have HR2 := Lib.hid ((HR1.out.top_grown HNo.out hg3).mono hg3.size (Nat.le_refl _))
                have HRN := Lib.hid (HR2.out.ne_c3 hc2 (by decide))
                have HO2 := Lib.hid ((hO.out.below hbel.out).grown hg3 (fun k hk => .inr (HNo.out.lt k hk).1))
                have HON := Lib.hid (has_ne_c3 HO2.out.has hc2 (by decide))
                have HBW := Lib.hid (Below.trans (hbel.out.mono hws) HB2.out)
                have hsz := hg3.size
                clear ho2 hg2 hb2 hg3 hc2 r1 r3 c1 k0 k1 k2 hA'
                go_roundw
                case rel =>
                  refine ⟨i + 1, us ++ [Value.slice a8 k c8], Value.slice at2 (us.length + 1) ct2, by omega, by go_num, HT2.out.set (a := ⟨p, 1, none⟩) HNT.out (.slice at2 (us.length + 1) ct2), ?_, HC2.out.set1 (.slice at2 (us.length + 1) ct2), HO2.out.set (a := ⟨p, 1, none⟩) HON.out (.slice at2 (us.length + 1) ct2), (c3_of_below HBW.out hA.out (by omega)).other (by show p ≠ _; omega) _, (c3_of_below HBW.out hZ.out (by omega)).other (by show p ≠ _; omega) _, (hB.out.trans (HBW.out.mono (by omega))).setCell (by show _ ≤ p; omega) _, ?_⟩
                  · have := HR2.out.set (a := ⟨p, 1, none⟩) HRN.out (.slice at2 (us.length + 1) ct2)
                    show OwnRows _ _ _ _ _
                    simpa only [size_setCell'] using this
                  · show _ ≤ _
                    simp only [size_setCell']
                    omega
                case measure => simp [intOf]; omega
          · obtain rfl : i = rows.length := by omega
            have hus : us.length = (steadyRows rows).length := by
              have := hR.out.len
              rw [HSR.out]
              simp at this ⊢
              omega
            have hol : (o0 :: out).length = (steadyOut out).length := by rw [HSO.out]
            have HE : Hid (OwnR wq W5.heap.size wq.heap.size vn us (steadyRows rows)) := by
              have h1 := hR.out
              rw [List.take_length] at h1
              rw [HSR.out]
              exact ⟨hN.out, fun k hk => (hN.out.lt k hk).2, Nat.le_refl _, h1⟩
            have HEO : Hid (OwnI wq (w.heap.size + 2) W5.heap.size vo (steadyOut out)) := by
              rw [HSO.out]
              exact hO.out
            obtain ⟨an1, cn1, hv1, _⟩ := hN.out.form
            obtain ⟨ao1, co1, hv2⟩ := hO.out.form
            rw [hus] at hv1
            rw [hol] at hv2
            subst hv1; subst hv2
            have p0 := hC.out.c0
            have p1 := hC.out.c1
            have p2 := hC.out.c2
            have p3 := hC.out.f
            have z0 := hZ.out.c0
            have z1 := hZ.out.c1
            have z2 := hZ.out.c2
            have z3 := hZ.out.f
            clear hus hol hR hN hO
            go_wp2
            have hZ3 := (((hZ.out.set0 (.int .i64 n)).set1 (.slice an1 (steadyRows rows).length cn1)).set2 (.slice ao1 (steadyOut out).length co1))
            have m0 := hZ3.c0
            have m1 := hZ3.c1
            have m2 := hZ3.c2
            refine bodyPost_ret (v := .tuple #[.agg #[.int .i64 n, .slice an1 (steadyRows rows).length cn1, .slice ao1 (steadyOut out).length co1], .bool true]) (by simp [results, Try.results49, go_sem, m0, m1, m2]) rfl ⟨_, rfl, ?_, ?_⟩
            · have T0 : Plain.Touch w.heap.size (w.heap.size + 2) wq (((wq.setCell ⟨w.heap.size + 1, 0, none⟩ (.int .i64 n)).setCell ⟨w.heap.size + 1, 1, none⟩ (.slice an1 (steadyRows rows).length cn1)).setCell ⟨w.heap.size + 1, 2, none⟩ (.slice ao1 (steadyOut out).length co1)) :=
                ((Plain.Touch.of_set _ (by show _ ≤ _ + 1; omega) (by show _ + 1 < _; omega)).trans (Plain.Touch.of_set _ (by show _ ≤ _ + 1; omega) (by show _ + 1 < _; omega))).trans (Plain.Touch.of_set _ (by show _ ≤ _ + 1; omega) (by show _ + 1 < _; omega))
              have hS1 : OwnS wq (w.heap.size + 2) wq.heap.size (.agg #[.int .i64 n, .slice an1 (steadyRows rows).length cn1, .slice ao1 (steadyOut out).length co1]) n (steadyRows rows) (steadyOut out) := OwnS.make_out HEO.out HE.out (Nat.le_refl _) hM2 hS.out
              have := (hS1.touch T0 (.inr (Nat.le_refl _))).lower (show w.heap.size ≤ w.heap.size + 2 by omega)
              simpa only [size_setCell'] using this
            · exact ((hB.out.setCell (by show _ ≤ _ + 1; omega) _).setCell (by show _ ≤ _ + 1; omega) _).setCell (by show _ ≤ _ + 1; omega) _

end Seqs
end Go.Proofs.Ytodnkkofammhbaa
/- Contracts of SteadyForm, of the program and of the model, at every sequence that may be copied. No conditions beyond those that each states. -/
namespace Go.Proofs.Ytodnkkofammhbaa
open Go.ChangeShapes Go.WideShapes Go.ChangeAt Go.RowKit
open Go.PlainAid Plain
set_option linter.unusedVariables false
namespace Seqs
theorem form_parts (b : Int) (rows : List (List Int)) (out : List Int) :
    (steadyB b rows out = true ∧ formK b rows out = true ∧ formB b rows out = b ∧ formR b rows out = rows ∧ formO b rows out = out) ∨
    (formK b rows out = false ∧ formB b rows out = 0 ∧ formR b rows out = [] ∧ formO b rows out = []) ∨
    (seqB b rows out = true ∧ steadyB b rows out = false ∧ rows.length < 16 ∧ formK b rows out = true ∧ formB b rows out = b ∧ formR b rows out = steadyRows rows ∧ formO b rows out = steadyOut out) := by
  cases hs : steadyB b rows out with
  | true =>
    have hk : formK b rows out = true := by simp [formK, hs]
    exact .inl ⟨rfl, hk, by simp [formB, hk], by simp [formR, hs], by simp [formO, hs]⟩
  | false =>
    cases hk : formK b rows out with
    | false => exact .inr (.inl ⟨rfl, by simp [formB, hk], by simp [formR, hs, hk], by simp [formO, hs, hk]⟩)
    | true =>
      have h1 := hk
      simp only [formK, hs, Bool.false_or, Bool.and_eq_true, decide_eq_true_eq] at h1
      exact .inr (.inr ⟨h1.1, rfl, h1.2, rfl, by simp [formB, hk], by simp [formR, hs, hk], by simp [formO, hs, hk]⟩)
theorem tot_le4 : ∀ rows : List (List Int), (∀ r ∈ rows, r.length ≤ 4) → tot rows ≤ 4 * rows.length
  | [], _ => by simp [tot]
  | r :: rows, h => by
    have h1 := tot_le4 rows (fun x hx => h x (by simp [hx]))
    have h2 := h r (by simp)
    have h3 : tot (r :: rows) = r.length + tot rows := by simp [tot]
    rw [h3, List.length_cons]
    omega
theorem seq_rows4 {b : Int} {rows : List (List Int)} {out : List Int} (h : seqB b rows out = true) : (∀ r ∈ rows, r.length ≤ 4) ∧ rows.length ≤ 16 ∧ out.length ≤ 16 := by
  have hv := seqB_out h
  refine ⟨fun r hr => ?_, hv.2.2.2.1, by have := hv.2.2.2.1; have := hv.2.2.2.2.1; omega⟩
  have := (hv.2.2.2.2.2.1 r hr).1
  have := hv.2.1
  omega
theorem form_size (b : Int) (rows : List (List Int)) (out : List Int) : tot (formR b rows out) + (formO b rows out).length ≤ 1000 := by
  rcases form_parts b rows out with ⟨hs, _, _, hr, ho⟩ | ⟨_, _, hr, ho⟩ | ⟨hq, _, hl, _, _, hr, ho⟩
  · rw [hr, ho]
    have hq : seqB b rows out = true := by rw [steadyB, Bool.and_eq_true] at hs; exact hs.1
    have h1 := seq_rows4 hq
    have h2 := tot_le4 rows h1.1
    omega
  · rw [hr, ho]
    simp [tot]
  · rw [hr, ho]
    have h1 := seq_rows4 hq
    have h0 : (rows.getD 0 []).length ≤ 4 := by
      cases rows with
      | nil => simp
      | cons r l => simpa using h1.1 r (by simp)
    have h2 : tot (steadyRows rows) ≤ 4 * (steadyRows rows).length := tot_le4 _ (fun r hr => by
      simp only [steadyRows, List.mem_cons, List.mem_map] at hr
      rcases hr with rfl | ⟨x, hx, rfl⟩
      · have hv := seqB_out hq
        have h5 := hv.1
        have h6 := hv.2.2.1
        have h7 : 1 ≤ (rows.getD 0 []).length := by
          cases rows with
          | nil => simp at h6
          | cons r l =>
            have := (hv.2.2.2.2.2.1 r (by simp)).1
            simp
            omega
        rw [List.length_cons, raise_len, List.length_drop]
        omega
      · rw [raise_len]
        exact h1.1 x hx)
    have h3 : (steadyRows rows).length = rows.length + 1 := by simp [steadyRows]
    have h4 : (steadyOut out).length = out.length + 1 := by simp [steadyOut]
    omega
theorem spec_form (v : Value) (b : Int) (rows : List (List Int)) (out : List Int) (w : World) (h : LiesS w v b rows out) (hs : rows.length + tot rows + out.length ≤ 1048576) :
    Calls Try.prog 49 #[v] w (GivesK (formB b rows out) (formR b rows out) (formO b rows out) (formK b rows out) w) := by
  rcases form_parts b rows out with ⟨h1, h2, h3, h4, h5⟩ | ⟨h2, h3, h4, h5⟩ | ⟨hq, h1, hl, h2, h3, h4, h5⟩
  · rw [h2, h3, h4, h5]
    exact spec_form_same v b rows out w h h1 hs
  · rw [h2, h3, h4, h5]
    exact spec_form_no v b rows out w h h2
  · rw [h2, h3, h4, h5]
    exact spec_form_make v b rows out w h hq h1 hl
theorem impl_form (v : Value) (b : Int) (rows : List (List Int)) (out : List Int) (w : World) (h : LiesS w v b rows out) (hs : rows.length + tot rows + out.length ≤ 1048576) :
    Calls Try.prog 46 #[v] w (GivesK (formB b rows out) (formR b rows out) (formO b rows out) (formK b rows out) w) := by
  rcases form_parts b rows out with ⟨h1, h2, h3, h4, h5⟩ | ⟨h2, h3, h4, h5⟩ | ⟨hq, h1, hl, h2, h3, h4, h5⟩
  · rw [h2, h3, h4, h5]
    exact impl_form_same v b rows out w h h1 hs
  · rw [h2, h3, h4, h5]
    exact impl_form_no v b rows out w h h2
  · rw [h2, h3, h4, h5]
    exact impl_form_make v b rows out w h hq h1 hl hs
end Seqs
end Go.Proofs.Ytodnkkofammhbaa
/- Prepared and minimal forms keep the shape of a sequence. No conditions beyond those that each states. -/
namespace Go.Proofs.Ytodnkkofammhbaa
open Go.ChangeShapes Go.WideShapes Go.ChangeAt Go.RowKit
open Go.PlainAid Plain
set_option linter.unusedVariables false
namespace Mins
open Seqs
theorem raise_mem {r : List Int} {y : Int} (h : y ∈ raise r) : ∃ x ∈ r, y = x + 1 := by
  obtain ⟨x, hx, rfl⟩ := List.mem_map.1 h
  exact ⟨x, hx, rfl⟩
theorem steady_valid {b : Int} {rows : List (List Int)} {out : List Int} (hv : IsSeq b rows out) (hl : rows.length < 16) : IsSeq b (steadyRows rows) (steadyOut out) := by
  have h1 := hv.2.2.1
  have h5 := hv.2.2.2.2.1
  have h0 : rows.getD 0 [] ∈ rows := by
    rw [List.getD_eq_getElem?_getD, List.getElem?_eq_getElem (show 0 < rows.length by omega)]
    exact List.getElem_mem _
  have hb0 := hv.2.2.2.2.2.1 _ h0
  have hlen : (steadyRows rows).length = rows.length + 1 := by simp [steadyRows]
  have b2 := hv.1
  refine ⟨hv.1, hv.2.1, by omega, by omega, by rw [hlen]; simp [steadyOut]; omega, fun r hr => ?_, fun x hx => ?_⟩
  · rw [hlen]
    simp only [steadyRows, List.mem_cons, List.mem_map] at hr
    rcases hr with rfl | ⟨q, hq, rfl⟩
    · refine ⟨?_, fun x hx => ?_⟩
      · rw [List.length_cons, raise_len, List.length_drop]
        omega
      · rw [List.mem_cons] at hx
        rcases hx with rfl | hx
        · omega
        · obtain ⟨y, hy, rfl⟩ := raise_mem hx
          have := hb0.2 y (List.mem_of_mem_drop hy)
          omega
    · have hq' := hv.2.2.2.2.2.1 q hq
      refine ⟨by rw [raise_len]; exact hq'.1, fun x hx => ?_⟩
      obtain ⟨y, hy, rfl⟩ := raise_mem hx
      have := hq'.2 y hy
      omega
  · simp only [steadyOut, List.mem_cons] at hx
    rcases hx with rfl | hx
    · exact hv.2.2.2.2.2.2 _ (by
        rw [List.getD_eq_getElem?_getD, List.getElem?_eq_getElem (show 0 < out.length by omega)]
        exact List.getElem_mem _)
    · exact hv.2.2.2.2.2.2 x hx
theorem form_valid {b : Int} {rows : List (List Int)} {out : List Int} (h : formK b rows out = true) : IsSeq (formB b rows out) (formR b rows out) (formO b rows out) := by
  rcases form_parts b rows out with ⟨hs, _, h1, h2, h3⟩ | ⟨hk, _⟩ | ⟨hq, _, hl, _, h1, h2, h3⟩
  · rw [h1, h2, h3]
    rw [steadyB, Bool.and_eq_true] at hs
    exact seqB_out hs.1
  · rw [h] at hk
    cases hk
  · rw [h1, h2, h3]
    exact steady_valid (seqB_out hq) hl
end Mins
end Go.Proofs.Ytodnkkofammhbaa
/- The steady form has the terms of the sequence, No conditions beyond those that each fact states. -/
namespace Go.Proofs.Ytodnkkofammhbaa
open Go.ChangeShapes Go.WideShapes Go.ChangeAt Go.RowKit
open Go.PlainAid Plain
set_option linter.unusedVariables false
namespace Mins
open Seqs Digits
theorem lows_last (b : Nat) (hb : 2 ≤ b) : ∀ (f n : Nat), 0 < n → n < b ^ f → ∃ (l : List Int) (d : Int), lows b f n = l ++ [d] ∧ d ≠ 0 := by
  intro f
  induction f with
  | zero => intro n h0 h1; simp at h1; omega
  | succ f ih =>
    intro n h0 h1
    rw [lows_succ b f n h0]
    by_cases hz : n / b = 0
    · rw [hz, lows_zero]
      have h2 : n < b := by
        rcases Nat.lt_or_ge n b with h | h
        · exact h
        · have := Nat.div_pos h (by omega); omega
      rw [Nat.mod_eq_of_lt h2]
      exact ⟨[], (n : Int), rfl, by omega⟩
    · obtain ⟨l, d, hl, hd⟩ := ih (n / b) (Nat.pos_of_ne_zero hz) (Nat.div_lt_of_lt_mul (by rw [Nat.pow_succ, Nat.mul_comm] at h1; exact h1))
      exact ⟨((n % b : Nat) : Int) :: l, d, by rw [hl]; rfl, hd⟩
theorem digs_head (n b : Nat) (hb : 2 ≤ b) (hn : n < b ^ 16) : digs n b = [] ∨ ∃ d l, digs n b = d :: l ∧ d ≠ 0 := by
  rcases Nat.eq_zero_or_pos n with rfl | h0
  · left
    rw [digs, lows_zero]
    rfl
  · right
    obtain ⟨l, d, hl, hd⟩ := lows_last b hb 16 n h0 hn
    exact ⟨d, l.reverse, by rw [digs, hl]; simp, hd⟩
theorem digV_head (n b : Int) : digV n b = [] ∨ ∃ d l, digV n b = d :: l ∧ d ≠ 0 := by
  unfold digV
  split
  · rename_i h
    obtain ⟨h1, h2, h3, h4⟩ := h
    obtain ⟨bn, rfl⟩ := Int.eq_ofNat_of_zero_le (show 0 ≤ b by omega)
    obtain ⟨m, rfl⟩ := Int.eq_ofNat_of_zero_le h3
    rw [powV_in bn (by omega) (by omega)] at h4
    exact digs_head m bn (by omega) (Int.ofNat_lt.1 h4)
  · exact .inl rfl
theorem steady_fold {rows : List (List Int)} {out : List Int} {n : Nat} (A : Auto rows out n) : ∀ (l : List Int) (s : Int), 0 ≤ s → s < rows.length → (∀ d ∈ l, 0 ≤ d ∧ d < (n : Int)) →
    l.foldl (nextS (steadyRows rows)) (s + 1) = l.foldl (nextS rows) s + 1 ∧ 0 ≤ l.foldl (nextS rows) s := by
  intro l
  induction l with
  | nil => intro s h0 _ _; exact ⟨rfl, h0⟩
  | cons d l ih =>
    intro s h0 h1 hd
    have hdd := hd d List.mem_cons_self
    obtain ⟨k, rfl⟩ := Int.eq_ofNat_of_zero_le h0
    obtain ⟨e, rfl⟩ := Int.eq_ofNat_of_zero_le hdd.1
    have hk : k < rows.length := by omega
    have he : e < n := by have := hdd.2; omega
    have h2 := next_lt A hk he
    have h3 : nextS rows (k : Int) (e : Int) = (rows.getD k []).getD e 0 := rfl
    have hl : e < (rows.getD k []).length := by
      rw [A.width _ (by rw [List.getD_eq_getElem?_getD, List.getElem?_eq_getElem hk]; exact List.getElem_mem hk)]
      exact he
    have h4 : nextS (steadyRows rows) ((k : Int) + 1) (e : Int) = nextS rows (k : Int) (e : Int) + 1 := by
      rw [h3]
      show ((steadyRows rows).getD ((k : Int) + 1).toNat []).getD e 0 = _
      rw [show ((k : Int) + 1).toNat = k + 1 from by omega, steadyRows, List.getD_cons_succ, List.getD_eq_getElem?_getD (l := List.map _ _), List.getElem?_map, List.getElem?_eq_getElem hk, Option.map_some, Option.getD_some]
      have h5 : rows.getD k [] = rows[k] := by rw [List.getD_eq_getElem?_getD, List.getElem?_eq_getElem hk]; rfl
      rw [h5] at hl ⊢
      rw [raise, List.getD_eq_getElem?_getD, List.getElem?_map, List.getElem?_eq_getElem hl, List.getD_eq_getElem?_getD, List.getElem?_eq_getElem hl]
      rfl
    rw [List.foldl_cons, List.foldl_cons, h4]
    exact ih _ (by rw [h3]; exact h2.1) (by rw [h3]; omega) (fun x hx => hd x (List.mem_cons_of_mem _ hx))
theorem steady_out {rows : List (List Int)} {out : List Int} {n : Nat} (A : Auto rows out n) {ds : List Int} (hd : ∀ d ∈ ds, 0 ≤ d ∧ d < (n : Int)) (hh : ds = [] ∨ ∃ d l, ds = d :: l ∧ d ≠ 0) :
    (steadyOut out).getD (afterS (steadyRows rows) ds).toNat 0 = out.getD (afterS rows ds).toNat 0 := by
  rcases hh with rfl | ⟨d, l, rfl, h0⟩
  · rfl
  · have hdd := hd d List.mem_cons_self
    obtain ⟨e, rfl⟩ : ∃ e : Nat, d = (e : Int) + 1 := ⟨(d - 1).toNat, by omega⟩
    have hk : 0 < rows.length := A.closed.1
    have he : e + 1 < n := by have := hdd.2; omega
    have h2 := next_lt A hk he
    have hl : e + 1 < (rows.getD 0 []).length := by
      rw [A.width _ (by rw [List.getD_eq_getElem?_getD, List.getElem?_eq_getElem hk]; exact List.getElem_mem hk)]
      exact he
    have h3 : nextS rows 0 ((e : Int) + 1) = (rows.getD 0 []).getD (e + 1) 0 := rfl
    have h4 : nextS (steadyRows rows) 0 ((e : Int) + 1) = nextS rows 0 ((e : Int) + 1) + 1 := by
      rw [h3]
      show ((steadyRows rows).getD 0 []).getD (e + 1) 0 = _
      rw [steadyRows, List.getD_cons_zero, List.getD_cons_succ, raise, List.getD_eq_getElem?_getD, List.getElem?_map, List.getElem?_drop, Nat.add_comm 1 e, List.getElem?_eq_getElem hl, List.getD_eq_getElem?_getD (l := rows.getD 0 []), List.getElem?_eq_getElem hl]
      rfl
    have h5 := steady_fold A l (nextS rows 0 ((e : Int) + 1)) (by rw [h3]; exact h2.1) (by rw [h3]; omega) (fun x hx => hd x (List.mem_cons_of_mem _ hx))
    have h6 : afterS (steadyRows rows) (((e : Int) + 1) :: l) = afterS rows (((e : Int) + 1) :: l) + 1 := by
      show List.foldl _ _ _ = List.foldl _ _ _ + 1
      rw [List.foldl_cons, List.foldl_cons, h4]
      exact h5.1
    have h7 : 0 ≤ afterS rows (((e : Int) + 1) :: l) := h5.2
    rw [h6, show (afterS rows (((e : Int) + 1) :: l) + 1).toNat = (afterS rows (((e : Int) + 1) :: l)).toNat + 1 from by omega, steadyOut, List.getD_cons_succ]
end Mins
end Go.Proofs.Ytodnkkofammhbaa
/- Plain facts on a search by breadth over pairs of states that tries digits in order: what it has found, the sequence that it makes. No conditions beyond those that each fact states. -/
namespace Go.Proofs.Ytodnkkofammhbaa.Plain
set_option linter.unusedVariables false
abbrev Pr : Type := Int × Int
/-- Where a search starts, where a digit leads a pair; the base; which pairs may come up. -/
structure Walks (st : Pr) (nx : Pr → Nat → Pr) (b : Nat) (Ok : Pr → Prop) : Prop where
  start : Ok st
  next : ∀ s, Ok s → ∀ d, d < b → Ok (nx s d)
section
variable (st : Pr) (nx : Pr → Nat → Pr) (b : Nat)
def nextP (s : Pr) (k : Nat) : List Pr := (List.range k).map (nx s)
/-- What the search has found when it has looked at i pairs. -/
def pairI : Nat → List Pr
  | 0 => [st]
  | i + 1 => match (pairI i)[i]? with
    | some s => addAll (pairI i) (nextP nx s b)
    | none => pairI i
def found : List Pr := pairI st nx b 17
def pairK : Bool := decide ((found st nx b).length ≤ 16)
def pairRow (s : Pr) : List Int := (List.range b).map fun d => (ix (found st nx b) (nx s d) : Int)
/-- A row in the making. -/
def pairPart (s : Pr) (k : Nat) : List Int := (List.range k).map fun d => (ix (found st nx b) (nx s d) : Int)
def pairRows (i : Nat) : List (List Int) := ((found st nx b).take i).map (pairRow st nx b)
def pairOuts (tm : Pr → Int) (i : Nat) : List Int := ((found st nx b).take i).map tm
/-- What is found when k digits of the pair s have been tried. -/
def midP (i : Nat) (s : Pr) (k : Nat) : List Pr := addAll (pairI st nx b i) (nextP nx s k)
end
section
variable {st : Pr} {nx : Pr → Nat → Pr} {b : Nat} {Ok : Pr → Prop}
theorem nextP_succ (s : Pr) (k : Nat) : nextP nx s (k + 1) = nextP nx s k ++ [nx s k] := by simp [nextP, List.range_succ]
theorem pairI_step {i : Nat} {s : Pr} (h : (pairI st nx b i)[i]? = some s) : pairI st nx b (i + 1) = addAll (pairI st nx b i) (nextP nx s b) := by rw [pairI, h]
theorem pairI_over {i : Nat} (h : (pairI st nx b i).length ≤ i) : ∀ j, i ≤ j → pairI st nx b j = pairI st nx b i := by
  intro j hj
  obtain ⟨d, rfl⟩ := Nat.le.dest hj
  induction d with
  | zero => rfl
  | succ d ih =>
    have ih := ih (by omega)
    rw [← Nat.add_assoc, pairI, List.getElem?_eq_none (by rw [ih]; omega)]
    exact ih
theorem pairI_nodup : ∀ i, (pairI st nx b i).Nodup
  | 0 => by simp [pairI]
  | i + 1 => by
    cases hs : (pairI st nx b i)[i]? with
    | none => rw [pairI, hs]; exact pairI_nodup i
    | some s => rw [pairI_step hs]; exact addAll_nodup _ _ (pairI_nodup i)
theorem pairI_prefix_succ (i : Nat) : pairI st nx b i <+: pairI st nx b (i + 1) := by
  cases hs : (pairI st nx b i)[i]? with
  | none => rw [pairI, hs]; exact List.prefix_refl _
  | some s => rw [pairI_step hs]; exact addAll_prefix _ _
theorem pairI_prefix {i j : Nat} (h : i ≤ j) : pairI st nx b i <+: pairI st nx b j := by
  obtain ⟨d, rfl⟩ := Nat.le.dest h
  induction d with
  | zero => exact List.prefix_refl _
  | succ d ih => exact (ih (by omega)).trans (pairI_prefix_succ _)
theorem found_nodup : (found st nx b).Nodup := pairI_nodup 17
theorem pairI_ok (W : Walks st nx b Ok) : ∀ i, ∀ s ∈ pairI st nx b i, Ok s
  | 0 => fun s hs => by
    have : s = st := by simpa [pairI] using hs
    subst this
    exact W.start
  | i + 1 => fun s hs => by
    have ih := pairI_ok W i
    cases he : (pairI st nx b i)[i]? with
    | none => rw [pairI, he] at hs; exact ih s hs
    | some t =>
      rw [pairI_step he] at hs
      rcases (mem_addAll _ _ _).1 hs with h | h
      · exact ih s h
      · obtain ⟨d, hd, rfl⟩ := List.mem_map.1 h
        exact W.next t (ih t (List.mem_of_getElem? he)) d (List.mem_range.1 hd)
/-- Where the search ends. -/
theorem found_end {i : Nat} (hi : i ≤ 16) (h : (pairI st nx b i).length ≤ i) : found st nx b = pairI st nx b i := pairI_over h 17 (by omega)
theorem found_many {i : Nat} (hi : i ≤ 17) (h : 16 < (pairI st nx b i).length) : pairK st nx b = false := by
  have := (pairI_prefix (st := st) (nx := nx) (b := b) hi).length_le
  exact decide_eq_false fun h' => by unfold found at h'; omega
theorem mid_zero (i : Nat) (s : Pr) : midP st nx b i s 0 = pairI st nx b i := rfl
theorem mid_succ (i : Nat) (s : Pr) (k : Nat) : midP st nx b i s (k + 1) = addTo (midP st nx b i s k) (nx s k) := by rw [midP, nextP_succ, addAll_snoc]; rfl
theorem mid_end {i : Nat} {s : Pr} (h : (pairI st nx b i)[i]? = some s) : midP st nx b i s b = pairI st nx b (i + 1) := (pairI_step h).symm
theorem mid_prefix (i : Nat) (s : Pr) {k k' : Nat} (h : k ≤ k') : midP st nx b i s k <+: midP st nx b i s k' := by
  obtain ⟨d, rfl⟩ := Nat.le.dest h
  induction d with
  | zero => exact List.prefix_refl _
  | succ d ih =>
    have h1 := mid_succ (st := st) (nx := nx) (b := b) i s (k + d)
    rw [Nat.add_assoc] at h1
    rw [h1]
    exact (ih (by omega)).trans (addTo_prefix _ _)
theorem mid_found {i k : Nat} {s : Pr} (hi : i ≤ 16) (hk : k ≤ b) (h : (pairI st nx b i)[i]? = some s) : midP st nx b i s k <+: found st nx b := by
  have h1 := mid_prefix (st := st) (nx := nx) (b := b) i s hk
  rw [mid_end h] at h1
  exact h1.trans (pairI_prefix (by omega))
theorem mid_nodup (i : Nat) (s : Pr) (k : Nat) : (midP st nx b i s k).Nodup := addAll_nodup _ _ (pairI_nodup i)
theorem mid_ok (W : Walks st nx b Ok) {i : Nat} {s : Pr} (h : (pairI st nx b i)[i]? = some s) {k : Nat} (hk : k ≤ b) : ∀ t ∈ midP st nx b i s k, Ok t := fun t ht => by
  rcases (mem_addAll _ _ _).1 ht with h1 | h1
  · exact pairI_ok W i t h1
  · obtain ⟨d, hd, rfl⟩ := List.mem_map.1 h1
    exact W.next s (pairI_ok W i s (List.mem_of_getElem? h)) d (by have := List.mem_range.1 hd; omega)
theorem mid_len {i k : Nat} {s : Pr} (h16 : (pairI st nx b i).length ≤ 16) : (midP st nx b i s k).length ≤ 16 + k := by
  induction k with
  | zero => exact h16
  | succ k ih =>
    rw [mid_succ]
    unfold addTo
    split
    · omega
    · simp; omega
/-- The place of the pair that a digit leads to, where it has been found. -/
theorem place_old {i k : Nat} {s : Pr} (hi : i ≤ 16) (hk : k < b) (h : (pairI st nx b i)[i]? = some s) (hm : nx s k ∈ midP st nx b i s k) :
    midP st nx b i s (k + 1) = midP st nx b i s k ∧ ix (found st nx b) (nx s k) = ix (midP st nx b i s k) (nx s k) :=
  ⟨by rw [mid_succ, addTo_in hm], idxOf_prefix (mid_found hi (by omega) h) hm⟩
theorem place_new {i k : Nat} {s : Pr} (hi : i ≤ 16) (hk : k < b) (h : (pairI st nx b i)[i]? = some s) (hm : nx s k ∉ midP st nx b i s k) :
    midP st nx b i s (k + 1) = midP st nx b i s k ++ [nx s k] ∧ ix (found st nx b) (nx s k) = (midP st nx b i s k).length := by
  have h1 : midP st nx b i s (k + 1) = midP st nx b i s k ++ [nx s k] := by rw [mid_succ, addTo_new hm]
  refine ⟨h1, ?_⟩
  have h2 := mid_found hi (show k + 1 ≤ b by omega) h
  have h3 : nx s k ∈ midP st nx b i s (k + 1) := by rw [h1]; simp
  rw [idxOf_prefix h2 h3]
  refine idxOf_get (mid_nodup i s (k + 1)) ?_
  rw [h1]
  simp
theorem part_succ (s : Pr) (k : Nat) : pairPart st nx b s (k + 1) = pairPart st nx b s k ++ [(ix (found st nx b) (nx s k) : Int)] := by simp [pairPart, List.range_succ]
theorem part_len (s : Pr) (k : Nat) : (pairPart st nx b s k).length = k := by simp [pairPart]
theorem part_end (s : Pr) : pairPart st nx b s b = pairRow st nx b s := rfl
theorem found_at {i : Nat} {s : Pr} (hi : i ≤ 17) (h : (pairI st nx b i)[i]? = some s) : (found st nx b)[i]? = some s := by
  obtain ⟨t, ht⟩ := pairI_prefix (st := st) (nx := nx) (b := b) hi
  unfold found
  rw [← ht, List.getElem?_append_left (List.getElem?_eq_some_iff.1 h).1]
  exact h
theorem rows_succ {i : Nat} {s : Pr} (h : (found st nx b)[i]? = some s) : pairRows st nx b (i + 1) = pairRows st nx b i ++ [pairRow st nx b s] := by
  obtain ⟨hk, rfl⟩ := List.getElem?_eq_some_iff.1 h
  rw [pairRows, List.take_succ_eq_append_getElem hk, List.map_append]
  rfl
theorem outs_succ {tm : Pr → Int} {i : Nat} {s : Pr} (h : (found st nx b)[i]? = some s) : pairOuts st nx b tm (i + 1) = pairOuts st nx b tm i ++ [tm s] := by
  obtain ⟨hk, rfl⟩ := List.getElem?_eq_some_iff.1 h
  rw [pairOuts, List.take_succ_eq_append_getElem hk, List.map_append]
  rfl
theorem rows_len {i : Nat} (h : i ≤ (found st nx b).length) : (pairRows st nx b i).length = i := by simp [pairRows]; omega
theorem outs_len {tm : Pr → Int} {i : Nat} (h : i ≤ (found st nx b).length) : (pairOuts st nx b tm i).length = i := by simp [pairOuts]; omega
/-- Behind the end everything that a digit leads to has been found. -/
theorem found_closed (hk : pairK st nx b = true) {s : Pr} (hs : s ∈ found st nx b) {d : Nat} (hd : d < b) : nx s d ∈ found st nx b := by
  have hl : (found st nx b).length ≤ 16 := of_decide_eq_true hk
  have hn : ∃ i, i ≤ 16 ∧ (pairI st nx b i).length ≤ i := ⟨16, by omega, Nat.le_trans (pairI_prefix (st := st) (nx := nx) (b := b) (show 16 ≤ 17 by omega)).length_le hl⟩
  obtain ⟨n, hn16, hn⟩ := hn
  have he := found_end hn16 hn
  obtain ⟨i, hi⟩ := List.getElem?_of_mem hs
  have hil := (List.getElem?_eq_some_iff.1 hi).1
  by_cases h : (pairI st nx b i)[i]? = none
  · have h1 := List.getElem?_eq_none_iff.1 h
    have h2 := pairI_over h1 17 (by omega)
    rw [show found st nx b = pairI st nx b i from h2] at hil
    omega
  · obtain ⟨t, ht⟩ := Option.ne_none_iff_exists'.1 h
    have h1 := found_at (by omega) ht
    rw [hi] at h1
    obtain rfl := Option.some.inj h1
    obtain ⟨r, hr⟩ := pairI_prefix (st := st) (nx := nx) (b := b) (show i + 1 ≤ 17 by omega)
    show nx s d ∈ pairI st nx b 17
    rw [← hr, pairI_step ht]
    refine List.mem_append_left _ ((mem_addAll _ _ _).2 (.inr ?_))
    exact List.mem_map.2 ⟨d, List.mem_range.2 hd, rfl⟩
theorem found_ok (W : Walks st nx b Ok) : ∀ s ∈ found st nx b, Ok s := pairI_ok W 17
/-- The sequence of the pairs. -/
theorem pair_valid {tm : Pr → Int} (W : Walks st nx b Ok) (hk : pairK st nx b = true) (h2 : 2 ≤ b) (h4 : b ≤ 4) (ht : ∀ s, Ok s → 0 ≤ tm s ∧ tm s ≤ 3) : IsSeq (b : Int) (pairRows st nx b (found st nx b).length) (pairOuts st nx b tm (found st nx b).length) := by
  have hl : (found st nx b).length ≤ 16 := of_decide_eq_true hk
  have h0 : st ∈ found st nx b := by
    obtain ⟨r, hr⟩ := pairI_prefix (st := st) (nx := nx) (b := b) (show 0 ≤ 17 by omega)
    show st ∈ pairI st nx b 17
    rw [← hr]
    simp [pairI]
  have h1 : 0 < (found st nx b).length := List.length_pos_of_mem h0
  refine ⟨by omega, by omega, by rw [rows_len (Nat.le_refl _)]; omega, by rw [rows_len (Nat.le_refl _)]; exact hl, by rw [rows_len (Nat.le_refl _), outs_len (Nat.le_refl _)], fun r hr => ?_, fun x hx => ?_⟩
  · rw [pairRows, List.take_length] at hr
    obtain ⟨s, hs, rfl⟩ := List.mem_map.1 hr
    refine ⟨by simp [pairRow], fun x hx => ?_⟩
    obtain ⟨d, hd, rfl⟩ := List.mem_map.1 hx
    rw [rows_len (Nat.le_refl _)]
    have := idxOf_lt (found_closed hk hs (List.mem_range.1 hd))
    omega
  · rw [pairOuts, List.take_length] at hx
    obtain ⟨s, hs, rfl⟩ := List.mem_map.1 hx
    exact ht s (found_ok W s hs)
end
end Go.Proofs.Ytodnkkofammhbaa.Plain
/- A struct or an array of one-cell values that lies in a block of its own, told as a list: what it holds, and what stays of it. No conditions beyond those that each fact states. -/
namespace Go.Proofs.Ytodnkkofammhbaa.Plain
open Go.RowKit
set_option linter.unusedVariables false
/-- Block b holds these cells. -/
structure CellsN (w : World) (b : Nat) (t : TypeId) (l : List Value) : Prop where
  row : w.heap[b]? = some (.cells l.toArray t (0, 0))
section
variable {w w' : World} {b : Nat} {t : TypeId} {l : List Value}
theorem CellsN.at_ (h : CellsN w b t l) {i : Nat} {x : Value} (hi : l[i]? = some x) : w.cell? ⟨b, i, none⟩ = some x := by simp [World.cell?, h.row, hi]
theorem CellsN.f (h : CellsN w b t l) (o : Nat) : w.frozen? ⟨b, o, none⟩ = false := frozen_of_row w b o _ t h.row
theorem CellsN.lt (h : CellsN w b t l) : b < w.heap.size := by
  have h1 := h.row
  rw [Array.getElem?_eq_some_iff] at h1
  exact h1.1
theorem CellsN.new (w : World) (t : TypeId) (l : List Value) : CellsN (w.alloc (.cells l.toArray t)) w.heap.size t l := ⟨heap_alloc_new w _⟩
theorem CellsN.below (h : CellsN w b t l) (hb : Below w.heap.size w w') : CellsN w' b t l := ⟨(hb.block b h.lt).trans h.row⟩
theorem CellsN.of_below {B : Nat} (h : CellsN w b t l) (hb : Below B w w') (hB : b < B) : CellsN w' b t l := ⟨(hb.block b hB).trans h.row⟩
theorem CellsN.alloc (h : CellsN w b t l) (o : Obj) : CellsN (w.alloc o) b t l := h.below ((Below.refl _ _).alloc (Nat.le_refl _) _)
theorem CellsN.drew (h : CellsN w b t l) : CellsN w.drew b t l := ⟨h.row⟩
theorem CellsN.set (h : CellsN w b t l) (i : Nat) (v : Value) : CellsN (w.setCell ⟨b, i, none⟩ v) b t (l.set i v) := by
  have hlt := h.lt
  have h' : w.heap[b] = .cells l.toArray t (0, 0) := by simpa [Array.getElem?_eq_getElem hlt] using h.row
  refine ⟨?_⟩
  show (w.heap.modify b _)[b]? = _
  rw [Array.getElem?_eq_getElem (by simpa using hlt), Array.getElem_modify_self, h']
  simp
theorem CellsN.other (h : CellsN w b t l) {a : Addr} (ha : a.block ≠ b) (v : Value) : CellsN (w.setCell a v) b t l := by
  refine ⟨?_⟩
  rw [← h.row]
  simp [World.setCell, Array.getElem?_modify, ha]
theorem CellsN.grown {row : Option Nat} (h : CellsN w b t l) (hg : w.grownBy w' row) (hn : row ≠ some b) : CellsN w' b t l := ⟨(hg.block b h.lt (Ne.symm hn)).trans h.row⟩
end
end Go.Proofs.Ytodnkkofammhbaa.Plain
/- Blocks that are known whole, apart by their types; such a block as a slice of the call's own. No conditions beyond those that each fact states. -/
namespace Go.Proofs.Ytodnkkofammhbaa.Plain
open Go.RowKit
set_option linter.unusedVariables false
/-- Two blocks of different types are two. -/
theorem CellsN.ne {w : World} {b b' : Nat} {t t' : TypeId} {l l' : List Value} (h : CellsN w b t l) (h' : CellsN w b' t' l') (hne : t ≠ t') : b ≠ b' := fun e => by
  subst e
  have h1 := h.row
  rw [h'.row] at h1
  simp at h1
  exact hne h1.2.symm
theorem CellsN.ne3 {w : World} {b b' : Nat} {t t' : TypeId} {l : List Value} {x y z : Value} (h : CellsN w b t l) (h' : Cells3 w b' t' x y z) (hne : t ≠ t') : b ≠ b' := fun e => by
  subst e
  have h1 := h.row
  rw [h'.row] at h1
  simp at h1
  exact hne h1.2.symm
theorem CellsN.ne_has {w : World} {b base : Nat} {t t' : TypeId} {l : List Value} {α : Type} {enc : α → Value} {v : Value} {xs : List α} (h : CellsN w b t l) (h' : Has enc t' w base v xs) (hne : t ≠ t') : v.ownBlock ≠ some b := by
  rcases h'.2 with ⟨rfl, _⟩ | ⟨g, cap, cur, rfl, _, hg, _⟩
  · intro h; cases h
  · intro e
    have e1 : g = b := by simpa [Value.ownBlock] using e
    subst e1
    have h1 := h.row
    rw [hg] at h1
    simp at h1
    exact hne h1.2.symm
/-- A block that is known whole, as a slice of the call's own. -/
theorem CellsN.has {w : World} {g n base : Nat} {e : TypeId} {α : Type} {enc : α → Value} {xs : List α} (h : CellsN w g e (xs.map enc)) (hn : xs.length = n) (hb : base ≤ g) (hm : n ≤ 1000000) : Has enc e w base (.slice (some ⟨g, 0, none⟩) n n) xs := by
  subst hn
  refine ⟨by simp, .inr ⟨g, xs.length, (xs.map enc).toArray, rfl, hb, h.row, Nat.le_refl _, by unfold maxLen; omega, by simp, by rw [Nat.mul_one]; show (xs.map enc).take xs.length = _; rw [List.take_of_length_le (by simp)]⟩⟩
end Go.Proofs.Ytodnkkofammhbaa.Plain
/- Slices of pairs that are the call's own, and the search for a pair in one. No conditions beyond those that each states. -/
namespace Go.Proofs.Ytodnkkofammhbaa
open Go.ChangeShapes Go.WideShapes Go.ChangeAt Go.RowKit
open Go.PlainAid Plain
set_option linter.unusedVariables false
namespace Comb
open Seqs
def encP (s : Pr) : Value := .agg #[.int .i64 s.1, .int .i64 s.2]
def flatP (L : List Pr) : List Value := L.flatMap fun s => [.int .i64 s.1, .int .i64 s.2]
theorem flatP_len : ∀ L : List Pr, (flatP L).length = L.length * 2
  | [] => rfl
  | s :: L => by simp [flatP] at *; have := flatP_len L; simp [flatP] at this; omega
theorem flatP_append (L M : List Pr) : flatP (L ++ M) = flatP L ++ flatP M := by simp [flatP]
theorem flatP_get : ∀ (L : List Pr) (i : Nat) (s : Pr), L[i]? = some s → (flatP L)[i * 2]? = some (.int .i64 s.1) ∧ (flatP L)[i * 2 + 1]? = some (.int .i64 s.2)
  | [], i, s, h => by simp at h
  | t :: L, 0, s, h => by
    simp at h
    subst h
    exact ⟨rfl, rfl⟩
  | t :: L, i + 1, s, h => by
    have h1 := flatP_get L i s (by simpa using h)
    have e : flatP (t :: L) = .int .i64 t.1 :: .int .i64 t.2 :: flatP L := rfl
    rw [e, show (i + 1) * 2 = i * 2 + 1 + 1 from by omega, show i * 2 + 1 + 1 + 1 = (i * 2 + 1) + 1 + 1 from by omega]
    simpa using h1
/-- A slice of pairs that the call owns, from block base on. -/
def OwnP (w : World) (base : Nat) (v : Value) (L : List Pr) : Prop := w.ownsRow base 57 2 v L.length (flatP L)
theorem OwnP.form {w : World} {base : Nat} {v : Value} {L : List Pr} (h : OwnP w base v L) (h0 : 0 < L.length) :
    ∃ g c cur, v = .slice (some ⟨g, 0, none⟩) L.length c ∧ base ≤ g ∧ g < w.heap.size ∧ w.heap[g]? = some (.cells cur 57 (0, 0)) := by
  rcases h.2 with ⟨_, h1⟩ | ⟨g, c, cur, rfl, hb, hc, _⟩
  · omega
  · exact ⟨g, c, cur, rfl, hb, (Array.getElem?_eq_some_iff.1 hc).1, hc⟩
theorem OwnP.cells {w : World} {base g c : Nat} {L : List Pr} (h : OwnP w base (.slice (some ⟨g, 0, none⟩) L.length c) L) {i : Nat} {s : Pr} (hi : L[i]? = some s) :
    w.cell? ⟨g, i * 2, none⟩ = some (.int .i64 s.1) ∧ w.cell? ⟨g, i * 2 + 1, none⟩ = some (.int .i64 s.2) := by
  have hg := flatP_get L i s hi
  have hl := (List.getElem?_eq_some_iff.1 hi).1
  have h1 : w.ownsRow base 57 2 (.slice (some ⟨g, 0, none⟩) L.length c) L.length (flatP L) := h
  exact ⟨(h1.cellAt _ (by omega)).trans hg.1, (h1.cellAt _ (by omega)).trans hg.2⟩
theorem OwnP.kept {w w' : World} {base : Nat} {v : Value} {L : List Pr} {r : Option Nat} (h : OwnP w base v L) (hg : w.grownBy w' r) (hn : v.ownBlock = none ∨ v.ownBlock ≠ r) : OwnP w' base v L := World.ownsRow.kept h hg hn
theorem OwnP.below {w w' : World} {base : Nat} {v : Value} {L : List Pr} (h : OwnP w base v L) (hb : Below w.heap.size w w') : OwnP w' base v L :=
  h.kept (Plain.grown_of_below hb) (by
    cases hv : v.ownBlock with
    | none => exact .inl rfl
    | some k => exact .inr (by simp))
/-- Where a pair lies; -1 where it doesn't. -/
def pairAt (L : List Pr) (x : Pr) : Int := if x ∈ L then (ix L x : Int) else -1
theorem pairAt_hit {L : List Pr} {x : Pr} {i : Nat} (hn : L.Nodup) (h : L[i]? = some x) : pairAt L x = (i : Int) := by
  rw [pairAt, if_pos (List.mem_of_getElem? h), idxOf_get hn h]
theorem pairAt_miss {L : List Pr} {x : Pr} (h : ∀ (i : Nat) (s : Pr), L[i]? = some s → ¬ x = s) : pairAt L x = -1 := by
  rw [pairAt, if_neg]
  intro hm
  obtain ⟨i, hi⟩ := List.getElem?_of_mem hm
  exact h i x hi rfl
theorem pair_arr : Try.prog.underlying 57 = some (.array 2 3) := by kernel_rfl
theorem pair_eq_d (d : Nat) (a b c e : Int) (w : World) : (Op.equalIn (d + 1 + 1) 57 (.agg #[.int .i64 a, .int .i64 b]) (.agg #[.int .i64 c, .int .i64 e])).run Try.prog w = .ok (a == c && b == e) w := by
  have hI : ∀ (x y : Int) (w : World), (Op.equalIn (d + 1) 3 (.int .i64 x) (.int .i64 y)).run Try.prog w = .ok (x == y) w := fun x y w => run_equalIn_int w d 3 .i64 .i64 x y Try.underlying3
  rw [Op.equalIn]
  simp only [Sem.run_bind, run_underlying pair_arr, Result.andThen_ok]
  simp [go_sem]
  rw [show List.range' 0 2 = [0, 1] from rfl]
  by_cases h1 : a = c
  · by_cases h2 : b = e
    · simp [go_sem, hI, h1, h2, Try.isAgg3, List.forIn_cons]
    · simp [go_sem, hI, h1, h2, Try.isAgg3, List.forIn_cons]
  · simp [go_sem, hI, h1, Try.isAgg3, List.forIn_cons]
theorem pair_eql (a b c e : Int) (w : World) : (binOp .eql 57 (.agg #[.int .i64 a, .int .i64 b]) (.agg #[.int .i64 c, .int .i64 e])).run Try.prog w = .ok (.bool (a == c && b == e)) w := by
  rw [run_eql_struct, pair_eq_d 9998 a b c e w]
  rfl
set_option maxRecDepth 100000 in
set_option maxHeartbeats 1000000 in
theorem index_pair (v : Value) (L : List Pr) (x1 x2 : Int) (w : World) (base : Nat) (h : OwnP w base v L) (h0 : 0 < L.length) (hn : L.Nodup) (hl : L.length ≤ 1000) :
    Calls Try.prog 65 #[v, .agg #[.int .i64 x1, .int .i64 x2]] w fun e w' => e = .returned (.int .i64 (pairAt L (x1, x2))) ∧ Below w.heap.size w w' := by
  obtain ⟨g, c, cur, rfl, hb, hg, _⟩ := h.form h0
  have HP := Lib.hid (fun (i : Nat) (s : Pr) (hi : L[i]? = some s) => h.cells hi)
  have HN := Lib.hid hn
  have hb1 : Below w.heap.size w (w.alloc (.cells #[.int .i64 x1, .int .i64 x2] 57)) := (Below.refl _ _).alloc (Nat.le_refl _) _
  have hx := CellsN.new w 57 [.int .i64 x1, .int .i64 x2]
  have HX := Lib.hid hx
  have HB := Lib.hid hb1
  clear h hn hb1 hx
  go_enter Try.func65, Try.ntmps65
  go_wp2
  obtain ⟨W, hW⟩ : ∃ W, W = w.alloc (.cells #[.int .i64 x1, .int .i64 x2] 57) := ⟨_, rfl⟩
  rw [← hW] at HB HX ⊢
  clear hW
  go_loopw [8] (fun i' wr => ∃ i : Nat, i ≤ L.length ∧ i' = .int .i64 i ∧ Hid (∀ (j : Nat) (s : Pr), j < i → L[j]? = some s → ¬ (x1, x2) = s) ∧ ∃ n, wr = W.drewN n) (fun i' _ => L.length - (intOf i').toNat)
  case atStart => exact ⟨0, Nat.zero_le _, rfl, fun j s h => by omega, 0, rfl⟩
  case round =>
    obtain ⟨i, hi, rfl, HI, n, rfl⟩ := hrel
    by_cases hlt : i < L.length
    · obtain ⟨s, hs⟩ : ∃ s, L[i]? = some s := ⟨_, List.getElem?_eq_getElem hlt⟩
      obtain ⟨c1, c2⟩ := HP.out i s hs
      have k1 := (HB.out.cell (p := ⟨g, i * 2, none⟩) hg).trans c1
      have k2 := (HB.out.cell (p := ⟨g, i * 2 + 1, none⟩) hg).trans c2
      have hi0 : (0 : Int) ≤ (i : Int) := Int.natCast_nonneg _
      have hiL : (i : Int) < (L.length : Int) := by omega
      have k3 := HX.out.at_ (i := 0) rfl
      have k4 := HX.out.at_ (i := 1) rfl
      have HS := Lib.hid hs
      obtain ⟨y1, y2⟩ := s
      clear c1 c2 hs
      simp only at k1 k2
      by_cases he1 : x1 = y1
      case neg =>
        have e1 : (x1 == y1) = false := by simpa using he1
        have hpe : ∀ W : World, (binOp .eql 57 (.agg #[.int .i64 x1, .int .i64 x2]) (.agg #[.int .i64 y1, .int .i64 y2])).run Try.prog W = .ok (.bool false) W := fun W => by rw [pair_eql, e1]; rfl
        have HN2 : Hid (∀ (j : Nat) (s : Pr), j < i + 1 → L[j]? = some s → ¬ (x1, x2) = s) := fun j s hj hjs => by
          by_cases e : j = i
          · subst e
            obtain rfl := Option.some.inj (HS.out.symm.trans hjs)
            intro e2
            exact he1 (Prod.mk.inj e2).1
          · exact HI.out j s (by omega) hjs
        go_wp2
        go_quiet (fail)
        go_wp2
        go_roundw
        case rel => exact ⟨i + 1, by omega, by go_num, HN2, _, rfl⟩
        case measure => simp [intOf]; omega
      case pos =>
        have e1 : (x1 == y1) = true := by simpa using he1
        have HE1 := Lib.hid he1
        clear he1
        by_cases he2 : x2 = y2
        case neg =>
          have e2 : (x2 == y2) = false := by simpa using he2
          have hpe : ∀ W : World, (binOp .eql 57 (.agg #[.int .i64 x1, .int .i64 x2]) (.agg #[.int .i64 y1, .int .i64 y2])).run Try.prog W = .ok (.bool false) W := fun W => by rw [pair_eql, e1, e2]; rfl
          clear e1 e2
          have HN2 : Hid (∀ (j : Nat) (s : Pr), j < i + 1 → L[j]? = some s → ¬ (x1, x2) = s) := fun j s hj hjs => by
            by_cases e : j = i
            · subst e
              obtain rfl := Option.some.inj (HS.out.symm.trans hjs)
              intro e2
              exact he2 (Prod.mk.inj e2).2
            · exact HI.out j s (by omega) hjs
          go_wp2
          go_quiet (fail)
          go_wp2
          go_roundw
          case rel => exact ⟨i + 1, by omega, by go_num, HN2, _, rfl⟩
          case measure => simp [intOf]; omega
        case pos =>
          have e2 : (x2 == y2) = true := by simpa using he2
          have hpe : ∀ W : World, (binOp .eql 57 (.agg #[.int .i64 x1, .int .i64 x2]) (.agg #[.int .i64 y1, .int .i64 y2])).run Try.prog W = .ok (.bool true) W := fun W => by rw [pair_eql, e1, e2]; rfl
          have HE2 := Lib.hid he2
          have HE : Hid (pairAt L (x1, x2) = (i : Int)) := pairAt_hit HN.out (by rw [HE1.out, HE2.out]; exact HS.out)
          clear he2 e1 e2
          go_wp2
          go_quiet (fail)
          go_wp2
          go_ret
          exact ⟨ret_i HE.out.symm, by rw [World.drewN_drewN]; exact below_drewN HB.out _⟩
    · have HE : Hid (pairAt L (x1, x2) = -1) := pairAt_miss fun j s hj => HI.out j s (by have := (List.getElem?_eq_some_iff.1 hj).1; omega) hj
      go_wp2
      go_ret
      exact ⟨ret_i HE.out.symm, below_drewN HB.out _⟩
end Comb
end Go.Proofs.Ytodnkkofammhbaa
/- Contracts of ConstantSequence, of the model and of the program. No conditions beyond those that each states. -/
namespace Go.Proofs.Ytodnkkofammhbaa
open Go.ChangeShapes Go.WideShapes Go.ChangeAt Go.RowKit
open Go.PlainAid Plain
set_option linter.unusedVariables false
namespace Comb
open Seqs
def conK (b v : Int) : Bool := decide ((2 ≤ b ∧ b ≤ 4) ∧ 0 ≤ v ∧ v ≤ 3)
def conB (b v : Int) : Int := if conK b v = true then b else 0
def conR (b v : Int) : List (List Int) := if conK b v = true then [List.replicate b.toNat 0] else []
def conO (b v : Int) : List Int := if conK b v = true then [v] else []
theorem con_no {b v : Int} (h : conK b v = false) : conB b v = 0 ∧ conR b v = [] ∧ conO b v = [] := by
  unfold conB conR conO
  rw [h]
  simp
theorem con_size (b v : Int) : tot (conR b v) + (conO b v).length ≤ 1000 := by
  unfold conR conO
  cases h : conK b v with
  | false => simp [tot]
  | true =>
    have h1 := of_decide_eq_true h
    simp only [if_true, tot]
    simp
    omega
theorem con_top {W : World} {lo : Nat} {us : List Value} {rows : List (List Int)} (h : OwnRows W lo W.heap.size us rows) (hlo : lo ≤ W.heap.size) (hu : us.length ≤ 100) :
    OwnR (W.alloc (.cells us.toArray 25)) lo (W.alloc (.cells us.toArray 25)).heap.size (.slice (some ⟨W.heap.size, 0, none⟩) us.length us.length) us rows := by
  have hb : Below W.heap.size W (W.alloc (.cells us.toArray 25)) := (Below.refl _ _).alloc (Nat.le_refl _) _
  have h1 : Has id 25 (W.alloc (.cells (us.map id).toArray 25)) lo (.slice (some ⟨W.heap.size, 0, none⟩) us.length us.length) us := Has.lit (enc := id) (e := 25) W us hlo (by omega)
  rw [List.map_id] at h1
  exact ⟨h1, fun k hk => (h1.lt k hk).2, Nat.le_refl _, (h.below hb).mono hb.size (Nat.le_refl _)⟩
theorem con_out {W : World} {lo base : Nat} {vn : Value} {us : List Value} {b : Int} {rows : List (List Int)} (h : OwnR W lo W.heap.size vn us rows) (hb : base ≤ lo) (hlo : lo ≤ W.heap.size) (xs : List Int) (hx : xs.length ≤ 100) :
    OwnS (W.alloc (.cells (xs.map (Value.int .i64)).toArray 3)) base (W.alloc (.cells (xs.map (Value.int .i64)).toArray 3)).heap.size (.agg #[.int .i64 b, vn, .slice (some ⟨W.heap.size, 0, none⟩) xs.length xs.length]) b rows xs := by
  have hbb : Below W.heap.size W (W.alloc (.cells (xs.map (Value.int .i64)).toArray 3)) := (Below.refl _ _).alloc (Nat.le_refl _) _
  have h1 : Has (Value.int .i64) 3 (W.alloc (.cells (xs.map (Value.int .i64)).toArray 3)) W.heap.size (.slice (some ⟨W.heap.size, 0, none⟩) xs.length xs.length) xs := Has.lit (enc := Value.int .i64) (e := 3) W xs (Nat.le_refl _) (by omega)
  exact OwnS.make (h.below hbb) ⟨h1, fun k hk => (h1.lt k hk).2, Nat.le_refl _⟩ hb hlo hbb.size
set_option maxRecDepth 100000 in
set_option maxHeartbeats 1000000 in
theorem impl_const (b v : Int) (w : World) :
    Calls Try.prog 24 #[.int .i64 b, .int .i64 v] w (GivesK (conB b v) (conR b v) (conO b v) (conK b v) w) := by
  obtain ⟨i0, hi0, hz0, hz1, hz2⟩ := info_parts Ints.infoI
  by_cases hb : 2 ≤ b ∧ b ≤ 4
  case neg =>
    have hk : conK b v = false := decide_eq_false fun h => hb h.1
    have HBN := Lib.hid (show b < 2 ∨ 4 < b by omega)
    clear hb
    have HN := Lib.hid (con_no hk)
    have HK := Lib.hid hk
    rw [HN.out.1, HN.out.2.1, HN.out.2.2, HK.out]
    clear hk
    go_enter Try.func24, Try.ntmps24
    go_wp2_with fail
    refine (Digits.base_no _ _ HBN.out).mono ?_
    rintro e w' ⟨rfl, rfl⟩
    go_wp2
    refine bodyPost_ret (v := .tuple #[.agg #[.int .i64 0, .slice none 0 0, .slice none 0 0], .bool false]) (by simp [results, Try.results24, go_sem]) rfl ⟨_, rfl, OwnS.zero _, ?_⟩
    exact (Below.refl _ _).alloc (Nat.le_refl _) _
  case pos =>
  obtain ⟨hb2, hb4⟩ := hb
  by_cases hv : 0 ≤ v ∧ v ≤ 3
  case neg =>
    have hk : conK b v = false := decide_eq_false fun h => hv h.2
    have HBN := Lib.hid (show v < 0 ∨ 3 < v by omega)
    clear hv
    have HN := Lib.hid (con_no hk)
    have HK := Lib.hid hk
    rw [HN.out.1, HN.out.2.1, HN.out.2.2, HK.out]
    clear hk
    go_enter Try.func24, Try.ntmps24
    go_wp2_with fail
    refine (Digits.base_yes _ _ hb2 hb4).mono ?_
    rintro e w' ⟨rfl, rfl⟩
    go_wp2_with fail
    refine (term_no _ _ HBN.out).mono ?_
    rintro e w' ⟨rfl, rfl⟩
    go_wp2
    refine bodyPost_ret (v := .tuple #[.agg #[.int .i64 0, .slice none 0 0, .slice none 0 0], .bool false]) (by simp [results, Try.results24, go_sem]) rfl ⟨_, rfl, OwnS.zero _, ?_⟩
    exact (Below.refl _ _).alloc (Nat.le_refl _) _
  case pos =>
    obtain ⟨hv0, hv3⟩ := hv
    have hk : conK b v = true := decide_eq_true ⟨⟨hb2, hb4⟩, hv0, hv3⟩
    obtain ⟨n, rfl⟩ : ∃ n : Nat, b = (n : Int) := ⟨b.toNat, by omega⟩
    have HE := Lib.hid (show conB (n : Int) v = (n : Int) ∧ conR (n : Int) v = [List.replicate n 0] ∧ conO (n : Int) v = [v] from by
      unfold conB conR conO
      rw [hk]
      exact ⟨rfl, rfl, rfl⟩)
    rw [HE.out.1, HE.out.2.1, HE.out.2.2, hk]
    have HZ := Lib.hid (Cells3.new w 27 (.int .i64 0) (.slice none 0 0) (.slice none 0 0))
    clear hk
    go_enter Try.func24, Try.ntmps24
    go_wp2_with fail
    refine (Digits.base_yes _ _ hb2 hb4).mono ?_
    rintro e w' ⟨rfl, rfl⟩
    go_wp2_with fail
    refine (term_yes _ _ hv0 hv3).mono ?_
    rintro e w' ⟨rfl, rfl⟩
    have hb1 : Below w.heap.size w (w.alloc (Obj.cells #[Value.int .i64 0, Value.slice none 0 0, Value.slice none 0 0] 27)) := (Below.refl _ _).alloc (Nat.le_refl _) _
    obtain ⟨W1, hW1⟩ : ∃ W, W = w.alloc (Obj.cells #[Value.int .i64 0, Value.slice none 0 0, Value.slice none 0 0] 27) := ⟨_, rfl⟩
    rw [← hW1] at HZ hb1 ⊢
    clear hW1
    have HB1 := Lib.hid hb1
    clear hb1
    have z0 := HZ.out.c0
    have z1 := HZ.out.c1
    have z2 := HZ.out.c2
    have z3 := HZ.out.f
    go_wp2_with (at_make; refine wpList_make_full W1 rfl _ _ 25 rfl W1.heap.size 3 i0 (.int .i64 0) 1 Try.underlying25 hi0 hz0 hz1 .i64 .i64 _ _ n rfl rfl rfl rfl (by rw [hz2]; omega) (by unfold maxLen; omega) (Nat.le_refl _) ?_; intro w1 hown hgrow; have hbw := below_of_grown hgrow; have HB2 := Lib.hid hbw; have HOW := Lib.hid hown; have HZ1 := Lib.hid (((HZ.out.below hbw).alloc (.cells #[.slice (some ⟨W1.heap.size, 0, none⟩) n n] 25)).alloc (.cells #[.int .i64 v] 3)); have z0' := HZ1.out.c0; have z1' := HZ1.out.c1; have z2' := HZ1.out.c2; have z3' := HZ1.out.f)
    have hR : Has (Value.int .i64) 3 w1 W1.heap.size (.slice (some ⟨W1.heap.size, 0, none⟩) n n) (List.replicate n 0) := Ints.made_has HOW.out
    have hRows : OwnRows w1 W1.heap.size w1.heap.size [.slice (some ⟨W1.heap.size, 0, none⟩) n n] [List.replicate n 0] := (OwnRows.nil w1 W1.heap.size W1.heap.size).snoc ⟨hR, fun k hk => (hR.lt k hk).2, Nat.le_refl _⟩ (Nat.le_refl _) HB2.out.size
    have hlt := HZ.out.lt
    have hS := con_out (b := (n : Int)) (base := w.heap.size + 1) (con_top hRows HB2.out.size (by simp)) (show w.heap.size + 1 ≤ W1.heap.size by omega) (by have := HB2.out.size; simp only [size_alloc'] <;> omega) [v] (by simp)
    have h12 := HB2.out.size
    have hBe := ((HB1.out.trans (HB2.out.mono HB1.out.size)).alloc (show w.heap.size ≤ w1.heap.size by omega) (.cells #[.slice (some ⟨W1.heap.size, 0, none⟩) n n] 25)).alloc (show w.heap.size ≤ (w1.alloc (.cells #[.slice (some ⟨W1.heap.size, 0, none⟩) n n] 25)).heap.size by rw [size_alloc']; omega) (.cells #[.int .i64 v] 3)
    have hZ3 := (((HZ1.out.set0 (.int .i64 (n : Int))).set1 (.slice (some ⟨w1.heap.size, 0, none⟩) 1 1)).set2 (.slice (some ⟨w1.heap.size + 1, 0, none⟩) 1 1))
    have n0 := hZ3.c0
    have n1 := hZ3.c1
    have n2 := hZ3.c2
    refine bodyPost_ret (v := .tuple #[.agg #[.int .i64 (n : Int), .slice (some ⟨w1.heap.size, 0, none⟩) 1 1, .slice (some ⟨w1.heap.size + 1, 0, none⟩) 1 1], .bool true]) (by simp [results, Try.results24, go_sem, n0, n1, n2]) rfl ⟨_, rfl, ?_, ?_⟩
    · have hT : ∀ (i : Nat) (u : Value) (W : World), Plain.Touch w.heap.size (w.heap.size + 1) W (W.setCell ⟨w.heap.size, i, none⟩ u) := fun i u W => Plain.Touch.of_set (a := ⟨w.heap.size, i, none⟩) u (Nat.le_refl _) (Nat.lt_succ_self _)
      have T0 : Plain.Touch w.heap.size (w.heap.size + 1) ((w1.alloc (.cells #[.slice (some ⟨W1.heap.size, 0, none⟩) n n] 25)).alloc (.cells #[.int .i64 v] 3)) ((((((w1.alloc (.cells #[.slice (some ⟨W1.heap.size, 0, none⟩) n n] 25)).alloc (.cells #[.int .i64 v] 3))).setCell ⟨w.heap.size, 0, none⟩ (.int .i64 (n : Int))).setCell ⟨w.heap.size, 1, none⟩ (.slice (some ⟨w1.heap.size, 0, none⟩) 1 1)).setCell ⟨w.heap.size, 2, none⟩ (.slice (some ⟨w1.heap.size + 1, 0, none⟩) 1 1)) :=
        ((hT 0 _ _).trans (hT 1 _ _)).trans (hT 2 _ _)
      simp only [size_alloc', List.map_cons, List.map_nil, List.length_cons, List.length_nil] at hS
      have h := (hS.touch T0 (.inr (Nat.le_refl _))).lower (show w.heap.size ≤ w.heap.size + 1 by omega)
      simp only [size_setCell', size_alloc']
      exact h
    · exact ((hBe.setCell (Nat.le_refl _) _).setCell (Nat.le_refl _) _).setCell (Nat.le_refl _) _
set_option maxRecDepth 100000 in
set_option maxHeartbeats 1000000 in
theorem spec_const (b v : Int) (w : World) :
    Calls Try.prog 25 #[.int .i64 b, .int .i64 v] w (GivesK (conB b v) (conR b v) (conO b v) (conK b v) w) := by
  obtain ⟨i0, hi0, hz0, hz1, hz2⟩ := info_parts Ints.infoI
  by_cases hb : 2 ≤ b ∧ b ≤ 4
  case neg =>
    have hk : conK b v = false := decide_eq_false fun h => hb h.1
    have HBN := Lib.hid (show b < 2 ∨ 4 < b by omega)
    clear hb
    have HN := Lib.hid (con_no hk)
    have HK := Lib.hid hk
    rw [HN.out.1, HN.out.2.1, HN.out.2.2, HK.out]
    clear hk
    go_enter Try.func25, Try.ntmps25
    go_wp2_with fail
    refine (l1In_no _ _ _ _ HBN.out).mono ?_
    rintro e w' ⟨rfl, rfl⟩
    go_wp2
    refine bodyPost_ret (v := .tuple #[.agg #[.int .i64 0, .slice none 0 0, .slice none 0 0], .bool false]) (by simp [results, Try.results25, go_sem]) rfl ⟨_, rfl, OwnS.zero _, ?_⟩
    exact (Below.refl _ _).alloc (Nat.le_refl _) _
  case pos =>
  obtain ⟨hb2, hb4⟩ := hb
  by_cases hv : 0 ≤ v ∧ v ≤ 3
  case neg =>
    have hk : conK b v = false := decide_eq_false fun h => hv h.2
    have HBN := Lib.hid (show v < 0 ∨ 3 < v by omega)
    clear hv
    have HN := Lib.hid (con_no hk)
    have HK := Lib.hid hk
    rw [HN.out.1, HN.out.2.1, HN.out.2.2, HK.out]
    clear hk
    go_enter Try.func25, Try.ntmps25
    go_wp2_with fail
    refine (l1In_yes _ _ _ _ hb2 hb4).mono ?_
    rintro e w' ⟨rfl, rfl⟩
    go_wp2_with fail
    refine (l1In_no _ _ _ _ HBN.out).mono ?_
    rintro e w' ⟨rfl, rfl⟩
    go_wp2
    refine bodyPost_ret (v := .tuple #[.agg #[.int .i64 0, .slice none 0 0, .slice none 0 0], .bool false]) (by simp [results, Try.results25, go_sem]) rfl ⟨_, rfl, OwnS.zero _, ?_⟩
    exact (Below.refl _ _).alloc (Nat.le_refl _) _
  case pos =>
    obtain ⟨hv0, hv3⟩ := hv
    have hk : conK b v = true := decide_eq_true ⟨⟨hb2, hb4⟩, hv0, hv3⟩
    obtain ⟨n, rfl⟩ : ∃ n : Nat, b = (n : Int) := ⟨b.toNat, by omega⟩
    have HE := Lib.hid (show conB (n : Int) v = (n : Int) ∧ conR (n : Int) v = [List.replicate n 0] ∧ conO (n : Int) v = [v] from by
      unfold conB conR conO
      rw [hk]
      exact ⟨rfl, rfl, rfl⟩)
    rw [HE.out.1, HE.out.2.1, HE.out.2.2, hk]
    have HZ := Lib.hid (Cells3.new w 27 (.int .i64 0) (.slice none 0 0) (.slice none 0 0))
    clear hk
    go_enter Try.func25, Try.ntmps25
    go_wp2_with fail
    refine (l1In_yes _ _ _ _ hb2 hb4).mono ?_
    rintro e w' ⟨rfl, rfl⟩
    go_wp2_with fail
    refine (l1In_yes _ _ _ _ hv0 hv3).mono ?_
    rintro e w' ⟨rfl, rfl⟩
    have hb1 : Below w.heap.size w (w.alloc (Obj.cells #[Value.int .i64 0, Value.slice none 0 0, Value.slice none 0 0] 27)) := (Below.refl _ _).alloc (Nat.le_refl _) _
    obtain ⟨W1, hW1⟩ : ∃ W, W = w.alloc (Obj.cells #[Value.int .i64 0, Value.slice none 0 0, Value.slice none 0 0] 27) := ⟨_, rfl⟩
    rw [← hW1] at HZ hb1 ⊢
    clear hW1
    have HB1 := Lib.hid hb1
    clear hb1
    have z0 := HZ.out.c0
    have z1 := HZ.out.c1
    have z2 := HZ.out.c2
    have z3 := HZ.out.f
    go_wp2_with (at_make; refine wpList_make_full W1 rfl _ _ 25 rfl W1.heap.size 3 i0 (.int .i64 0) 1 Try.underlying25 hi0 hz0 hz1 .i64 .i64 _ _ n rfl rfl rfl rfl (by rw [hz2]; omega) (by unfold maxLen; omega) (Nat.le_refl _) ?_; intro w1 hown hgrow; have hbw := below_of_grown hgrow; have HB2 := Lib.hid hbw; have HOW := Lib.hid hown; have HZ1 := Lib.hid (((HZ.out.below hbw).alloc (.cells #[.slice (some ⟨W1.heap.size, 0, none⟩) n n] 25)).alloc (.cells #[.int .i64 v] 3)); have z0' := HZ1.out.c0; have z1' := HZ1.out.c1; have z2' := HZ1.out.c2; have z3' := HZ1.out.f)
    have hR : Has (Value.int .i64) 3 w1 W1.heap.size (.slice (some ⟨W1.heap.size, 0, none⟩) n n) (List.replicate n 0) := Ints.made_has HOW.out
    have hRows : OwnRows w1 W1.heap.size w1.heap.size [.slice (some ⟨W1.heap.size, 0, none⟩) n n] [List.replicate n 0] := (OwnRows.nil w1 W1.heap.size W1.heap.size).snoc ⟨hR, fun k hk => (hR.lt k hk).2, Nat.le_refl _⟩ (Nat.le_refl _) HB2.out.size
    have hlt := HZ.out.lt
    have hS := con_out (b := (n : Int)) (base := w.heap.size + 1) (con_top hRows HB2.out.size (by simp)) (show w.heap.size + 1 ≤ W1.heap.size by omega) (by have := HB2.out.size; simp only [size_alloc'] <;> omega) [v] (by simp)
    have h12 := HB2.out.size
    have hBe := ((HB1.out.trans (HB2.out.mono HB1.out.size)).alloc (show w.heap.size ≤ w1.heap.size by omega) (.cells #[.slice (some ⟨W1.heap.size, 0, none⟩) n n] 25)).alloc (show w.heap.size ≤ (w1.alloc (.cells #[.slice (some ⟨W1.heap.size, 0, none⟩) n n] 25)).heap.size by rw [size_alloc']; omega) (.cells #[.int .i64 v] 3)
    have hZ3 := (((HZ1.out.set0 (.int .i64 (n : Int))).set1 (.slice (some ⟨w1.heap.size, 0, none⟩) 1 1)).set2 (.slice (some ⟨w1.heap.size + 1, 0, none⟩) 1 1))
    have n0 := hZ3.c0
    have n1 := hZ3.c1
    have n2 := hZ3.c2
    refine bodyPost_ret (v := .tuple #[.agg #[.int .i64 (n : Int), .slice (some ⟨w1.heap.size, 0, none⟩) 1 1, .slice (some ⟨w1.heap.size + 1, 0, none⟩) 1 1], .bool true]) (by simp [results, Try.results25, go_sem, n0, n1, n2]) rfl ⟨_, rfl, ?_, ?_⟩
    · have hT : ∀ (i : Nat) (u : Value) (W : World), Plain.Touch w.heap.size (w.heap.size + 1) W (W.setCell ⟨w.heap.size, i, none⟩ u) := fun i u W => Plain.Touch.of_set (a := ⟨w.heap.size, i, none⟩) u (Nat.le_refl _) (Nat.lt_succ_self _)
      have T0 : Plain.Touch w.heap.size (w.heap.size + 1) ((w1.alloc (.cells #[.slice (some ⟨W1.heap.size, 0, none⟩) n n] 25)).alloc (.cells #[.int .i64 v] 3)) ((((((w1.alloc (.cells #[.slice (some ⟨W1.heap.size, 0, none⟩) n n] 25)).alloc (.cells #[.int .i64 v] 3))).setCell ⟨w.heap.size, 0, none⟩ (.int .i64 (n : Int))).setCell ⟨w.heap.size, 1, none⟩ (.slice (some ⟨w1.heap.size, 0, none⟩) 1 1)).setCell ⟨w.heap.size, 2, none⟩ (.slice (some ⟨w1.heap.size + 1, 0, none⟩) 1 1)) :=
        ((hT 0 _ _).trans (hT 1 _ _)).trans (hT 2 _ _)
      simp only [size_alloc', List.map_cons, List.map_nil, List.length_cons, List.length_nil] at hS
      have h := (hS.touch T0 (.inr (Nat.le_refl _))).lower (show w.heap.size ≤ w.heap.size + 1 by omega)
      simp only [size_setCell', size_alloc']
      exact h
    · exact ((hBe.setCell (Nat.le_refl _) _).setCell (Nat.le_refl _) _).setCell (Nat.le_refl _) _
end Comb
end Go.Proofs.Ytodnkkofammhbaa
/- Contract of DigitSequence of the program. No conditions beyond those that it states. -/
namespace Go.Proofs.Ytodnkkofammhbaa
open Go.ChangeShapes Go.WideShapes Go.ChangeAt Go.RowKit
open Go.PlainAid Plain
set_option linter.unusedVariables false
namespace Comb
open Seqs
def dgK (b m : Int) : Bool := decide ((2 ≤ b ∧ b ≤ 4) ∧ 1 ≤ m ∧ m ≤ 4)
def dgPart (m i k : Nat) : List Int := (List.range k).map fun k : Nat => (((i + k) % m : Nat) : Int)
def dgRow (b m i : Nat) : List Int := dgPart m i b
def dgRows (b m i : Nat) : List (List Int) := (List.range i).map (dgRow b m)
def dgOut (i : Nat) : List Int := (List.range i).map fun k : Nat => (k : Int)
def dgB (b m : Int) : Int := if dgK b m = true then b else 0
def dgR (b m : Int) : List (List Int) := if dgK b m = true then dgRows b.toNat m.toNat m.toNat else []
def dgO (b m : Int) : List Int := if dgK b m = true then dgOut m.toNat else []
theorem dg_no {b m : Int} (h : dgK b m = false) : dgB b m = 0 ∧ dgR b m = [] ∧ dgO b m = [] := by
  unfold dgB dgR dgO
  rw [h]
  simp
theorem dgPart_len (m i k : Nat) : (dgPart m i k).length = k := by simp [dgPart]
theorem dgPart_succ (m i k : Nat) : dgPart m i (k + 1) = dgPart m i k ++ [(((i + k) % m : Nat) : Int)] := by simp [dgPart, List.range_succ]
theorem dgRows_succ (b m i : Nat) : dgRows b m (i + 1) = dgRows b m i ++ [dgRow b m i] := by simp [dgRows, List.range_succ]
theorem dgOut_succ (i : Nat) : dgOut (i + 1) = dgOut i ++ [(i : Int)] := by simp [dgOut, List.range_succ]
theorem dgRows_len (b m i : Nat) : (dgRows b m i).length = i := by simp [dgRows]
theorem dgOut_len (i : Nat) : (dgOut i).length = i := by simp [dgOut]
theorem dg_valid {b m : Int} (h : dgK b m = true) : IsSeq b (dgR b m) (dgO b m) := by
  have h1 := of_decide_eq_true h
  unfold dgR dgO
  rw [if_pos h, if_pos h]
  refine ⟨h1.1.1, h1.1.2, by rw [dgRows_len]; omega, by rw [dgRows_len]; omega, by rw [dgRows_len, dgOut_len], fun r hr => ?_, fun x hx => ?_⟩
  · obtain ⟨i, hi, rfl⟩ := List.mem_map.1 hr
    refine ⟨by rw [dgRow, dgPart_len]; omega, fun x hx => ?_⟩
    obtain ⟨k, hk, rfl⟩ := List.mem_map.1 hx
    rw [dgRows_len]
    have := Nat.mod_lt (i + k) (show m.toNat > 0 by omega)
    omega
  · obtain ⟨k, hk, rfl⟩ := List.mem_map.1 hx
    have := List.mem_range.1 hk
    omega
theorem dg_size (b m : Int) : tot (dgR b m) + (dgO b m).length ≤ 1000 := by
  cases h : dgK b m with
  | false => rw [(dg_no h).2.1, (dg_no h).2.2]; simp [tot]
  | true =>
    have hv := seq_rows4 (seqB_yes (dg_valid h))
    have := tot_le4 _ hv.1
    omega
theorem mod_val (i k m : Nat) : ((i : Int) + (k : Int)).tmod (m : Int) = (((i + k) % m : Nat) : Int) := by
  rw [← Int.natCast_add, Int.tmod_eq_emod_of_nonneg (Int.natCast_nonneg _), Int.natCast_emod]
theorem fill_dg {l : List Int} {n i : Nat} (c : Int) (hl : l.length = i) (h : i < n) : ((l ++ List.replicate (n - i) 0).map (Value.int .i64)).set i (.int .i64 c) = ((l ++ [c]) ++ List.replicate (n - (i + 1)) 0).map (Value.int .i64) := by
  rw [show n - i = (n - (i + 1)) + 1 from by omega, List.replicate_succ, List.map_append, List.map_cons, set_mid _ _ _ _ i (by rw [List.length_map]; exact hl), List.append_assoc, List.map_append]
  rfl
set_option maxRecDepth 100000 in
set_option maxHeartbeats 1000000 in
theorem impl_dig_no (b m : Int) (w : World) (hk : dgK b m = false) :
    Calls Try.prog 17 #[.int .i64 b, .int .i64 m] w (GivesK (dgB b m) (dgR b m) (dgO b m) (dgK b m) w) := by
  have hd := of_decide_eq_false hk
  have HN := Lib.hid (dg_no hk)
  have HK := Lib.hid hk
  rw [HN.out.1, HN.out.2.1, HN.out.2.2, HK.out]
  clear hk
  by_cases hb : 2 ≤ b ∧ b ≤ 4
  case neg =>
    have HBN := Lib.hid (show b < 2 ∨ 4 < b by omega)
    clear hb hd
    go_enter Try.func17, Try.ntmps17
    go_wp2_with fail
    refine (Digits.base_no _ _ HBN.out).mono ?_
    rintro e w' ⟨rfl, rfl⟩
    go_wp2
    refine bodyPost_ret (v := .tuple #[.agg #[.int .i64 0, .slice none 0 0, .slice none 0 0], .bool false]) (by simp [results, Try.results17, go_sem]) rfl ⟨_, rfl, OwnS.zero _, ?_⟩
    exact (Below.refl _ _).alloc (Nat.le_refl _) _
  case pos =>
    obtain ⟨hb2, hb4⟩ := hb
    by_cases hm : m < 1
    · have hd1 := decide_eq_true hm
      clear hd
      go_enter Try.func17, Try.ntmps17
      go_wp2_with fail
      refine (Digits.base_yes _ _ hb2 hb4).mono ?_
      rintro e w' ⟨rfl, rfl⟩
      go_wp2
      refine bodyPost_ret (v := .tuple #[.agg #[.int .i64 0, .slice none 0 0, .slice none 0 0], .bool false]) (by simp [results, Try.results17, go_sem]) rfl ⟨_, rfl, OwnS.zero _, ?_⟩
      exact (Below.refl _ _).alloc (Nat.le_refl _) _
    · have hd1 := decide_eq_false hm
      have hd2 : decide (m > 4) = true := decide_eq_true (by omega)
      clear hd
      go_enter Try.func17, Try.ntmps17
      go_wp2_with fail
      refine (Digits.base_yes _ _ hb2 hb4).mono ?_
      rintro e w' ⟨rfl, rfl⟩
      go_wp2
      refine bodyPost_ret (v := .tuple #[.agg #[.int .i64 0, .slice none 0 0, .slice none 0 0], .bool false]) (by simp [results, Try.results17, go_sem]) rfl ⟨_, rfl, OwnS.zero _, ?_⟩
      exact (Below.refl _ _).alloc (Nat.le_refl _) _
set_option maxRecDepth 100000 in
set_option maxHeartbeats 2000000 in
theorem impl_dig_yes (bn mn : Nat) (w : World) (hb2 : 2 ≤ bn) (hb4 : bn ≤ 4) (hm1 : 1 ≤ mn) (hm4 : mn ≤ 4) :
    Calls Try.prog 17 #[.int .i64 (bn : Int), .int .i64 (mn : Int)] w (GivesK (bn : Int) (dgRows bn mn mn) (dgOut mn) true w) := by
  obtain ⟨i0, hi0, hz0, hz1, hz2⟩ := info_parts Ints.infoI
  obtain ⟨i2, hi2, hz20, hz21, hz22⟩ := info_parts infoR
  have hd1 := decide_eq_false (show ¬ (mn : Int) < 1 by omega)
  have hd2 := decide_eq_false (show ¬ (mn : Int) > 4 by omega)
  have hZ1 := (Cells3.new w 27 (.int .i64 0) (.slice none 0 0) (.slice none 0 0)).alloc (Obj.cells #[Value.int .i64 (bn : Int), Value.slice none 0 0, Value.slice none 0 0] 27)
  have hP1 := Cells3.new (w.alloc (Obj.cells #[Value.int .i64 0, Value.slice none 0 0, Value.slice none 0 0] 27)) 27 (.int .i64 (bn : Int)) (.slice none 0 0) (.slice none 0 0)
  rw [size_alloc'] at hP1
  have hB1 : Below w.heap.size w ((w.alloc (Obj.cells #[Value.int .i64 0, Value.slice none 0 0, Value.slice none 0 0] 27)).alloc (Obj.cells #[Value.int .i64 (bn : Int), Value.slice none 0 0, Value.slice none 0 0] 27)) := ((Below.refl _ _).alloc (Nat.le_refl _) _).alloc (by simp only [size_alloc'] <;> omega) _
  have HSZ := Lib.hid (show ((w.alloc (Obj.cells #[Value.int .i64 0, Value.slice none 0 0, Value.slice none 0 0] 27)).alloc (Obj.cells #[Value.int .i64 (bn : Int), Value.slice none 0 0, Value.slice none 0 0] 27)).heap.size = w.heap.size + 2 by rw [size_alloc', size_alloc'])
  have HZ1 := Lib.hid hZ1
  have HP1 := Lib.hid hP1
  have HB1 := Lib.hid hB1
  clear hZ1 hP1 hB1
  go_enter Try.func17, Try.ntmps17
  go_wp2_with fail
  refine (Digits.base_yes _ _ (by omega) (by omega)).mono ?_
  rintro e w' ⟨rfl, rfl⟩
  go_wp2
  obtain ⟨W2, hW2⟩ : ∃ W, W = (w.alloc (Obj.cells #[Value.int .i64 0, Value.slice none 0 0, Value.slice none 0 0] 27)).alloc (Obj.cells #[Value.int .i64 (bn : Int), Value.slice none 0 0, Value.slice none 0 0] 27) := ⟨_, rfl⟩
  rw [← hW2] at HZ1 HP1 HB1 HSZ ⊢
  clear hW2
  obtain ⟨p, hp⟩ : ∃ p, p = w.heap.size + 1 := ⟨_, rfl⟩
  rw [← hp] at HP1 ⊢
  obtain ⟨BB, hBB⟩ : ∃ B, B = W2.heap.size := ⟨_, rfl⟩
  have HBB : Hid (w.heap.size < p ∧ p < BB ∧ w.heap.size + 2 ≤ BB) := by
    have := HSZ.out
    show _ ∧ _ ∧ _
    omega
  have hBL : Hid (Building W2 BB BB p (bn : Int) (.slice none 0 0) (.slice none 0 0) [] (dgRows bn mn 0) (dgOut 0)) := by
    show Building W2 BB BB p (bn : Int) (.slice none 0 0) (.slice none 0 0) [] [] []
    exact Building.start HP1.out (by rw [hBB]; exact Nat.le_refl _)
  have hZ := HZ1
  have hB := HB1
  clear hp hBB HZ1 HP1 HB1 HSZ
  go_loopw [25] (fun i' wr => ∃ (i : Nat) (vn vo : Value) (us : List Value) (hi : Nat), i ≤ mn ∧ i' = .int .i64 i ∧ Hid (Building wr BB hi p (bn : Int) vn vo us (dgRows bn mn i) (dgOut i)) ∧ Hid (Cells3 wr w.heap.size 27 (.int .i64 0) (.slice none 0 0) (.slice none 0 0)) ∧ Hid (Below w.heap.size w wr)) (fun i' _ => mn - (intOf i').toNat)
  case atStart => exact ⟨0, _, _, [], BB, Nat.zero_le _, rfl, hBL, hZ, hB⟩
  case round =>
    clear hBL hZ hB
    obtain ⟨i, vn, vo, us, hi, hil, rfl, hBL, hZ, hB⟩ := hrel
    obtain ⟨W3, rfl⟩ : ∃ W : World, W = wr := ⟨_, rfl⟩
    obtain ⟨na, nc, oa, oc, hvn, hvo⟩ := hBL.out.form
    rw [dgRows_len] at hvn
    rw [dgOut_len] at hvo
    subst hvn; subst hvo
    have HUSL : Hid (us.length = i) := by show _ = _; rw [hBL.out.len, dgRows_len]
    by_cases hlt : i < mn
    case neg =>
      obtain rfl : i = mn := by omega
      have HW : Hid (OwnS W3 BB W3.heap.size (.agg #[.int .i64 (bn : Int), .slice na i nc, .slice oa i oc]) (bn : Int) (dgRows bn i i) (dgOut i)) := hBL.out.seq
      have hP := hBL.out.cells
      have m0 := hP.c0
      have m1 := hP.c1
      have m2 := hP.c2
      have z0 := hZ.out.c0
      have z1 := hZ.out.c1
      have z2 := hZ.out.c2
      have z3 := hZ.out.f
      clear hP
      go_wp2
      have hZ3 := (((hZ.out.set0 (.int .i64 (bn : Int))).set1 (.slice na i nc)).set2 (.slice oa i oc))
      have n0 := hZ3.c0
      have n1 := hZ3.c1
      have n2 := hZ3.c2
      refine bodyPost_ret (v := .tuple #[.agg #[.int .i64 (bn : Int), .slice na i nc, .slice oa i oc], .bool true]) (by simp [results, Try.results17, go_sem, n0, n1, n2]) rfl ⟨_, rfl, ?_, ?_⟩
      · have hT : ∀ (i : Nat) (u : Value) (W : World), Plain.Touch w.heap.size (w.heap.size + 1) W (W.setCell ⟨w.heap.size, i, none⟩ u) := fun i u W => Plain.Touch.of_set (a := ⟨w.heap.size, i, none⟩) u (Nat.le_refl _) (Nat.lt_succ_self _)
        have T0 : Plain.Touch w.heap.size (w.heap.size + 1) W3 (((W3.setCell ⟨w.heap.size, 0, none⟩ (.int .i64 (bn : Int))).setCell ⟨w.heap.size, 1, none⟩ (.slice na i nc)).setCell ⟨w.heap.size, 2, none⟩ (.slice oa i oc)) := ((hT 0 _ _).trans (hT 1 _ _)).trans (hT 2 _ _)
        have := (HW.out.touch T0 (.inr (by have := HBB.out; omega))).lower (show w.heap.size ≤ BB by have := HBB.out; omega)
        simpa only [size_setCell'] using this
      · exact ((hB.out.setCell (Nat.le_refl _) _).setCell (Nat.le_refl _) _).setCell (Nat.le_refl _) _
    case pos =>
      have hii0 : (0 : Int) ≤ (i : Int) := Int.natCast_nonneg _
      have hiM : (i : Int) < (mn : Int) := by omega
      go_wp2_with (at_make; refine wpList_make_full W3 rfl _ _ 25 rfl W3.heap.size 3 i0 (.int .i64 0) 1 Try.underlying25 hi0 hz0 hz1 .i64 .i64 _ _ bn rfl rfl rfl rfl (by rw [hz2]; omega) (by unfold maxLen; omega) (Nat.le_refl _) ?_; intro w1 hown hgrow; have hbw := below_of_grown hgrow)
      have hO : Hid (w1.ownsRow W3.heap.size 3 1 (.slice (some ⟨W3.heap.size, 0, none⟩) bn bn) bn ((dgPart mn i 0 ++ List.replicate (bn - 0) (0 : Int)).map (Value.int .i64))) := by
        show w1.ownsRow _ _ _ _ _ _
        rw [Ints.zero_made] at hown
        simpa [dgPart] using hown
      have hBW := Lib.hid hbw
      obtain ⟨zb, hzb⟩ : ∃ z, z = W3.heap.size := ⟨_, rfl⟩
      have HZB := Lib.hid hzb
      rw [← hzb] at hO ⊢
      clear hown hgrow hbw hzb
      go_loopw [32] (fun k' wr => ∃ k : Nat, k ≤ bn ∧ k' = .int .i64 k ∧ Hid (wr.ownsRow zb 3 1 (.slice (some ⟨zb, 0, none⟩) bn bn) bn ((dgPart mn i k ++ List.replicate (bn - k) (0 : Int)).map (Value.int .i64))) ∧ Hid (Below W3.heap.size W3 wr)) (fun k' _ => bn - (intOf k').toNat)
      case atStart => exact ⟨0, Nat.zero_le _, rfl, hO, hBW⟩
      case round =>
        clear hO hBW
        obtain ⟨k, hkl, rfl, hO, hBW⟩ := hrel
        by_cases hlk : k < bn
        case pos =>
          have hmod := mod_val i k mn
          have hL := dgPart_len mn i k
          have hst0 := fill_dg (n := bn) (((i + k) % mn : Nat) : Int) hL hlk
          rw [← dgPart_succ] at hst0
          obtain ⟨m, hm⟩ : ∃ m : Nat, m = (i + k) % mn := ⟨_, rfl⟩
          rw [← hm] at hst0 hmod
          have q1 := hO.out.cellAt k (by omega)
          have q2 := hO.out.frozenAt k
          have hst := hO.out.stored k (.int .i64 (m : Int))
          rw [hst0] at hst
          have HS3 := Lib.hid hst
          rw [List.getElem?_map, List.getElem?_append_right (by rw [hL]; exact Nat.le_refl _), List.getElem?_replicate, if_pos (by rw [hL]; omega)] at q1
          have hkb : (k : Int) < (bn : Int) := by omega
          have hk0 : (0 : Int) ≤ (k : Int) := Int.natCast_nonneg _
          have hm0 : ¬ (mn : Int) = 0 := by omega
          clear hL hst0 hst hm
          go_wp2
          go_roundw
          case rel => exact ⟨k + 1, by omega, by go_num, HS3.out.1, hBW.out.trans (by
            have h1 := (Below.refl W3.heap.size wr).grown HS3.out.2 hBW.out.size (fun k hk => by have e2 : zb = k := Option.some.inj hk; have := HZB.out; omega)
            exact h1)⟩
          case measure => simp [intOf]; omega
        case neg =>
          obtain rfl : k = bn := by omega
          obtain ⟨W4, rfl⟩ : ∃ W : World, W = wr := ⟨_, rfl⟩
          have HU : Hid (Has (Value.int .i64) 3 W4 hi (.slice (some ⟨zb, 0, none⟩) k k) (dgRow k mn i)) := by
            have h1 := hO.out
            rw [Nat.sub_self, List.replicate_zero, List.append_nil] at h1
            have h2 : Has (Value.int .i64) 3 W4 W3.heap.size (.slice (some ⟨zb, 0, none⟩) k k) (dgRow k mn i) := by
              show W4.ownsRow _ _ _ _ _ _
              rw [show (dgRow k mn i).length = k from dgPart_len _ _ _]
              rw [HZB.out] at h1 ⊢
              exact h1
            exact h2.mono hBL.out.le
          have HBL4 := Lib.hid (hBL.out.below hBW.out)
          have HZ4 := Lib.hid (hZ.out.below hBW.out)
          have HB4 := Lib.hid (hB.out.trans (hBW.out.mono hB.out.size))
          have d1 := HBL4.out.cells.c1
          have d2 := (HBL4.out.cells.alloc (.cells #[Value.slice (some ⟨zb, 0, none⟩) k k] 25)).c1
          have hpl := HBL4.out.cells.lt
          have HNP := Lib.hid (has_ne_c3 HBL4.out.top HBL4.out.cells (by decide))
          have HNZ := Lib.hid (has_ne_c3 HBL4.out.top HZ4.out (by decide))
          have HLO4 := Lib.hid (show BB ≤ W4.heap.size from Nat.le_trans HBL4.out.lo HBL4.out.le)
          clear hO hBL hZ hB hBW
          go_upto_region 14 with (at_builtin; refine wpList_append_list (enc := id) (e := 25) rfl _ _ 24 rfl BB i2 (.slice none 0 0) 24 Try.underlying24 hi2 hz20 hz21 hz22 rfl (.slice na i nc) us rfl (has_alloc HBL4.out.top _) (.slice (some ⟨W4.heap.size, 0, none⟩) 1 1) [.slice (some ⟨zb, 0, none⟩) k k] rfl (lies_lit1v _ rfl) (fun y hy => by simp at hy; subst hy; rfl) (by rw [HUSL.out]; simp; omega) (by rw [HUSL.out]; simp; omega) (by have := HLO4.out; simp; omega) ?_; intro v' w2 hv' hg2 _; obtain ⟨a2, c2, hvf, _⟩ := hv'.form; rw [show (us ++ [Value.slice (some ⟨zb, 0, none⟩) k k]).length = i + 1 from by rw [List.length_append, HUSL.out]; rfl] at hvf; subst hvf; have hg3 := grown_alloc hg2; have hc2 := HBL4.out.cells.grown hg3 HNP.out; have d3 := hc2.c1; have df := hc2.f)
          have HBL5 := Lib.hid (HBL4.out.row HU.out hv' hg3)
          have HG5 : Hid (BB ≤ w2.heap.size) := Nat.le_trans HLO4.out hg3.size
          have hne2 : (p : Nat) ≠ w.heap.size := by have := HBB.out; omega
          have hne3 : w.heap.size ≤ p := by have := HBB.out; omega
          have HZ5 := Lib.hid ((HZ4.out.grown hg3 HNZ.out).other (a := ⟨p, 1, none⟩) hne2 (.slice a2 (i + 1) c2))
          have HB5 : Hid (Below w.heap.size w (w2.setCell ⟨p, 1, none⟩ (.slice a2 (i + 1) c2))) := (HBL4.out.top.frame HB4.out (by have := HBB.out; omega) hg3).setCell hne3 _
          have HG6 : Hid (BB ≤ (w2.setCell ⟨p, 1, none⟩ (.slice a2 (i + 1) c2)).heap.size) := by show _ ≤ _; rw [size_setCell']; exact HG5.out
          obtain ⟨W5, hW5⟩ : ∃ W, W = w2.setCell ⟨p, 1, none⟩ (.slice a2 (i + 1) c2) := ⟨_, rfl⟩
          rw [← hW5] at HBL5 HZ5 HB5 HG6 ⊢
          have HW5 := Lib.hid (show w2.heap.size = W5.heap.size by rw [hW5, size_setCell'])
          rw [HW5.out] at HBL5
          clear hv' hg2 hg3 hc2 d1 d2 d3 df hpl HBL4 HZ4 HB4 hW5 HNP HNZ HLO4 HG5
          have HVO := Lib.hid HBL5.out.terms
          have c3 := HBL5.out.cells.c2
          have c4 := (HBL5.out.cells.alloc (.cells #[Value.int .i64 (i : Int)] 3)).c2
          have hpl := HBL5.out.cells.lt
          have HNO := Lib.hid (has_ne_c3 HVO.out.has HBL5.out.cells (by decide))
          have HNZ := Lib.hid (has_ne_c3 HVO.out.has HZ5.out (by decide))
          have HOL := Lib.hid (dgOut_len i)
          go_wp2_with (at_builtin; refine wpList_append_list (enc := Value.int .i64) (e := 3) rfl _ _ 25 rfl BB i0 (.int .i64 0) 8 Try.underlying25 hi0 hz0 hz1 hz2 rfl (.slice oa i oc) (dgOut i) rfl (has_alloc HVO.out.has _) (.slice (some ⟨W5.heap.size, 0, none⟩) 1 1) [(i : Int)] rfl (lies_lit1 (enc := Value.int .i64) _ rfl) (fun _ _ => rfl) (by rw [HOL.out]; simp; omega) (by rw [HOL.out]; simp; omega) (by have := HG6.out; simp; omega) ?_; intro vt w6 ho6 hg6 hb6; obtain ⟨a6, c6, hvf, _⟩ := ho6.form; rw [show (dgOut i ++ [(i : Int)]).length = i + 1 from by rw [List.length_append, HOL.out]; rfl] at hvf; subst hvf; have hg7 := grown_alloc hg6; have hc7 := HBL5.out.cells.grown hg7 HNO.out; have r1 := hc7.c2; have r3 := hc7.f)
          have HBL7 := Lib.hid (HBL5.out.term ho6 hg7 (fun k hk => (hb6 k hk).imp id (fun h => by simp at h; omega)))
          have HZ7 := Lib.hid ((HZ5.out.grown hg7 HNZ.out).other (a := ⟨p, 2, none⟩) hne2 (.slice a6 (i + 1) c6))
          have HB7 : Hid (Below w.heap.size w (w6.setCell ⟨p, 2, none⟩ (.slice a6 (i + 1) c6))) := (HVO.out.has.frame HB5.out (by have := HBB.out; omega) hg7).setCell hne3 _
          have HBL8 : Hid (Building (w6.setCell ⟨p, 2, none⟩ (.slice a6 (i + 1) c6)) BB w6.heap.size p (k : Int) (.slice a2 (i + 1) c2) (.slice a6 (i + 1) c6) (us ++ [.slice (some ⟨zb, 0, none⟩) k k]) (dgRows k mn (i + 1)) (dgOut (i + 1))) := by
            have h1 := HBL7.out
            rw [← dgRows_succ, ← dgOut_succ] at h1
            exact h1
          clear ho6 hb6 hg6 hg7 hc7 r1 r3 c3 c4 hpl HBL5 HVO HNO HNZ HBL7
          go_roundw
          case rel => exact ⟨i + 1, _, _, _, w6.heap.size, by omega, by go_num, HBL8, HZ7, HB7⟩
          case measure => simp [intOf]; omega
set_option maxRecDepth 100000 in
theorem impl_dig (b m : Int) (w : World) :
    Calls Try.prog 17 #[.int .i64 b, .int .i64 m] w (GivesK (dgB b m) (dgR b m) (dgO b m) (dgK b m) w) := by
  cases hk : dgK b m with
  | false => rw [← hk]; exact impl_dig_no b m w hk
  | true =>
    have h := of_decide_eq_true hk
    obtain ⟨bn, rfl⟩ : ∃ n : Nat, b = (n : Int) := ⟨b.toNat, by omega⟩
    obtain ⟨mn, rfl⟩ : ∃ n : Nat, m = (n : Int) := ⟨m.toNat, by omega⟩
    have e : dgB (bn : Int) (mn : Int) = (bn : Int) ∧ dgR (bn : Int) (mn : Int) = dgRows bn mn mn ∧ dgO (bn : Int) (mn : Int) = dgOut mn := by
      unfold dgB dgR dgO
      rw [hk]
      exact ⟨rfl, rfl, rfl⟩
    rw [e.1, e.2.1, e.2.2]
    exact impl_dig_yes bn mn w (by omega) (by omega) (by omega) (by omega)
end Comb
end Go.Proofs.Ytodnkkofammhbaa
