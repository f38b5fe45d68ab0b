/- Contract of the program's MinimalForm. No conditions beyond those that each states. -/
import Derived.Test.YthnmighlgifoeaaMerge
import Derived.Test.YthnmighlgifoeaaSearch
import Derived.Test.YthnmighlgifoeaaSeqFormV
namespace Go.Proofs.Ythnmighlgifoeaa
open Go.ChangeShapes Go.WideShapes Go.ChangeAt Go.RowKit
open Go.PlainAid Plain
set_option linter.unusedVariables false
namespace Mins
open Seqs
def minRV (b : Int) (rows : List (List Int)) (out : List Int) : List (List Int) := if formK b rows out = true then minR (formR b rows out) (formO b rows out) else []
def minOV (b : Int) (rows : List (List Int)) (out : List Int) : List Int := if formK b rows out = true then minO (formR b rows out) (formO b rows out) else []
theorem min_valid {b : Int} {rows : List (List Int)} {out : List Int} (h : formK b rows out = true) : IsSeq (formB b rows out) (minRV b rows out) (minOV b rows out) := by
  rw [minRV, if_pos h, minOV, if_pos h]
  exact (form_valid h).minimal
theorem min_size {b : Int} {rows : List (List Int)} {out : List Int} : tot (minRV b rows out) + (minOV b rows out).length ≤ 1000 := by
  cases hk : formK b rows out with
  | true =>
    have hv := min_valid hk
    have h1 := seq_rows4 (seqB_yes hv)
    have h2 := tot_le4 _ h1.1
    omega
  | false =>
    have hk' : ¬ formK b rows out = true := by rw [hk]; simp
    rw [minRV, if_neg hk', minOV, if_neg hk']
    simp [tot]
set_option maxHeartbeats 1000000 in
theorem impl_min_no (v : Value) (b : Int) (rows : List (List Int)) (out : List Int) (w : World) (h : LiesS w v b rows out) (hs : rows.length + tot rows + out.length ≤ 1048576) (hk : formK b rows out = false) :
    Calls Try.prog 59 #[v] w (GivesK 0 [] [] false w) := by
  have HS := Lib.hid h
  obtain ⟨an, cn, ao, co, rfl⟩ := h.form
  clear h
  have HB : Hid (Below w.heap.size w (w.alloc (Obj.cells #[Value.int .i64 b, Value.slice an rows.length cn, Value.slice ao out.length co] 27))) := (Below.refl _ _).alloc (Nat.le_refl _) _
  have HC := Lib.hid (Cells3.new w 27 (.int .i64 b) (.slice an rows.length cn) (.slice ao out.length co))
  have HK := Lib.hid hk
  have HFP : Hid (formB b rows out = 0 ∧ formR b rows out = [] ∧ formO b rows out = []) := by
    rcases form_parts b rows out with ⟨_, h1, _⟩ | ⟨_, h1, h2, h3⟩ | ⟨_, _, _, h1, _⟩
    · rw [hk] at h1; cases h1
    · exact ⟨h1, h2, h3⟩
    · rw [hk] at h1; cases h1
  have HSZ := Lib.hid hs
  have HB1 := Lib.hid (HB.out.alloc (by simp) (Obj.cells #[Value.int .i64 0, Value.slice none 0 0, Value.slice none 0 0] 27))
  have HC1 := Lib.hid (HC.out.alloc (Obj.cells #[Value.int .i64 0, Value.slice none 0 0, Value.slice none 0 0] 27))
  have hZ := Cells3.new (w.alloc (Obj.cells #[Value.int .i64 b, Value.slice an rows.length cn, Value.slice ao out.length co] 27)) 27 (.int .i64 0) (.slice none 0 0) (.slice none 0 0)
  rw [size_alloc'] at hZ
  have HZ1 := Lib.hid hZ
  have k0 := HC1.out.c0
  have k1 := HC1.out.c1
  have k2 := HC1.out.c2
  clear hZ HB HC hk hs
  go_enter Try.func59, Try.ntmps59
  go_wp2_with fail
  refine (impl_form _ b rows out _ (HS.out.below HB1.out) HSZ.out).mono ?_
  rintro e W1 ⟨v1, rfl, hv1, b1⟩
  rw [HFP.out.1, HFP.out.2.1, HFP.out.2.2] at hv1
  obtain ⟨a1, c1, a2, c2, rfl⟩ := hv1.form
  rw [HK.out]
  have HB2 := Lib.hid (HB1.out.trans (b1.mono HB1.out.size))
  have hZ2 := HZ1.out.below b1
  have HZ2 := Lib.hid (hZ2.alloc (Obj.cells #[Value.int .i64 0, Value.slice a1 ([] : List (List Int)).length c1, Value.slice a2 ([] : List Int).length c2] 27))
  have HB3 := Lib.hid (HB2.out.alloc HB2.out.size (Obj.cells #[Value.int .i64 0, Value.slice a1 ([] : List (List Int)).length c1, Value.slice a2 ([] : List Int).length c2] 27))
  simp only [List.length_nil] at HZ2 HB3
  have z0 := HZ2.out.c0
  have z1 := HZ2.out.c1
  have z2 := HZ2.out.c2
  have z3 := HZ2.out.f
  clear hv1 b1 hZ2 k0 k1 k2 HB1 HC1 HZ1
  go_wp2
  have hZ3 := (((HZ2.out.set0 (.int .i64 0)).set1 (.slice none 0 0)).set2 (.slice none 0 0))
  have n0 := hZ3.c0
  have n1 := hZ3.c1
  have n2 := hZ3.c2
  refine bodyPost_ret (v := .tuple #[.agg #[.int .i64 0, .slice none 0 0, .slice none 0 0], .bool false]) (by simp [results, Try.results59, go_sem, n0, n1, n2]) rfl ⟨_, rfl, OwnS.zero _, ?_⟩
  exact ((HB3.out.setCell (by show _ ≤ _ + 1; omega) _).setCell (by show _ ≤ _ + 1; omega) _).setCell (by show _ ≤ _ + 1; omega) _
set_option maxHeartbeats 1000000 in
theorem impl_min_yes (v : Value) (b : Int) (rows : List (List Int)) (out : List Int) (w : World) (h : LiesS w v b rows out) (hs : rows.length + tot rows + out.length ≤ 1048576) (hk : formK b rows out = true) :
    Calls Try.prog 59 #[v] w (GivesK (formB b rows out) (minR (formR b rows out) (formO b rows out)) (minO (formR b rows out) (formO b rows out)) true w) := by
  have HS := Lib.hid h
  obtain ⟨an, cn, ao, co, rfl⟩ := h.form
  clear h
  have HB : Hid (Below w.heap.size w (w.alloc (Obj.cells #[Value.int .i64 b, Value.slice an rows.length cn, Value.slice ao out.length co] 27))) := (Below.refl _ _).alloc (Nat.le_refl _) _
  have HC := Lib.hid (Cells3.new w 27 (.int .i64 b) (.slice an rows.length cn) (.slice ao out.length co))
  have HK := Lib.hid hk
  have HCF := Lib.hid (fun (W : World) (hW : Below w.heap.size w W) => impl_form _ b rows out W (HS.out.below hW) hs)
  have hval := form_valid hk
  obtain ⟨B, hBB⟩ : ∃ B, B = formB b rows out := ⟨_, rfl⟩
  obtain ⟨RR, hRR⟩ : ∃ R, R = formR b rows out := ⟨_, rfl⟩
  obtain ⟨OO, hOO⟩ : ∃ O, O = formO b rows out := ⟨_, rfl⟩
  rw [← hBB, ← hRR, ← hOO, hk] at HCF
  rw [← hBB, ← hRR, ← hOO] at hval ⊢
  have HVAL := Lib.hid hval
  clear hBB hRR hOO hval hk hs
  have HB1 := Lib.hid (HB.out.alloc (by simp) (Obj.cells #[Value.int .i64 0, Value.slice none 0 0, Value.slice none 0 0] 27))
  have HC1 := Lib.hid (HC.out.alloc (Obj.cells #[Value.int .i64 0, Value.slice none 0 0, Value.slice none 0 0] 27))
  have hZ := Cells3.new (w.alloc (Obj.cells #[Value.int .i64 b, Value.slice an rows.length cn, Value.slice ao out.length co] 27)) 27 (.int .i64 0) (.slice none 0 0) (.slice none 0 0)
  rw [size_alloc'] at hZ
  have HZ1 := Lib.hid hZ
  have k0 := HC1.out.c0
  have k1 := HC1.out.c1
  have k2 := HC1.out.c2
  clear hZ HB HC
  go_enter Try.func59, Try.ntmps59
  go_wp2_with fail
  refine (HCF.out _ HB1.out).mono ?_
  rintro e W1 ⟨v1, rfl, hv1, b1⟩
  obtain ⟨a1, c1, a2, c2, rfl⟩ := hv1.form
  have HB2 := Lib.hid (HB1.out.trans (b1.mono HB1.out.size))
  have hZ2 := HZ1.out.below b1
  have HW1 : Hid (w.heap.size + 2 ≤ W1.heap.size) := by have := hZ2.lt; show _ ≤ _; omega
  have HZ2 := Lib.hid (hZ2.alloc (Obj.cells #[Value.int .i64 B, Value.slice a1 RR.length c1, Value.slice a2 OO.length c2] 27))
  have HB3 := Lib.hid (HB2.out.alloc HB2.out.size (Obj.cells #[Value.int .i64 B, Value.slice a1 RR.length c1, Value.slice a2 OO.length c2] 27))
  have HL3 := Lib.hid (hv1.lies.below ((Below.refl _ _).alloc (Nat.le_refl _) (Obj.cells #[Value.int .i64 B, Value.slice a1 RR.length c1, Value.slice a2 OO.length c2] 27)))
  have hS3 := Cells3.new W1 27 (.int .i64 B) (.slice a1 RR.length c1) (.slice a2 OO.length c2)
  have j0 := hS3.c0
  have j1 := hS3.c1
  have j2 := hS3.c2
  clear hv1 b1 hZ2 hS3 k0 k1 k2 HB1 HC1 HZ1
  go_wp2_with fail
  refine (merged_any _ B RR OO _ HL3.out HVAL.out).mono ?_
  rintro e W2 ⟨v2, rfl, hv2, b2⟩
  have HB4 := Lib.hid (HB3.out.trans (b2.mono HB3.out.size))
  have HZ4 := Lib.hid (HZ2.out.below b2)
  have HL4 := Lib.hid hv2.lies
  clear hv2 b2 j0 j1 j2 HL3 HB3 HZ2
  go_wp2_with fail
  refine (searched_any _ B (rowsQ RR OO) (outQ RR OO) _ HL4.out HVAL.out.merged).mono ?_
  rintro e W3 ⟨v3, rfl, hv3, b3⟩
  have HW2 : Hid (w.heap.size + 2 ≤ W2.heap.size) := by have := HZ4.out.lt; show _ ≤ _; omega
  have HB5 := Lib.hid (HB4.out.trans (b3.mono HB4.out.size))
  have HZ5 := Lib.hid (HZ4.out.below b3)
  have HV3 : Hid (OwnS W3 W2.heap.size W3.heap.size v3 B (minR RR OO) (minO RR OO)) := hv3
  obtain ⟨a3, c3, a4, c4, rfl⟩ := HV3.out.form
  clear hv3 b3 HB4 HZ4 HL4
  have z0 := HZ5.out.c0
  have z1 := HZ5.out.c1
  have z2 := HZ5.out.c2
  have z3 := HZ5.out.f
  go_wp2
  have hZ3 := (((HZ5.out.set0 (.int .i64 B)).set1 (.slice a3 (minR RR OO).length c3)).set2 (.slice a4 (minO RR OO).length c4))
  have n0 := hZ3.c0
  have n1 := hZ3.c1
  have n2 := hZ3.c2
  refine bodyPost_ret (v := .tuple #[.agg #[.int .i64 B, .slice a3 (minR RR OO).length c3, .slice a4 (minO RR OO).length c4], .bool true]) (by simp [results, Try.results59, go_sem, n0, n1, n2]) rfl ⟨_, rfl, ?_, ?_⟩
  · have T0 : Plain.Touch w.heap.size (w.heap.size + 2) W3 (((W3.setCell ⟨w.heap.size + 1, 0, none⟩ (.int .i64 B)).setCell ⟨w.heap.size + 1, 1, none⟩ (.slice a3 (minR RR OO).length c3)).setCell ⟨w.heap.size + 1, 2, none⟩ (.slice a4 (minO RR OO).length c4)) :=
      ((Plain.Touch.of_set _ (by show _ ≤ _ + 1; omega) (by show _ + 1 < _; omega)).trans (Plain.Touch.of_set _ (by show _ ≤ _ + 1; omega) (by show _ + 1 < _; omega))).trans (Plain.Touch.of_set _ (by show _ ≤ _ + 1; omega) (by show _ + 1 < _; omega))
    have := (HV3.out.touch T0 (.inr HW2.out)).lower (show w.heap.size ≤ W2.heap.size by have := HW2.out; omega)
    simpa only [size_setCell'] using this
  · exact ((HB5.out.setCell (by show _ ≤ _ + 1; omega) _).setCell (by show _ ≤ _ + 1; omega) _).setCell (by show _ ≤ _ + 1; omega) _
theorem impl_min (v : Value) (b : Int) (rows : List (List Int)) (out : List Int) (w : World) (h : LiesS w v b rows out) (hs : rows.length + tot rows + out.length ≤ 1048576) :
    Calls Try.prog 59 #[v] w (GivesK (formB b rows out) (minRV b rows out) (minOV b rows out) (formK b rows out) w) := by
  cases hk : formK b rows out with
  | false =>
    have hk' : ¬ formK b rows out = true := by rw [hk]; simp
    rw [minRV, if_neg hk', minOV, if_neg hk', formB, if_neg hk']
    exact impl_min_no v b rows out w h hs hk
  | true =>
    rw [minRV, if_pos hk, minOV, if_pos hk]
    exact impl_min_yes v b rows out w h hs hk
end Mins
end Go.Proofs.Ythnmighlgifoeaa
