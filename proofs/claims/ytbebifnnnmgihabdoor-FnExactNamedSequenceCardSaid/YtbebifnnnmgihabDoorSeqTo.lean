/- Contracts of the exact laws' own helpers on sequences, second part: copying one. No conditions beyond those that each states. -/
import Derived.Outline
import Derived.Test.YtbebifnnnmgihabDoorSeqSz
import Derived.Test.YtbebifnnnmgihabDoorCells3
namespace Go.Proofs.YtbebifnnnmgihabDoor
open Go.ChangeShapes Go.WideShapes Go.ChangeAt Go.RowKit
open Go.PlainAid Plain
set_option linter.unusedVariables false
namespace Seqs
theorem infoR : (Tryd.prog.info? 23).map (fun i => (i.zero, i.size, i.bytes)) = some (some (.slice none 0 0), 1, 24) := by kernel_rfl
theorem toR (v : Value) (rows : List (List Int)) (w : World) (h : LiesR w v rows) (hs : rows.length ≤ 1048576) (ht : tot rows ≤ 1048576) :
    Calls Tryd.prog 22 #[v] w (GivesR rows w) := by
  obtain ⟨i0, hi, hz0, hz1, hz2⟩ := info_parts infoR
  obtain ⟨a, ca, rfl, hl, hc⟩ := h.row
  have HC := Lib.hid hc
  clear hc h
  go_enter Tryd.func22, Tryd.ntmps22
  go_wp2_with (at_make; refine wpList_make_full w rfl _ _ 22 rfl w.heap.size 23 i0 (.slice none 0 0) 1 Tryd.underlying22 hi hz0 hz1 .i64 .i64 _ _ rows.length rfl rfl rfl rfl (by rw [hz2]; omega) (by unfold maxLen; omega) (Nat.le_refl _) ?_; intro w1 hown hgrow)
  have hown0 : Hid (Has id 23 w1 w.heap.size (.slice (some ⟨w.heap.size, 0, none⟩) rows.length rows.length) ([] ++ List.replicate (rows.length - 0) (.slice none 0 0))) := made_rows hown
  have hbel0 := Lib.hid (below_of_grown hgrow)
  clear hown hgrow
  go_loopw [4] (fun i' wr => ∃ (i : Nat) (us : List Value) (hi : Nat), i ≤ rows.length ∧ us.length = i ∧ i' = .int .i64 i ∧ Hid (Has id 23 wr w.heap.size (.slice (some ⟨w.heap.size, 0, none⟩) rows.length rows.length) (us ++ List.replicate (rows.length - i) (.slice none 0 0))) ∧ Hid (OwnRows wr w.heap.size hi us (rows.take i)) ∧ Hid (w.heap.size ≤ hi ∧ hi ≤ wr.heap.size) ∧ Hid (Below w.heap.size w wr)) (fun i' _ => rows.length - (intOf i').toNat)
  case atStart => exact ⟨0, [], w.heap.size, Nat.zero_le _, rfl, rfl, hown0, OwnRows.nil _ _ _, ⟨Nat.le_refl _, hbel0.out.size⟩, hbel0⟩
  case round =>
    obtain ⟨i, us, hi, hile, hul, rfl, hown, hrows, hle, hbel⟩ := hrel
    by_cases hlt : i < rows.length
    · obtain ⟨r, hr⟩ : ∃ r, rows[i]? = some r := ⟨_, List.getElem?_eq_getElem hlt⟩
      obtain ⟨b, off, u, rfl, hcell, hlies⟩ := HC.out i r hr
      have hc1 : wr.cell? ⟨b, off + i, none⟩ = some u := (hbel.out.cell (p := ⟨b, off + i, none⟩) (World.block_lt_of_cell? w _ hcell)).trans hcell
      have HL := Lib.hid (hlies.below hbel.out)
      have HRL := Lib.hid (row_le rows i r hr)
      have HT := Lib.hid (show rows.take (i + 1) = rows.take i ++ [r] from by
        obtain ⟨h1, rfl⟩ := List.getElem?_eq_some_iff.1 hr
        exact List.take_succ_eq_append_getElem h1)
      have HUL := Lib.hid hul
      clear hlies hr hul hcell
      go_wp2_with fail
      refine (Ints.copied _ r _ HL.out (by have := HRL.out; omega)).mono ?_
      rintro e W1 ⟨v1, rfl, hv1, hb1⟩
      obtain ⟨a1, cap1, rfl, _⟩ := hv1.form
      have HN := Lib.hid (hown.out.below hb1)
      have HR1 := Lib.hid ((hrows.out.below hb1).snoc ((OwnI.of_gives hv1).mono hle.out.2 (Nat.le_refl _) (Nat.le_refl _)) hle.out.1 (Nat.le_trans hle.out.2 hb1.size))
      have HB1 := Lib.hid (hbel.out.trans (hb1.mono hbel.out.size))
      have HS1 := Lib.hid (Nat.le_trans hle.out.1 (Nat.le_trans hle.out.2 hb1.size))
      clear hown hrows hb1 hv1 hle hbel
      have H1 : W1.ownsRow w.heap.size 23 1 (.slice (some ⟨w.heap.size, 0, none⟩) rows.length rows.length) rows.length ((us ++ List.replicate (rows.length - i) (Value.slice none 0 0)).map id) := by
        have := HN.out
        unfold Has at this
        rw [show (us ++ List.replicate (rows.length - i) (Value.slice none 0 0)).length = rows.length from by rw [List.length_append, List.length_replicate, HUL.out]; omega] at this
        exact this
      have hc : W1.cell? ⟨w.heap.size, i, none⟩ = some (.slice none 0 0) := by
        rw [H1.cellAt i (by omega), List.getElem?_map, List.getElem?_append_right (by rw [HUL.out]; omega), List.getElem?_replicate, if_pos (by rw [HUL.out]; omega)]
        rfl
      have hfr := H1.frozenAt i
      have hst := H1.stored i (id (.slice a1 r.length cap1))
      rw [← HUL.out, set_next us _ _ (.slice a1 r.length cap1) (by rw [HUL.out]; omega), HUL.out] at hst
      have HST := Lib.hid hst
      clear hst H1
      go_wp2
      go_roundw
      case rel =>
        refine ⟨i + 1, us ++ [.slice a1 r.length cap1], W1.heap.size, by omega, by simp [HUL.out], by go_num, ?_, ?_, ⟨HS1.out, HST.out.2.size⟩, HB1.out.grown HST.out.2 HB1.out.size (fun k hk => by cases hk; exact Nat.le_refl _)⟩
        · show World.ownsRow _ _ _ _ _ _ _
          rw [show (us ++ [Value.slice a1 r.length cap1] ++ List.replicate (rows.length - (i + 1)) (Value.slice none 0 0)).length = rows.length from by simp [HUL.out]; omega]
          exact HST.out.1
        · rw [HT.out]
          exact HR1.out.top_grown HN.out HST.out.2
      case measure => simp [intOf]; omega
    · obtain rfl : i = rows.length := by omega
      have HE : Hid (OwnR wr w.heap.size wr.heap.size (.slice (some ⟨w.heap.size, 0, none⟩) rows.length rows.length) us rows) := by
        have h1 := hown.out
        have h2 := hrows.out
        rw [List.take_length] at h2
        rw [Nat.sub_self, List.replicate_zero, List.append_nil] at h1
        exact ⟨h1, fun k hk => (h1.lt k hk).2, Nat.le_refl _, h2.mono hle.out.2 (Nat.le_refl _)⟩
      clear hown hrows hle hul
      go_wp2
      go_ret
      exact ⟨_, us, rfl, HE.out, hbel.out⟩
theorem toS (v : Value) (b : Int) (rows : List (List Int)) (out : List Int) (w : World) (h : LiesS w v b rows out) (hs : rows.length + tot rows + out.length ≤ 1048576) :
    Calls Tryd.prog 8 #[v] w (GivesS b rows out w) := by
  obtain ⟨vn, vo, rfl, hn, ho⟩ := h
  have HO := Lib.hid ho
  have HN := Lib.hid hn
  clear hn ho
  go_enter Tryd.func8, Tryd.ntmps8
  go_wp2_with fail
  have hB0 : Hid (Below w.heap.size w (((w.alloc (Obj.cells #[Value.int .i64 b, vn, vo] 25)).alloc (Obj.cells #[Value.int .i64 0, Value.slice none 0 0, Value.slice none 0 0] 28)).alloc (Obj.cells #[Value.int .i64 b, Value.slice none 0 0, Value.slice none 0 0] 28))) :=
    (((Below.refl _ _).alloc (Nat.le_refl _) _).alloc (by simp) _).alloc (by simp; omega) _
  have hA := Lib.hid (((Cells3.new w 25 (.int .i64 b) vn vo).alloc (.cells #[.int .i64 0, .slice none 0 0, .slice none 0 0] 28)).alloc (.cells #[.int .i64 b, .slice none 0 0, .slice none 0 0] 28))
  have hR := Lib.hid ((Cells3.new (w.alloc (Obj.cells #[Value.int .i64 b, vn, vo] 25)) 28 (.int .i64 0) (.slice none 0 0) (.slice none 0 0)).alloc (.cells #[.int .i64 b, .slice none 0 0, .slice none 0 0] 28))
  have hS := Lib.hid (Cells3.new ((w.alloc (Obj.cells #[Value.int .i64 b, vn, vo] 25)).alloc (Obj.cells #[Value.int .i64 0, Value.slice none 0 0, Value.slice none 0 0] 28)) 28 (.int .i64 b) (.slice none 0 0) (.slice none 0 0))
  refine (toR _ rows _ (HN.out.below hB0.out) (by omega) (by omega)).mono ?_
  rintro e W1 ⟨v1, us, rfl, hr1, hb1⟩
  obtain ⟨a1, cap1, rfl, _⟩ := hr1.top.form
  have HA1 := Lib.hid (hA.out.below hb1)
  have HR1 := Lib.hid (hR.out.below hb1)
  have HS1 := Lib.hid (hS.out.below hb1)
  have HB1 := Lib.hid (hB0.out.trans (hb1.mono hB0.out.size))
  have HO1 := Lib.hid hr1
  have hz1 := Lib.hid hb1.size
  simp only [size_alloc'] at HA1 HR1 HS1 HO1 hz1
  clear hr1 hb1 hA hR hS hB0
  have k1 := HS1.out.c1
  have k2 := HS1.out.f
  have k3 := (HA1.out.other (a := ⟨w.heap.size + 1 + 1, 1, none⟩) (by simp; omega) (.slice a1 us.length cap1)).c2
  go_wp2_with fail
  have HS2 := Lib.hid (HS1.out.set1 (.slice a1 us.length cap1))
  have HR2 := Lib.hid (HR1.out.other (a := ⟨w.heap.size + 1 + 1, 1, none⟩) (by simp) (.slice a1 us.length cap1))
  have HB2 : Hid (Below w.heap.size w (W1.setCell ⟨w.heap.size + 1 + 1, 1, none⟩ (.slice a1 us.length cap1))) := HB1.out.setCell (show w.heap.size ≤ w.heap.size + 1 + 1 by omega) _
  have HO2 := Lib.hid (HO1.out.touch (Plain.Touch.of_set (a := ⟨w.heap.size + 1 + 1, 1, none⟩) (.slice a1 us.length cap1) (lo := w.heap.size) (hi := w.heap.size + 1 + 1 + 1) (show w.heap.size ≤ w.heap.size + 1 + 1 by omega) (show w.heap.size + 1 + 1 < w.heap.size + 1 + 1 + 1 by omega)) (.inr (Nat.le_refl _)))
  clear k1 k2 k3 HA1 HS1 HR1 HB1 HO1
  refine (Ints.copied _ out _ (HO.out.below HB2.out) (by omega)).mono ?_
  rintro e W2 ⟨v2, rfl, ho2, hb2⟩
  obtain ⟨a2, cap2, rfl, _⟩ := ho2.form
  have HS3 := Lib.hid (HS2.out.below hb2)
  have HR3 := Lib.hid (HR2.out.below hb2)
  have HB3 := Lib.hid (HB2.out.trans (hb2.mono HB2.out.size))
  have HN3 := Lib.hid (HO2.out.below hb2)
  have HO3 := Lib.hid (OwnI.of_gives ho2)
  have hz := Lib.hid hb2.size
  simp only [size_setCell'] at HO3 hz
  clear HS2 HR2 HB2 HO2 ho2 hb2
  have k1 := HS3.out.c2
  have k2 := HS3.out.f
  have k3 := (HS3.out.set2 (.slice a2 out.length cap2)).c0
  have k4 := (HS3.out.set2 (.slice a2 out.length cap2)).c1
  have k5 := (HS3.out.set2 (.slice a2 out.length cap2)).c2
  have HR4 := Lib.hid (HR3.out.other (a := ⟨w.heap.size + 1 + 1, 2, none⟩) (by simp) (.slice a2 out.length cap2))
  have k6 := HR4.out.c0
  have k7 := HR4.out.c1
  have k8 := HR4.out.c2
  have k9 := HR4.out.f
  have HR5 := Lib.hid (((HR4.out.set0 (.int .i64 b)).set1 (.slice a1 us.length cap1)).set2 (.slice a2 out.length cap2))
  go_wp2
  have m0 := HR5.out.c0
  have m1 := HR5.out.c1
  have m2 := HR5.out.c2
  refine bodyPost_ret (v := .agg #[.int .i64 b, .slice a1 us.length cap1, .slice a2 out.length cap2]) (by simp [results, Tryd.results8, go_sem, m0, m1, m2]) rfl ⟨_, rfl, ?_, ?_⟩
  · have T0 : Plain.Touch w.heap.size (w.heap.size + 1 + 1 + 1) W2 ((((W2.setCell ⟨w.heap.size + 1 + 1, 2, none⟩ (.slice a2 out.length cap2)).setCell ⟨w.heap.size + 1, 0, none⟩ (.int .i64 b)).setCell ⟨w.heap.size + 1, 1, none⟩ (.slice a1 us.length cap1)).setCell ⟨w.heap.size + 1, 2, none⟩ (.slice a2 out.length cap2)) :=
      (((Plain.Touch.of_set _ (by show _ ≤ _ + 1 + 1; omega) (by show _ + 1 + 1 < _; omega)).trans (Plain.Touch.of_set _ (by show _ ≤ _ + 1; omega) (by show _ + 1 < _; omega))).trans (Plain.Touch.of_set _ (by show _ ≤ _ + 1; omega) (by show _ + 1 < _; omega))).trans (Plain.Touch.of_set _ (by show _ ≤ _ + 1; omega) (by show _ + 1 < _; omega))
    have hz2 := hz.out
    have hz3 := hz1.out
    simp only [size_setCell']
    exact OwnS.make (HN3.out.touch T0 (.inr (Nat.le_refl _))) (HO3.out.touch T0 (.inr (by omega))) (by omega) (by omega) hz2
  · exact (((HB3.out.setCell (by show _ ≤ _ + 1 + 1; omega) _).setCell (by show _ ≤ _ + 1; omega) _).setCell (by show _ ≤ _ + 1; omega) _).setCell (by show _ ≤ _ + 1; omega) _
end Seqs
end Go.Proofs.YtbebifnnnmgihabDoor
