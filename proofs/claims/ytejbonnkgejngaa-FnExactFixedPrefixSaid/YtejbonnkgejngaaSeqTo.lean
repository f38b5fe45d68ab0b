/- Contracts of the exact laws' own helpers on sequences, second part: copying one. No conditions beyond those that each states. -/
import Derived.Outline
import Derived.Test.YtejbonnkgejngaaSeqSz
import Derived.Test.YtejbonnkgejngaaCells3
namespace Go.Proofs.Ytejbonnkgejngaa
open Go.ChangeShapes Go.WideShapes Go.ChangeAt Go.RowKit
open Go.PlainAid Plain
set_option linter.unusedVariables false
namespace Seqs
theorem infoR : (Try.prog.info? 22).map (fun i => (i.zero, i.size, i.bytes)) = some (some (.slice none 0 0), 1, 24) := by kernel_rfl
theorem toR (v : Value) (rows : List (List Int)) (w : World) (h : LiesR w v rows) (hs : rows.length ≤ 1048576) (ht : tot rows ≤ 1048576) :
    Calls Try.prog 36 #[v] w (GivesR rows w) := by
  obtain ⟨i0, hi, hz0, hz1, hz2⟩ := info_parts infoR
  obtain ⟨a, ca, rfl, hl, hc⟩ := h.row
  have HC := Lib.hid hc
  clear hc h
  go_enter Try.func36, Try.ntmps36
  go_wp2_with (at_make; refine wpList_make_full w rfl _ _ 26 rfl w.heap.size 22 i0 (.slice none 0 0) 1 Try.underlying26 hi hz0 hz1 .i64 .i64 _ _ rows.length rfl rfl rfl rfl (by rw [hz2]; omega) (by unfold maxLen; omega) (Nat.le_refl _) ?_; intro w1 hown hgrow)
  have hown0 : Hid (Has id 22 w1 w.heap.size (.slice (some ⟨w.heap.size, 0, none⟩) rows.length rows.length) ([] ++ List.replicate (rows.length - 0) (.slice none 0 0))) := made_rows hown
  have hbel0 := Lib.hid (below_of_grown hgrow)
  clear hown hgrow
  go_loopw [4] (fun i' wr => ∃ (i : Nat) (us : List Value) (hi : Nat), i ≤ rows.length ∧ us.length = i ∧ i' = .int .i64 i ∧ Hid (Has id 22 wr w.heap.size (.slice (some ⟨w.heap.size, 0, none⟩) rows.length rows.length) (us ++ List.replicate (rows.length - i) (.slice none 0 0))) ∧ Hid (OwnRows wr w.heap.size hi us (rows.take i)) ∧ Hid (w.heap.size ≤ hi ∧ hi ≤ wr.heap.size) ∧ Hid (Below w.heap.size w wr)) (fun i' _ => rows.length - (intOf i').toNat)
  case atStart => exact ⟨0, [], w.heap.size, Nat.zero_le _, rfl, rfl, hown0, OwnRows.nil _ _ _, ⟨Nat.le_refl _, hbel0.out.size⟩, hbel0⟩
  case round =>
    obtain ⟨i, us, hi, hile, hul, rfl, hown, hrows, hle, hbel⟩ := hrel
    by_cases hlt : i < rows.length
    · obtain ⟨r, hr⟩ : ∃ r, rows[i]? = some r := ⟨_, List.getElem?_eq_getElem hlt⟩
      obtain ⟨b, off, u, rfl, hcell, hlies⟩ := HC.out i r hr
      have hc1 : wr.cell? ⟨b, off + i, none⟩ = some u := (hbel.out.cell (p := ⟨b, off + i, none⟩) (World.block_lt_of_cell? w _ hcell)).trans hcell
      have HL := Lib.hid (hlies.below hbel.out)
      have HRL := Lib.hid (row_le rows i r hr)
      have HT := Lib.hid (show rows.take (i + 1) = rows.take i ++ [r] from by
        obtain ⟨h1, rfl⟩ := List.getElem?_eq_some_iff.1 hr
        exact List.take_succ_eq_append_getElem h1)
      have HUL := Lib.hid hul
      clear hlies hr hul hcell
      go_wp2_with fail
      refine (Ints.copied _ r _ HL.out (by have := HRL.out; omega)).mono ?_
      rintro e W1 ⟨v1, rfl, hv1, hb1⟩
      obtain ⟨a1, cap1, rfl, _⟩ := hv1.form
      have HN := Lib.hid (hown.out.below hb1)
      have HR1 := Lib.hid ((hrows.out.below hb1).snoc ((OwnI.of_gives hv1).mono hle.out.2 (Nat.le_refl _) (Nat.le_refl _)) hle.out.1 (Nat.le_trans hle.out.2 hb1.size))
      have HB1 := Lib.hid (hbel.out.trans (hb1.mono hbel.out.size))
      have HS1 := Lib.hid (Nat.le_trans hle.out.1 (Nat.le_trans hle.out.2 hb1.size))
      clear hown hrows hb1 hv1 hle hbel
      have H1 : W1.ownsRow w.heap.size 22 1 (.slice (some ⟨w.heap.size, 0, none⟩) rows.length rows.length) rows.length ((us ++ List.replicate (rows.length - i) (Value.slice none 0 0)).map id) := by
        have := HN.out
        unfold Has at this
        rw [show (us ++ List.replicate (rows.length - i) (Value.slice none 0 0)).length = rows.length from by rw [List.length_append, List.length_replicate, HUL.out]; omega] at this
        exact this
      have hc : W1.cell? ⟨w.heap.size, i, none⟩ = some (.slice none 0 0) := by
        rw [H1.cellAt i (by omega), List.getElem?_map, List.getElem?_append_right (by rw [HUL.out]; omega), List.getElem?_replicate, if_pos (by rw [HUL.out]; omega)]
        rfl
      have hfr := H1.frozenAt i
      have hst := H1.stored i (id (.slice a1 r.length cap1))
      rw [← HUL.out, set_next us _ _ (.slice a1 r.length cap1) (by rw [HUL.out]; omega), HUL.out] at hst
      have HST := Lib.hid hst
      clear hst H1
      go_wp2
      go_roundw
      case rel =>
        refine ⟨i + 1, us ++ [.slice a1 r.length cap1], W1.heap.size, by omega, by simp [HUL.out], by go_num, ?_, ?_, ⟨HS1.out, HST.out.2.size⟩, HB1.out.grown HST.out.2 HB1.out.size (fun k hk => by cases hk; exact Nat.le_refl _)⟩
        · show World.ownsRow _ _ _ _ _ _ _
          rw [show (us ++ [Value.slice a1 r.length cap1] ++ List.replicate (rows.length - (i + 1)) (Value.slice none 0 0)).length = rows.length from by simp [HUL.out]; omega]
          exact HST.out.1
        · rw [HT.out]
          exact HR1.out.top_grown HN.out HST.out.2
      case measure => simp [intOf]; omega
    · obtain rfl : i = rows.length := by omega
      have HE : Hid (OwnR wr w.heap.size wr.heap.size (.slice (some ⟨w.heap.size, 0, none⟩) rows.length rows.length) us rows) := by
        have h1 := hown.out
        have h2 := hrows.out
        rw [List.take_length] at h2
        rw [Nat.sub_self, List.replicate_zero, List.append_nil] at h1
        exact ⟨h1, fun k hk => (h1.lt k hk).2, Nat.le_refl _, h2.mono hle.out.2 (Nat.le_refl _)⟩
      clear hown hrows hle hul
      go_wp2
      go_ret
      exact ⟨_, us, rfl, HE.out, hbel.out⟩
end Seqs
end Go.Proofs.Ytejbonnkgejngaa
