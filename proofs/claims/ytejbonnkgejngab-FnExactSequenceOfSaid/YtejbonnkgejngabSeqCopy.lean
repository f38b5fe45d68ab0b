/- Contracts of the copies of sequences, of the program and of the model. No conditions beyond those that each states. -/
import Derived.Test.YtejbonnkgejngabSeqTo
import Derived.Test.YtejbonnkgejngabDigits
import Derived.Deep.RegionHeld3
namespace Go.Proofs.Ytejbonnkgejngab
open Go.ChangeShapes Go.WideShapes Go.ChangeAt Go.RowKit
open Go.PlainAid Plain
set_option linter.unusedVariables false
namespace Seqs
open Digits
theorem liesS_open {w : World} {v : Value} {b : Int} {rows : List (List Int)} {out : List Int} (h : LiesS w v b rows out) : ∃ an cn ao co, v = .agg #[.int .i64 b, .slice an rows.length cn, .slice ao out.length co] ∧ LiesR w (.slice an rows.length cn) rows ∧ Lies (Value.int .i64) w (.slice ao out.length co) out := by
  obtain ⟨vn, vo, rfl, hn, ho⟩ := h
  obtain ⟨an, cn, rfl, _⟩ := hn.row
  obtain ⟨_, ao, co, rfl, _⟩ := id ho
  exact ⟨an, cn, ao, co, rfl, hn, ho⟩
theorem has_row {w : World} {base : Nat} {v : Value} {us : List Value} (h : Has id 23 w base v us) : w.ownsRow base 23 1 v us.length (us.map id) := h
theorem impl_copied (v : Value) (b : Int) (rows : List (List Int)) (out : List Int) (w : World) (h : LiesS w v b rows out) (hs : rows.length + tot rows + out.length ≤ 1048576) :
    Calls Try.prog 34 #[v] w (GivesS b rows out w) := by
  obtain ⟨i0, hi, hz0, hz1, hz2⟩ := info_parts infoR
  obtain ⟨an, cn, ao, co, rfl, hN, hO⟩ := liesS_open h
  have HN := Lib.hid hN
  have HO := Lib.hid hO
  clear h hN hO
  have hB : Below w.heap.size w ((w.alloc (Obj.cells #[Value.int .i64 b, Value.slice an rows.length cn, Value.slice ao out.length co] 31)).alloc (Obj.cells #[Value.int .i64 0, Value.slice none 0 0, Value.slice none 0 0] 31)) := ((Below.refl _ _).alloc (Nat.le_refl _) _).alloc (by simp) _
  have hA := Lib.hid ((Cells3.new w 31 (.int .i64 b) (.slice an rows.length cn) (.slice ao out.length co)).alloc (Obj.cells #[Value.int .i64 0, Value.slice none 0 0, Value.slice none 0 0] 31))
  have hZ := Lib.hid (Cells3.new (w.alloc (Obj.cells #[Value.int .i64 b, Value.slice an rows.length cn, Value.slice ao out.length co] 31)) 31 (.int .i64 0) (.slice none 0 0) (.slice none 0 0))
  rw [size_alloc'] at hZ
  have HB := Lib.hid hB
  have hz : ((w.alloc (Obj.cells #[Value.int .i64 b, Value.slice an rows.length cn, Value.slice ao out.length co] 31)).alloc (Obj.cells #[Value.int .i64 0, Value.slice none 0 0, Value.slice none 0 0] 31)).heap.size = w.heap.size + 2 := by simp
  have HZ := Lib.hid hz
  clear hB hz
  go_enter Try.func34, Try.ntmps34
  go_wp2_with (at_make; obtain ⟨W0, hW0⟩ : ∃ W, W = (w.alloc (Obj.cells #[Value.int .i64 b, Value.slice an rows.length cn, Value.slice ao out.length co] 31)).alloc (Obj.cells #[Value.int .i64 0, Value.slice none 0 0, Value.slice none 0 0] 31) := ⟨_, rfl⟩; rw [← hW0] at hA hZ HB HZ ⊢; refine wpList_make_full W0 rfl _ _ 22 rfl W0.heap.size 23 i0 (.slice none 0 0) 1 Try.underlying22 hi hz0 hz1 .i64 .i64 _ _ rows.length rfl rfl rfl rfl (by rw [hz2]; omega) (by unfold maxLen; omega) (Nat.le_refl _) ?_; intro w1 hown hgrow; clear hW0)
  have hb1 := below_of_grown hgrow
  have hown0 : Hid (Has id 23 w1 (w.heap.size + 2) (.slice (some ⟨w.heap.size + 2, 0, none⟩) rows.length rows.length) ([] ++ List.replicate (rows.length - 0) (.slice none 0 0))) := by
    have := made_rows hown
    rw [HZ.out] at this
    exact this
  have HA1 := Lib.hid (hA.out.below hb1)
  have HZ1 := Lib.hid (hZ.out.below hb1)
  have HB1 := Lib.hid (HB.out.trans (hb1.mono HB.out.size))
  have hsz : Hid (w.heap.size + 2 ≤ w1.heap.size) := by have := hb1.size; rw [HZ.out] at this; exact this
  rw [HZ.out] at *
  clear hown hgrow hb1 hA hZ HB HZ
  go_loopw [11] (fun i' wr => ∃ (i : Nat) (us : List Value) (hi : Nat), i ≤ rows.length ∧ us.length = i ∧ i' = .int .i64 i ∧ Hid (Has id 23 wr (w.heap.size + 2) (.slice (some ⟨w.heap.size + 2, 0, none⟩) rows.length rows.length) (us ++ List.replicate (rows.length - i) (.slice none 0 0))) ∧ Hid (OwnRows wr (w.heap.size + 2) hi us (rows.take i)) ∧ Hid (w.heap.size + 2 ≤ hi ∧ hi ≤ wr.heap.size) ∧ Hid (Cells3 wr w.heap.size 31 (.int .i64 b) (.slice an rows.length cn) (.slice ao out.length co)) ∧ Hid (Cells3 wr (w.heap.size + 1) 31 (.int .i64 0) (.slice none 0 0) (.slice none 0 0)) ∧ Hid (Below w.heap.size w wr)) (fun i' _ => rows.length - (intOf i').toNat)
  case atStart => exact ⟨0, [], w.heap.size + 2, Nat.zero_le _, rfl, rfl, hown0, OwnRows.nil _ _ _, ⟨Nat.le_refl _, hsz.out⟩, HA1, HZ1, HB1⟩
  case round =>
    obtain ⟨i, us, hi, hile, hul, rfl, hown, hrows, hle, hA, hZ, hbel⟩ := hrel
    by_cases hlt : i < rows.length
    · obtain ⟨r, hr⟩ : ∃ r, rows[i]? = some r := ⟨_, List.getElem?_eq_getElem hlt⟩
      obtain ⟨a0, c0, hv0, _, hcl⟩ := (HN.out.below hbel.out).row
      obtain ⟨p, off, u, rfl, hcell, hlies⟩ := hcl i r hr
      have HL := Lib.hid hlies
      have HRL := Lib.hid (row_le rows i r hr)
      have HT := Lib.hid (show rows.take (i + 1) = rows.take i ++ [r] from by
        obtain ⟨h1, rfl⟩ := List.getElem?_eq_some_iff.1 hr
        exact List.take_succ_eq_append_getElem h1)
      have HUL := Lib.hid hul
      injection hv0 with e1 e2 e3
      subst e1; subst e3
      have k0 := hA.out.c0
      have k1 := hA.out.c1
      have k2 := hA.out.c2
      clear hlies hr hul hcl
      go_wp2_with fail
      refine (clone_lies _ r _ HL.out (by have := HRL.out; omega)).mono ?_
      rintro e W1 ⟨v1, rfl, hv1, hb1⟩
      obtain ⟨a1, cap1, rfl, _⟩ := hv1.form
      have HN1 := Lib.hid (hown.out.below hb1)
      have HR1 := Lib.hid ((hrows.out.below hb1).snoc ((OwnI.of_gives hv1).mono hle.out.2 (Nat.le_refl _) (Nat.le_refl _)) hle.out.1 (Nat.le_trans hle.out.2 hb1.size))
      have HB1 := Lib.hid (hbel.out.trans (hb1.mono hbel.out.size))
      have HS1 := Lib.hid (Nat.le_trans hle.out.1 (Nat.le_trans hle.out.2 hb1.size))
      have HA1 := Lib.hid (hA.out.below hb1)
      have HZ1 := Lib.hid (hZ.out.below hb1)
      clear hown hrows hb1 hv1 hle hbel hA hZ k0 k1 k2 HL hcell
      have H1 : W1.ownsRow (w.heap.size + 2) 23 1 (.slice (some ⟨w.heap.size + 2, 0, none⟩) rows.length rows.length) rows.length ((us ++ List.replicate (rows.length - i) (Value.slice none 0 0)).map id) := by
        have := HN1.out
        unfold Has at this
        rw [show (us ++ List.replicate (rows.length - i) (Value.slice none 0 0)).length = rows.length from by rw [List.length_append, List.length_replicate, HUL.out]; omega] at this
        exact this
      have hc : W1.cell? ⟨w.heap.size + 2, i, none⟩ = some (.slice none 0 0) := by
        rw [H1.cellAt i (by omega), List.getElem?_map, List.getElem?_append_right (by rw [HUL.out]; omega), List.getElem?_replicate, if_pos (by rw [HUL.out]; omega)]
        rfl
      have hfr := H1.frozenAt i
      have hst := H1.stored i (id (.slice a1 r.length cap1))
      rw [← HUL.out, set_next us _ _ (.slice a1 r.length cap1) (by rw [HUL.out]; omega), HUL.out] at hst
      have HST := Lib.hid hst
      clear hst H1
      go_wp2
      go_roundw
      case rel =>
        refine ⟨i + 1, us ++ [.slice a1 r.length cap1], W1.heap.size, by omega, by simp [HUL.out], by go_num, ?_, ?_, ⟨HS1.out, HST.out.2.size⟩, HA1.out.grown HST.out.2 (by simp), HZ1.out.grown HST.out.2 (by simp), HB1.out.grown HST.out.2 HB1.out.size (fun k hk => by cases hk; omega)⟩
        · show World.ownsRow _ _ _ _ _ _ _
          rw [show (us ++ [Value.slice a1 r.length cap1] ++ List.replicate (rows.length - (i + 1)) (Value.slice none 0 0)).length = rows.length from by simp [HUL.out]; omega]
          exact HST.out.1
        · rw [HT.out]
          exact HR1.out.top_grown HN1.out HST.out.2
      case measure => simp [intOf]; omega
    · obtain rfl : i = rows.length := by omega
      have HE : Hid (OwnR wr (w.heap.size + 2) wr.heap.size (.slice (some ⟨w.heap.size + 2, 0, none⟩) rows.length rows.length) us rows) := by
        have h1 := hown.out
        have h2 := hrows.out
        rw [List.take_length] at h2
        rw [Nat.sub_self, List.replicate_zero, List.append_nil] at h1
        exact ⟨h1, fun k hk => (h1.lt k hk).2, Nat.le_refl _, h2.mono hle.out.2 (Nat.le_refl _)⟩
      have HUL := Lib.hid hul
      clear hown hrows hul
      go_wp2
      have bd := below_drew' wr
      obtain ⟨Wd, hWd⟩ : ∃ W, W = wr.drew := ⟨_, rfl⟩
      rw [← hWd] at bd
      have HEd := Lib.hid (HE.out.below bd)
      have HAd := Lib.hid (hA.out.below bd)
      have HZd := Lib.hid (hZ.out.below bd)
      have HBd := Lib.hid (hbel.out.trans (bd.mono hbel.out.size))
      clear bd HE hA hZ hbel
      have k0 := HAd.out.c0
      have k1 := HAd.out.c1
      have k2 := HAd.out.c2
      have z0 := HZd.out.c0
      have z1 := HZd.out.c1
      have z2 := HZd.out.c2
      have z3 := HZd.out.f
      rw [hWd] at k0 k1 k2 z0 z1 z2 z3
      go_region_with (go_at_call 49; rw [← hWd]; refine (clone_lies _ out _ (HO.out.below HBd.out) (by omega)).mono ?_; rintro e Wt ⟨vt, rfl, ht, bt⟩; obtain ⟨av, cv, rfl, _⟩ := ht.form; have m0 := (HAd.out.below bt).c0; have m2 := (HAd.out.below bt).c2; have n0 := (HZd.out.below bt).c0; have n1 := (HZd.out.below bt).c1; have n2 := (HZd.out.below bt).c2; have n3 := (HZd.out.below bt).f)
      all_goals
        have HE2 := Lib.hid (HEd.out.below bt)
        have HO2 := Lib.hid ((OwnI.of_gives ht).mono HEd.out.le (Nat.le_refl _) (Nat.le_refl _))
        have HB2 := Lib.hid (HBd.out.trans (bt.mono HBd.out.size))
        have HZ2 := Lib.hid ((((HZd.out.below bt).set0 (.int .i64 b)).set1 (.slice (some ⟨w.heap.size + 2, 0, none⟩) rows.length rows.length)).set2 (.slice av out.length cv))
        have hz1 := Lib.hid bt.size
        have hz2 := Lib.hid HEd.out.le
        have hz3 : Hid (w.heap.size + 2 ≤ wr.heap.size) := by show _ ≤ _; have := hle.out; omega
        clear ht bt k0 k1 k2 z0 z1 z2 z3 m0 m2 n0 n1 n2 n3
        go_wp2
        have m0 := HZ2.out.c0
        have m1 := HZ2.out.c1
        have m2 := HZ2.out.c2
        refine bodyPost_ret (v := .agg #[.int .i64 b, (.slice (some ⟨w.heap.size + 2, 0, none⟩) rows.length rows.length), .slice av out.length cv]) (by simp [results, Try.results34, go_sem, m0, m1, m2]) rfl ⟨_, rfl, ?_, ?_⟩
        · have T0 : Plain.Touch w.heap.size (w.heap.size + 2) Wt (((Wt.setCell ⟨w.heap.size + 1, 0, none⟩ (.int .i64 b)).setCell ⟨w.heap.size + 1, 1, none⟩ (.slice (some ⟨w.heap.size + 2, 0, none⟩) rows.length rows.length)).setCell ⟨w.heap.size + 1, 2, none⟩ (.slice av out.length cv)) :=
            ((Plain.Touch.of_set _ (by show _ ≤ _ + 1; omega) (by show _ + 1 < _; omega)).trans (Plain.Touch.of_set _ (by show _ ≤ _ + 1; omega) (by show _ + 1 < _; omega))).trans (Plain.Touch.of_set _ (by show _ ≤ _ + 1; omega) (by show _ + 1 < _; omega))
          have g1 := hz1.out
          have g2 := hz2.out
          have g3 := hz3.out
          simp only [size_setCell']
          exact OwnS.make (HE2.out.touch T0 (.inr (Nat.le_refl _))) (HO2.out.touch T0 (.inr (by omega))) (by omega) (by omega) (by omega)
        · exact ((HB2.out.setCell (by show _ ≤ _ + 1; omega) _).setCell (by show _ ≤ _ + 1; omega) _).setCell (by show _ ≤ _ + 1; omega) _
end Seqs
end Go.Proofs.Ytejbonnkgejngab
