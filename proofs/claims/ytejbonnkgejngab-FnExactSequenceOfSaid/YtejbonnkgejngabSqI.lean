/- Contract of the program's SequenceOf. No conditions beyond those that each states. -/
import Derived.Test.YtejbonnkgejngabMoS
import Derived.Test.YtejbonnkgejngabMorI
import Derived.BigRegion
import Derived.Deep.DeepCutAuto
namespace Go.Proofs.Ytejbonnkgejngab
open Go.ChangeShapes Go.WideShapes Go.ChangeAt Go.RowKit
open Go.PlainAid Plain
set_option linter.unusedVariables false
namespace Mor
open Seqs Digits
theorem sq_no {m : List (List Int)} {c : List Int} {W : World} {e : Ending} {W' : World} (h : sqK m c = false) (hg : GivesK 0 [] [] false W e W') : GivesK (sqB m c) (sqR m c) (sqO m c) (sqK m c) W e W' := by simp only [sqB, sqR, sqO, h]; exact hg
theorem sq_yes {m : List (List Int)} {c r : List Int} {W : World} {e : Ending} {W' : World} (h : sqK m c = true) (hr : m[0]? = some r) (hg : GivesK (r.length : Int) m c true W e W') : GivesK (sqB m c) (sqR m c) (sqO m c) (sqK m c) W e W' := by
  have : m.getD 0 [] = r := by simp [List.getD, hr]
  simp only [sqB, sqR, sqO, h, this]; exact hg
theorem sqK_no {m : List (List Int)} {c : List Int} (h : morB m = false) : sqK m c = false := by simp [sqK, h]
theorem sqK_steady {m : List (List Int)} {c r : List Int} (h : morB m = true) (hr : m[0]? = some r) : sqK m c = steadyB (r.length : Int) m c := by
  have : m.getD 0 [] = r := by simp [List.getD, hr]
  simp only [sqK, h, this, Bool.true_and]
theorem cell_kept' {w w' : World} {b o : Nat} {v : Value} (hb : Below w.heap.size w w') (h : w.cell? ⟨b, o, none⟩ = some v) : w'.cell? ⟨b, o, none⟩ = some v := (hb.cell (p := ⟨b, o, none⟩) (World.block_lt_of_cell? w _ h)).trans h
set_option maxRecDepth 100000 in
set_option maxHeartbeats 4000000 in
theorem impl_sq (v u : Value) (m : List (List Int)) (c : List Int) (w : World) (h : LiesM w v m) (hx : Lies (Value.int .i64) w u c) :
    Calls Try.prog 20 #[v, u] w (GivesK (sqB m c) (sqR m c) (sqO m c) (sqK m c) w) := by
  obtain ⟨an, cn, rfl⟩ := h.form
  have HX := Lib.hid hx
  have HM := Lib.hid h
  obtain ⟨hxl, ax, cx, rfl, _, _⟩ := hx
  have HB : Hid (Below w.heap.size w ((w.alloc (Obj.cells #[Value.slice an m.length cn] 28)).alloc (Obj.cells #[Value.int .i64 0, Value.slice none 0 0, Value.slice none 0 0] 31))) := ((Below.refl _ _).alloc (Nat.le_refl _) _).alloc (by simp) _
  have hA := Lib.hid ((Cells1.new w 28 (.slice an m.length cn)).alloc (Obj.cells #[Value.int .i64 0, Value.slice none 0 0, Value.slice none 0 0] 31))
  have hZ := Lib.hid (Cells3.new (w.alloc (Obj.cells #[Value.slice an m.length cn] 28)) 31 (.int .i64 0) (.slice none 0 0) (.slice none 0 0))
  rw [size_alloc'] at hZ
  clear h
  go_enter Try.func20, Try.ntmps20
  go_wp2_with fail
  refine (impl_mor _ m _ (HM.out.below HB.out)).mono ?_
  rintro e W1 ⟨rfl, b1⟩
  have HB1 := Lib.hid (HB.out.trans (b1.mono HB.out.size))
  have hA1 := Lib.hid (hA.out.below b1)
  have hZ1 := Lib.hid (hZ.out.below b1)
  have HZ1 : Hid (w.heap.size + 2 ≤ W1.heap.size) := by have := b1.size; show _ ≤ _; simp at this; omega
  clear b1 HB hA hZ
  obtain ⟨d, hd⟩ : ∃ d, morB m = d := ⟨_, rfl⟩
  rw [hd]
  have HMB := Lib.hid hd
  clear hd
  cases d with
  | false =>
    have z0 := hZ1.out.c0
    have z1 := hZ1.out.c1
    have z2 := hZ1.out.c2
    have z3 := hZ1.out.f
    go_wp2
    have m0 := (((hZ1.out.set0 (.int .i64 0)).set1 (.slice none 0 0)).set2 (.slice none 0 0)).c0
    have m1 := (((hZ1.out.set0 (.int .i64 0)).set1 (.slice none 0 0)).set2 (.slice none 0 0)).c1
    have m2 := (((hZ1.out.set0 (.int .i64 0)).set1 (.slice none 0 0)).set2 (.slice none 0 0)).c2
    refine bodyPost_ret (v := .tuple #[.agg #[.int .i64 0, .slice none 0 0, .slice none 0 0], .bool false]) (by simp [results, Try.results20, go_sem, m0, m1, m2]) rfl (sq_no (sqK_no HMB.out) ⟨_, rfl, OwnS.zero _, ?_⟩)
    exact ((HB1.out.setCell (by show _ ≤ _ + 1; omega) _).setCell (by show _ ≤ _ + 1; omega) _).setCell (by show _ ≤ _ + 1; omega) _
  | true =>
    have hm1 : 0 < m.length := (morB_out HMB.out).1
    have hm1i : (0 : Int) < (m.length : Int) := by omega
    obtain ⟨r, hr⟩ : ∃ r, m[0]? = some r := ⟨_, List.getElem?_eq_getElem hm1⟩
    obtain ⟨p, o, ua, uc, rfl, hcr, hlr⟩ := rows_at (HM.out.rows.below HB1.out) hr
    rw [Nat.add_zero] at hcr
    have HR := Lib.hid hr
    have k0 := hA1.out.c0
    have hb2 : Below W1.heap.size W1 (W1.alloc (Obj.cells #[Value.int .i64 0, Value.slice none 0 0, Value.slice none 0 0] 31)) := (Below.refl _ _).alloc (Nat.le_refl _) _
    have k0a := (hA1.out.below hb2).c0
    have hcra := cell_kept' hb2 hcr
    have y0 := Cells3.new W1 31 (.int .i64 0) (.slice none 0 0) (.slice none 0 0)
    have y1 := y0.c0
    have y2 := y0.c1
    have y3 := y0.c2
    have y4 := y0.f
    have HCR := Lib.hid hcr
    clear hr hlr
    go_upto_region 3 with fail
    go_cut [6] (fun s wx => ∃ q : Nat, s = .pointer (some ⟨q, 0, none⟩) ∧ Hid (W1.heap.size ≤ q) ∧ Hid (Below W1.heap.size W1 wx) ∧ Hid (Cells3 wx q 31 (.int .i64 (r.length : Int)) (.slice (some ⟨p, o, none⟩) m.length cn) (.slice ax c.length cx)))
    case first =>
      go_region
      all_goals go_wp2_with fail
      all_goals go_meet
      have hz7 : Below W1.heap.size W1 (W1.alloc (.cells #[.int .i64 (r.length : Int), .slice (some ⟨p, o, none⟩) m.length cn, .slice ax c.length cx] 31)) := (Below.refl _ _).alloc (Nat.le_refl _) _
      exact ⟨_, rfl, Nat.le_refl _, hz7.trans ((below_drew' _).mono hz7.size), (Cells3.new W1 31 (.int .i64 (r.length : Int)) (.slice (some ⟨p, o, none⟩) m.length cn) (.slice ax c.length cx)).below (below_drew' _)⟩
    case rest =>
      obtain ⟨q, rfl, HQ, HBQ, HCQ⟩ := hcut
      obtain ⟨W5, rfl⟩ : ∃ W : World, W = wc := ⟨_, rfl⟩
      have hB5 := HB1.out.trans (HBQ.out.mono HB1.out.size)
      have HB5 := Lib.hid hB5
      have hZ5 := Lib.hid (hZ1.out.below HBQ.out)
      have hS5 : LiesS W5 (.agg #[.int .i64 (r.length : Int), .slice (some ⟨p, o, none⟩) m.length cn, .slice ax c.length cx]) (r.length : Int) m c := ⟨_, _, rfl, HM.out.rows.below hB5, HX.out.below hB5⟩
      have HS5 := Lib.hid hS5
      have HZ5 : Hid (w.heap.size + 2 ≤ W5.heap.size) := Nat.le_trans HZ1.out HBQ.out.size
      have f0 := HCQ.out.c0
      have f1 := HCQ.out.c1
      have f2 := HCQ.out.c2
      clear k0 hb2 k0a hcra y0 y1 y2 y3 y4 hA1 hZ1 HB1 hB5 hS5 hcr HZ1
      go_wp2_with fail
      refine (impl_steady _ (r.length : Int) m c _ HS5.out).mono ?_
      rintro e W6 ⟨rfl, b6⟩
      have HB6 := Lib.hid (HB5.out.trans (b6.mono HB5.out.size))
      have hZ6 := Lib.hid (hZ5.out.below b6)
      have HC6 := Lib.hid (HCQ.out.below b6)
      have HS6 := Lib.hid (HS5.out.below b6)
      have HZ6 : Hid (w.heap.size + 2 ≤ W6.heap.size) := Nat.le_trans HZ5.out b6.size
      have HK := Lib.hid (sqK_steady (c := c) HMB.out HR.out)
      clear b6 HB5 hZ5 HCQ HS5 f0 f1 f2 HZ5
      obtain ⟨d, hd⟩ : ∃ d, steadyB (r.length : Int) m c = d := ⟨_, rfl⟩
      rw [hd] at HK ⊢
      have HD := Lib.hid hd
      clear hd
      cases d with
      | false =>
        have z0 := hZ6.out.c0
        have z1 := hZ6.out.c1
        have z2 := hZ6.out.c2
        have z3 := hZ6.out.f
        go_wp2
        have m0 := (((hZ6.out.set0 (.int .i64 0)).set1 (.slice none 0 0)).set2 (.slice none 0 0)).c0
        have m1 := (((hZ6.out.set0 (.int .i64 0)).set1 (.slice none 0 0)).set2 (.slice none 0 0)).c1
        have m2 := (((hZ6.out.set0 (.int .i64 0)).set1 (.slice none 0 0)).set2 (.slice none 0 0)).c2
        refine bodyPost_ret (v := .tuple #[.agg #[.int .i64 0, .slice none 0 0, .slice none 0 0], .bool false]) (by simp [results, Try.results20, go_sem, m0, m1, m2]) rfl (sq_no HK.out ⟨_, rfl, OwnS.zero _, ?_⟩)
        exact ((HB6.out.setCell (by show _ ≤ _ + 1; omega) _).setCell (by show _ ≤ _ + 1; omega) _).setCell (by show _ ≤ _ + 1; omega) _
      | true =>
        have HSS := Lib.hid (steady_seq HD.out)
        have hsz : m.length + tot m + c.length ≤ 1048576 := by
          have h1 := seq_tot HSS.out
          have h2 := HSS.out.2.2.2.1
          omega
        have f0 := HC6.out.c0
        have f1 := HC6.out.c1
        have f2 := HC6.out.c2
        go_wp2_with fail
        refine (impl_copied _ (r.length : Int) m c _ HS6.out hsz).mono ?_
        rintro e W7 ⟨v7, rfl, ho, b7⟩
        obtain ⟨a1, c1, a2, c2, rfl⟩ := ho.form
        have HB7 := Lib.hid (HB6.out.trans (b7.mono HB6.out.size))
        have hZ7 := Lib.hid (hZ6.out.below b7)
        have HO := Lib.hid ho
        clear b7 HB6 hZ6 HC6 HS6 ho f0 f1 f2
        have z0 := hZ7.out.c0
        have z1 := hZ7.out.c1
        have z2 := hZ7.out.c2
        have z3 := hZ7.out.f
        go_wp2
        have hZ8 := ((hZ7.out.set0 (.int .i64 (r.length : Int))).set1 (.slice a1 m.length c1)).set2 (.slice a2 c.length c2)
        have m0 := hZ8.c0
        have m1 := hZ8.c1
        have m2 := hZ8.c2
        refine bodyPost_ret (v := .tuple #[.agg #[.int .i64 (r.length : Int), .slice a1 m.length c1, .slice a2 c.length c2], .bool true]) (by simp [results, Try.results20, go_sem, m0, m1, m2]) rfl (sq_yes HK.out HR.out ⟨_, rfl, ?_, ?_⟩)
        · have T0 : Plain.Touch w.heap.size (w.heap.size + 2) W7 (((W7.setCell ⟨w.heap.size + 1, 0, none⟩ (.int .i64 (r.length : Int))).setCell ⟨w.heap.size + 1, 1, none⟩ (.slice a1 m.length c1)).setCell ⟨w.heap.size + 1, 2, none⟩ (.slice a2 c.length c2)) :=
            ((Plain.Touch.of_set _ (by show _ ≤ _ + 1; omega) (by show _ + 1 < _; omega)).trans (Plain.Touch.of_set _ (by show _ ≤ _ + 1; omega) (by show _ + 1 < _; omega))).trans (Plain.Touch.of_set _ (by show _ ≤ _ + 1; omega) (by show _ + 1 < _; omega))
          have g1 := HZ6.out
          have := (HO.out.touch T0 (.inr g1)).lower (show w.heap.size ≤ W6.heap.size by omega)
          simpa only [size_setCell'] using this
        · exact ((HB7.out.setCell (by show _ ≤ _ + 1; omega) _).setCell (by show _ ≤ _ + 1; omega) _).setCell (by show _ ≤ _ + 1; omega) _
end Mor
end Go.Proofs.Ytejbonnkgejngab
