/- Contract of the program's SteadyForm. No conditions beyond those that each states. -/
import Derived.Test.YthnmighlgifoeaaSeqForm
import Derived.Test.YthnmighlgifoeaaSeqRaise
import Derived.Test.YthnmighlgifoeaaSeqs3
import Derived.Deep.DeepCutAuto
import Derived.Deep.RegionHeld3
namespace Go.Proofs.Ythnmighlgifoeaa
open Go.ChangeShapes Go.WideShapes Go.ChangeAt Go.RowKit
open Go.PlainAid Plain
set_option linter.unusedVariables false
namespace Seqs
open Digits

theorem impl_form_no (v : Value) (b : Int) (rows : List (List Int)) (out : List Int) (w : World) (h : LiesS w v b rows out) (hno : formK b rows out = false) :
    Calls Try.prog 52 #[v] w (GivesK 0 [] [] false w) := by
  have HS := Lib.hid h
  obtain ⟨an, cn, ao, co, rfl⟩ := h.form
  clear h
  have hst : steadyB b rows out = false := by simp [formK] at hno; exact hno.1
  have HST := Lib.hid hst
  have hB : Below w.heap.size w ((w.alloc (Obj.cells #[Value.int .i64 b, Value.slice an rows.length cn, Value.slice ao out.length co] 27)).alloc (Obj.cells #[Value.int .i64 0, Value.slice none 0 0, Value.slice none 0 0] 27)) := ((Below.refl _ _).alloc (Nat.le_refl _) _).alloc (by simp) _
  have hA := Lib.hid ((Cells3.new w 27 (.int .i64 b) (.slice an rows.length cn) (.slice ao out.length co)).alloc (Obj.cells #[Value.int .i64 0, Value.slice none 0 0, Value.slice none 0 0] 27))
  have hZ := Lib.hid (Cells3.new (w.alloc (Obj.cells #[Value.int .i64 b, Value.slice an rows.length cn, Value.slice ao out.length co] 27)) 27 (.int .i64 0) (.slice none 0 0) (.slice none 0 0))
  rw [size_alloc'] at hZ
  have HB := Lib.hid hB
  have hz : ((w.alloc (Obj.cells #[Value.int .i64 b, Value.slice an rows.length cn, Value.slice ao out.length co] 27)).alloc (Obj.cells #[Value.int .i64 0, Value.slice none 0 0, Value.slice none 0 0] 27)).heap.size = w.heap.size + 2 := by simp
  have HZ := Lib.hid hz
  clear hB hz
  have hwf : (rows.length : Int) = 16 ∨ ¬ (rows.length : Int) = 16 := by omega
  cases hq : seqB b rows out with
  | false =>
    have HQ := Lib.hid hq
    clear hq hno hst hwf
    go_enter Try.func52, Try.ntmps52
    go_wp2_with fail
    refine (impl_steady _ b rows out _ (HS.out.below HB.out)).mono ?_
    rintro e W1 ⟨rfl, b1⟩
    rw [HST.out]
    have HB1 := Lib.hid (HB.out.trans (b1.mono HB.out.size))
    have hA1 := Lib.hid (hA.out.below b1)
    have hZ1 := Lib.hid (hZ.out.below b1)
    clear b1 HB hA hZ HZ
    have k0 := hA1.out.c0
    have k1 := hA1.out.c1
    have k2 := hA1.out.c2
    go_wp2_with fail
    refine (impl_is _ b rows out _ (HS.out.below HB1.out)).mono ?_
    rintro e W2 ⟨rfl, b1⟩
    rw [HQ.out]
    have HB2 := Lib.hid (HB1.out.trans (b1.mono HB1.out.size))
    have hZ2 := Lib.hid (hZ1.out.below b1)
    clear b1 HB1 hA1 hZ1 k0 k1 k2
    have z0 := hZ2.out.c0
    have z1 := hZ2.out.c1
    have z2 := hZ2.out.c2
    have z3 := hZ2.out.f
    go_wp2
    have m0 := (((hZ2.out.set0 (.int .i64 0)).set1 (.slice none 0 0)).set2 (.slice none 0 0)).c0
    have m1 := (((hZ2.out.set0 (.int .i64 0)).set1 (.slice none 0 0)).set2 (.slice none 0 0)).c1
    have m2 := (((hZ2.out.set0 (.int .i64 0)).set1 (.slice none 0 0)).set2 (.slice none 0 0)).c2
    refine bodyPost_ret (v := .tuple #[.agg #[.int .i64 0, .slice none 0 0, .slice none 0 0], .bool false]) (by simp [results, Try.results52, go_sem, m0, m1, m2]) rfl ⟨_, rfl, OwnS.zero _, ?_⟩
    exact ((HB2.out.setCell (by show _ ≤ _ + 1; omega) _).setCell (by show _ ≤ _ + 1; omega) _).setCell (by show _ ≤ _ + 1; omega) _
  | true =>
    have hl : rows.length = 16 := by
      have h1 := seqB_out hq
      simp [formK, hq] at hno
      have := h1.2.2.2.1
      omega
    have HQ := Lib.hid hq
    have hd := decide_eq_true (show (rows.length : Int) = 16 by omega)
    have hd2 : ((rows.length : Int) == 16) = true := by simp [hl]
    clear hq hno hst hwf hl
    go_enter Try.func52, Try.ntmps52
    go_wp2_with fail
    refine (impl_steady _ b rows out _ (HS.out.below HB.out)).mono ?_
    rintro e W1 ⟨rfl, b1⟩
    rw [HST.out]
    have HB1 := Lib.hid (HB.out.trans (b1.mono HB.out.size))
    have hA1 := Lib.hid (hA.out.below b1)
    have hZ1 := Lib.hid (hZ.out.below b1)
    clear b1 HB hA hZ HZ
    have k0 := hA1.out.c0
    have k1 := hA1.out.c1
    have k2 := hA1.out.c2
    go_wp2_with fail
    refine (impl_is _ b rows out _ (HS.out.below HB1.out)).mono ?_
    rintro e W2 ⟨rfl, b1⟩
    rw [HQ.out]
    have HB2 := Lib.hid (HB1.out.trans (b1.mono HB1.out.size))
    have hZ2 := Lib.hid (hZ1.out.below b1)
    have hA2 := Lib.hid (hA1.out.below b1)
    clear b1 HB1 hA1 hZ1 k0 k1 k2
    have k0 := hA2.out.c0
    have k1 := hA2.out.c1
    have k2 := hA2.out.c2
    have z0 := hZ2.out.c0
    have z1 := hZ2.out.c1
    have z2 := hZ2.out.c2
    have z3 := hZ2.out.f
    go_wp2
    have m0 := (((hZ2.out.set0 (.int .i64 0)).set1 (.slice none 0 0)).set2 (.slice none 0 0)).c0
    have m1 := (((hZ2.out.set0 (.int .i64 0)).set1 (.slice none 0 0)).set2 (.slice none 0 0)).c1
    have m2 := (((hZ2.out.set0 (.int .i64 0)).set1 (.slice none 0 0)).set2 (.slice none 0 0)).c2
    refine bodyPost_ret (v := .tuple #[.agg #[.int .i64 0, .slice none 0 0, .slice none 0 0], .bool false]) (by simp [results, Try.results52, go_sem, m0, m1, m2]) rfl ⟨_, rfl, OwnS.zero _, ?_⟩
    exact ((HB2.out.setCell (by show _ ≤ _ + 1; omega) _).setCell (by show _ ≤ _ + 1; omega) _).setCell (by show _ ≤ _ + 1; omega) _
theorem impl_form_same (v : Value) (b : Int) (rows : List (List Int)) (out : List Int) (w : World) (h : LiesS w v b rows out) (hst : steadyB b rows out = true) (hs : rows.length + tot rows + out.length ≤ 1048576) :
    Calls Try.prog 52 #[v] w (GivesK b rows out true w) := by
  have HS := Lib.hid h
  obtain ⟨an, cn, ao, co, rfl⟩ := h.form
  clear h
  have HST := Lib.hid hst
  clear hst
  have hB : Below w.heap.size w ((w.alloc (Obj.cells #[Value.int .i64 b, Value.slice an rows.length cn, Value.slice ao out.length co] 27)).alloc (Obj.cells #[Value.int .i64 0, Value.slice none 0 0, Value.slice none 0 0] 27)) := ((Below.refl _ _).alloc (Nat.le_refl _) _).alloc (by simp) _
  have hA := Lib.hid ((Cells3.new w 27 (.int .i64 b) (.slice an rows.length cn) (.slice ao out.length co)).alloc (Obj.cells #[Value.int .i64 0, Value.slice none 0 0, Value.slice none 0 0] 27))
  have hZ := Lib.hid (Cells3.new (w.alloc (Obj.cells #[Value.int .i64 b, Value.slice an rows.length cn, Value.slice ao out.length co] 27)) 27 (.int .i64 0) (.slice none 0 0) (.slice none 0 0))
  rw [size_alloc'] at hZ
  have HB := Lib.hid hB
  have hz : ((w.alloc (Obj.cells #[Value.int .i64 b, Value.slice an rows.length cn, Value.slice ao out.length co] 27)).alloc (Obj.cells #[Value.int .i64 0, Value.slice none 0 0, Value.slice none 0 0] 27)).heap.size = w.heap.size + 2 := by simp
  have HZ := Lib.hid hz
  clear hB hz
  go_enter Try.func52, Try.ntmps52
  go_wp2_with fail
  refine (impl_steady _ b rows out _ (HS.out.below HB.out)).mono ?_
  rintro e W1 ⟨rfl, b1⟩
  rw [HST.out]
  have HB1 := Lib.hid (HB.out.trans (b1.mono HB.out.size))
  have hA1 := Lib.hid (hA.out.below b1)
  have hZ1 := Lib.hid (hZ.out.below b1)
  have HZ1 := Lib.hid (show w.heap.size + 2 ≤ W1.heap.size by have := b1.size; rw [HZ.out] at this; exact this)
  clear b1 HB hA hZ HZ
  have k0 := hA1.out.c0
  have k1 := hA1.out.c1
  have k2 := hA1.out.c2
  go_wp2_with fail
  refine (impl_copied _ b rows out _ (HS.out.below HB1.out) hs).mono ?_
  rintro e W2 ⟨v2, rfl, ho, b1⟩
  obtain ⟨a1, c1, a2, c2, rfl⟩ := ho.form
  have HB2 := Lib.hid (HB1.out.trans (b1.mono HB1.out.size))
  have hZ2 := Lib.hid (hZ1.out.below b1)
  have HO := Lib.hid ho
  clear b1 HB1 hA1 hZ1 k0 k1 k2 ho
  have z0 := hZ2.out.c0
  have z1 := hZ2.out.c1
  have z2 := hZ2.out.c2
  have z3 := hZ2.out.f
  go_wp2
  have hZ3 := (((hZ2.out.set0 (.int .i64 b)).set1 (.slice a1 rows.length c1)).set2 (.slice a2 out.length c2))
  have m0 := hZ3.c0
  have m1 := hZ3.c1
  have m2 := hZ3.c2
  refine bodyPost_ret (v := .tuple #[.agg #[.int .i64 b, .slice a1 rows.length c1, .slice a2 out.length c2], .bool true]) (by simp [results, Try.results52, go_sem, m0, m1, m2]) rfl ⟨_, rfl, ?_, ?_⟩
  · have T0 : Plain.Touch w.heap.size (w.heap.size + 2) W2 (((W2.setCell ⟨w.heap.size + 1, 0, none⟩ (.int .i64 b)).setCell ⟨w.heap.size + 1, 1, none⟩ (.slice a1 rows.length c1)).setCell ⟨w.heap.size + 1, 2, none⟩ (.slice a2 out.length c2)) :=
      ((Plain.Touch.of_set _ (by show _ ≤ _ + 1; omega) (by show _ + 1 < _; omega)).trans (Plain.Touch.of_set _ (by show _ ≤ _ + 1; omega) (by show _ + 1 < _; omega))).trans (Plain.Touch.of_set _ (by show _ ≤ _ + 1; omega) (by show _ + 1 < _; omega))
    have g1 := HZ1.out
    have := (HO.out.touch T0 (.inr g1)).lower (show w.heap.size ≤ W1.heap.size by omega)
    simpa only [size_setCell'] using this
  · exact ((HB2.out.setCell (by show _ ≤ _ + 1; omega) _).setCell (by show _ ≤ _ + 1; omega) _).setCell (by show _ ≤ _ + 1; omega) _

theorem set_first (xs : List Int) (h : 0 < xs.length) : (raise xs).set 0 0 = 0 :: raise (xs.drop 1) := by
  cases xs with
  | nil => simp at h
  | cons x l => simp [raise]
theorem form_meet {wx w W4 : World} {b o0 : Int} {row : List Int} {v1 vn vo A1 A2 s : Value} {p : Nat} (HF : OwnI W4 (w.heap.size + 2) W4.heap.size v1 row) (HB : Below w.heap.size w W4) (HA : Cells3 W4 w.heap.size 27 (.int .i64 b) A1 A2) (HZ : Cells3 W4 (w.heap.size + 1) 27 (.int .i64 0) (.slice none 0 0) (.slice none 0 0)) (hs : w.heap.size + 2 ≤ W4.heap.size)
    (hbel : Below W4.heap.size W4 wx) (hp : W4.heap.size ≤ p) (hc : Cells3 wx p 27 (.int .i64 b) vn vo) (hn : Has id 23 wx W4.heap.size vn [v1]) (ho : Has (Value.int .i64) 3 wx W4.heap.size vo [o0]) (hsv : s = .pointer (some ⟨p, 0, none⟩)) :
    ∃ (p : Nat) (vn vo : Value), s = .pointer (some ⟨p, 0, none⟩) ∧ Hid (w.heap.size + 2 ≤ p ∧ p < wx.heap.size) ∧ Hid (Has id 23 wx (w.heap.size + 2) vn [v1]) ∧ Hid (OwnRows wx (w.heap.size + 2) wx.heap.size (vo :: [v1]) ([o0] :: [row])) ∧ Hid (Cells3 wx p 27 (.int .i64 b) vn vo) ∧ Hid (Below w.heap.size w wx) ∧ Hid (Cells3 wx w.heap.size 27 (.int .i64 b) A1 A2) ∧ Hid (Cells3 wx (w.heap.size + 1) 27 (.int .i64 0) (.slice none 0 0) (.slice none 0 0)) :=
  ⟨p, vn, vo, hsv, ⟨Nat.le_trans hs hp, hc.lt⟩, hn.mono hs, own_pair (HF.below hbel) (own_of_has ho) hs hbel.size, hc, HB.trans (hbel.mono HB.size), c3_of_below hbel HA (by omega), c3_of_below hbel HZ (by omega)⟩
set_option maxHeartbeats 2000000 in
theorem impl_form_make (v : Value) (b : Int) (rows : List (List Int)) (out : List Int) (w : World) (h : LiesS w v b rows out) (hq : seqB b rows out = true) (hst : steadyB b rows out = false) (hlen : rows.length < 16) (hs : rows.length + tot rows + out.length ≤ 1048576) :
    Calls Try.prog 52 #[v] w (GivesK b (steadyRows rows) (steadyOut out) true w) := by
  obtain ⟨i0, hi, hz0, hz1, hz2⟩ := info_parts infoR
  obtain ⟨i1, hi1, hz01, hz11, hz21⟩ := info_parts Ints.infoI
  have HS := Lib.hid h
  obtain ⟨an, cn, ao, co, rfl, hN, hO⟩ := liesS_open h
  have HN := Lib.hid hN
  have HO := Lib.hid hO
  clear h hN hO
  have HST := Lib.hid hst
  have HQ := Lib.hid hq
  have hv := seqB_out hq
  have hr1 : 0 < rows.length := by have := hv.2.2.1; omega
  have hol : out.length = rows.length := hv.2.2.2.2.1
  have hb2 : 2 ≤ b := hv.1
  have hb4 : b ≤ 4 := hv.2.1
  have HROW := Lib.hid (fun (i : Nat) (r : List Int) (hr : rows[i]? = some r) => hv.2.2.2.2.2.1 r (List.mem_of_getElem? hr))
  obtain ⟨o0, ho0⟩ : ∃ o0, out[0]? = some o0 := ⟨_, List.getElem?_eq_getElem (by omega)⟩
  obtain ⟨r0, hr0⟩ : ∃ r0, rows[0]? = some r0 := ⟨_, List.getElem?_eq_getElem hr1⟩
  have hr0b := HROW.out 0 r0 hr0
  have hr0l : 0 < r0.length := by omega
  have hr0s : r0.length ≤ 4 := by omega
  have HR0B := Lib.hid (show ∀ x ∈ r0, 0 ≤ x ∧ x < 1000 from fun x hx => by have := hr0b.2 x hx; omega)
  have HO0 := Lib.hid ho0
  have HR0 := Lib.hid hr0
  have HSR := Lib.hid (show steadyRows rows = (0 :: raise (r0.drop 1)) :: rows.map raise by rw [steadyRows, List.getD_eq_getElem?_getD, hr0]; rfl)
  have HSO := Lib.hid (show steadyOut out = o0 :: out by rw [steadyOut, List.getD_eq_getElem?_getD, ho0]; rfl)
  have HOL := Lib.hid hol
  have hd := decide_eq_false (show ¬ (rows.length : Int) = 16 by omega)
  have hd2 : ((rows.length : Int) == 16) = false := by simp; omega
  clear hst hq hv hr0b ho0 hr0 hol
  have hB : Below w.heap.size w ((w.alloc (Obj.cells #[Value.int .i64 b, Value.slice an rows.length cn, Value.slice ao out.length co] 27)).alloc (Obj.cells #[Value.int .i64 0, Value.slice none 0 0, Value.slice none 0 0] 27)) := ((Below.refl _ _).alloc (Nat.le_refl _) _).alloc (by simp) _
  have hA := Lib.hid ((Cells3.new w 27 (.int .i64 b) (.slice an rows.length cn) (.slice ao out.length co)).alloc (Obj.cells #[Value.int .i64 0, Value.slice none 0 0, Value.slice none 0 0] 27))
  have hZ := Lib.hid (Cells3.new (w.alloc (Obj.cells #[Value.int .i64 b, Value.slice an rows.length cn, Value.slice ao out.length co] 27)) 27 (.int .i64 0) (.slice none 0 0) (.slice none 0 0))
  rw [size_alloc'] at hZ
  have HB := Lib.hid hB
  have hz : ((w.alloc (Obj.cells #[Value.int .i64 b, Value.slice an rows.length cn, Value.slice ao out.length co] 27)).alloc (Obj.cells #[Value.int .i64 0, Value.slice none 0 0, Value.slice none 0 0] 27)).heap.size = w.heap.size + 2 := by simp
  have HZ := Lib.hid hz
  clear hB hz
  go_enter Try.func52, Try.ntmps52
  go_wp2_with fail
  refine (impl_steady _ b rows out _ (HS.out.below HB.out)).mono ?_
  rintro e W1 ⟨rfl, b1⟩
  rw [HST.out]
  have HB1 := Lib.hid (HB.out.trans (b1.mono HB.out.size))
  have hA1 := Lib.hid (hA.out.below b1)
  have hZ1 := Lib.hid (hZ.out.below b1)
  have hs1 : w.heap.size + 2 ≤ W1.heap.size := by have := b1.size; rw [HZ.out] at this; exact this
  clear b1 HB hA hZ HZ
  have k0 := hA1.out.c0
  have k1 := hA1.out.c1
  have k2 := hA1.out.c2
  go_wp2_with fail
  refine (impl_is _ b rows out _ (HS.out.below HB1.out)).mono ?_
  rintro e W2 ⟨rfl, b1⟩
  rw [HQ.out]
  have HB2 := Lib.hid (HB1.out.trans (b1.mono HB1.out.size))
  have hZ2 := Lib.hid (hZ1.out.below b1)
  have hA2 := Lib.hid (hA1.out.below b1)
  have hs2 : w.heap.size + 2 ≤ W2.heap.size := by have := b1.size; omega
  clear b1 HB1 hA1 hZ1 k0 k1 k2 hs1
  have k0 := hA2.out.c0
  have k1 := hA2.out.c1
  have k2 := hA2.out.c2
  obtain ⟨a0, c0, hv0, _, hcl⟩ := (HN.out.below HB2.out).row
  obtain ⟨pa, off, u, rfl, hcell, hlies⟩ := hcl 0 r0 HR0.out
  injection hv0 with e1 e2 e3
  subst e1; subst e3
  rw [Nat.add_zero] at hcell
  have HL := Lib.hid hlies
  clear hcl hlies
  have hrr : (0 : Int) < (rows.length : Int) := by omega
  go_wp2_with fail
  refine (raised_any _ r0 _ HL.out (by omega) HR0B.out).mono ?_
  rintro e W3 ⟨v1, rfl, hv1, b1⟩
  obtain ⟨a1, c1, rfl, hf1⟩ := hv1.form
  rw [raise_len] at hf1
  obtain ⟨g1, rfl⟩ := hf1 hr0l
  have hrl := raise_len r0
  rw [hrl] at hv1 ⊢
  have hW1 : W3.ownsRow W2.heap.size 3 1 (.slice (some ⟨g1, 0, none⟩) r0.length c1) r0.length ((raise r0).map (Value.int .i64)) := by
    have := hv1
    unfold Has at this
    rw [hrl] at this
    exact this
  have hg1 : W2.heap.size ≤ g1 := (hv1.lt g1 rfl).1
  have hg1' : g1 < W3.heap.size := (hv1.lt g1 rfl).2
  have hc : ∃ x, W3.cell? ⟨g1, 0, none⟩ = some (.int .i64 x) := by
    refine ⟨(raise r0)[0]'(by rw [hrl]; exact hr0l), ?_⟩
    rw [hW1.cellAt 0 (by omega), List.getElem?_map, List.getElem?_eq_getElem (by rw [hrl]; exact hr0l)]
    rfl
  obtain ⟨x0, hc⟩ := hc
  have hfr := hW1.frozenAt 0
  have hst := hW1.stored 0 (.int .i64 0)
  rw [show ((raise r0).map (Value.int .i64)).set 0 (.int .i64 0) = (0 :: raise (r0.drop 1)).map (Value.int .i64) from by rw [← set_first r0 hr0l, List.map_set]] at hst
  have HST3 := Lib.hid hst
  have HB3 := Lib.hid (HB2.out.trans (b1.mono HB2.out.size))
  have hZ3 := Lib.hid (hZ2.out.below b1)
  have hA3 := Lib.hid (hA2.out.below b1)
  have hs3 : w.heap.size + 2 ≤ W3.heap.size := by have := b1.size; omega
  clear b1 HB2 hA2 hZ2 k0 k1 k2 hv1 hW1 hst hrl hf1 hcell HL
  have hr0i : (0 : Int) < (r0.length : Int) := by omega
  go_wp2_with fail
  obtain ⟨W4, hW4⟩ : ∃ W, W = W3.setCell ⟨g1, 0, none⟩ (.int .i64 0) := ⟨_, rfl⟩
  have HF : Hid (OwnI W4 (w.heap.size + 2) W4.heap.size (.slice (some ⟨g1, 0, none⟩) r0.length c1) (0 :: raise (r0.drop 1))) := by
    have h1 := HST3.out.1
    rw [← hW4] at h1
    have h2 : Has (Value.int .i64) 3 W4 W2.heap.size (.slice (some ⟨g1, 0, none⟩) r0.length c1) (0 :: raise (r0.drop 1)) := by
      unfold Has
      rw [show (0 :: raise (r0.drop 1)).length = r0.length from by simp [raise]; omega]
      exact h1
    exact ⟨h2.mono hs2, fun k hk => (h2.lt k hk).2, Nat.le_refl _⟩
  have hB4 : Below w.heap.size w (W3.setCell ⟨g1, 0, none⟩ (.int .i64 0)) := HB3.out.setCell (by show _ ≤ g1; omega) _
  have HB4 := Lib.hid hB4
  have HZ4 := Lib.hid (hZ3.out.other (a := ⟨g1, 0, none⟩) (by show g1 ≠ _; omega) (.int .i64 0))
  have HA4 := Lib.hid (hA3.out.other (a := ⟨g1, 0, none⟩) (by show g1 ≠ _; omega) (.int .i64 0))
  have hs4 : w.heap.size + 2 ≤ (W3.setCell ⟨g1, 0, none⟩ (.int .i64 0)).heap.size := by simpa [World.setCell] using hs3
  rw [← hW4] at HB4 HZ4 HA4 hs4 ⊢
  clear hB4 HB3 hZ3 hA3 HST3 hs3 hc hfr hg1 hg1' hs2 hW4
  obtain ⟨_, ao', co', hv0, _, hco⟩ := HO.out.below HB4.out
  injection hv0 with e1 e2 e3
  subst e1; subst e3
  obtain ⟨po, oo, rfl, hoc⟩ := hco 0 o0 HO0.out
  rw [Nat.add_zero] at hoc
  have hpo : po < w.heap.size := by
    obtain ⟨_, ao', co', hv0, _, hco'⟩ := HO.out
    injection hv0 with e1 e2 e3
    subst e1
    obtain ⟨po', oo', h1, h2⟩ := hco' 0 o0 HO0.out
    injection h1 with h1
    injection h1 with h1 h3
    subst h1
    exact World.block_lt_of_cell? w _ h2
  have HOC := Lib.hid hoc
  have hol : 0 < out.length := by have := HOL.out; omega
  clear hco hoc
  go_cut [5] (fun s wx => ∃ (p : Nat) (vn vo : Value), s = .pointer (some ⟨p, 0, none⟩) ∧ Hid (w.heap.size + 2 ≤ p ∧ p < wx.heap.size) ∧ Hid (Has id 23 wx (w.heap.size + 2) vn [.slice (some ⟨g1, 0, none⟩) r0.length c1]) ∧ Hid (OwnRows wx (w.heap.size + 2) wx.heap.size (vo :: [.slice (some ⟨g1, 0, none⟩) r0.length c1]) ([o0] :: [0 :: raise (r0.drop 1)])) ∧ Hid (Cells3 wx p 27 (.int .i64 b) vn vo) ∧ Hid (Below w.heap.size w wx) ∧ Hid (Cells3 wx w.heap.size 27 (.int .i64 b) (.slice (some ⟨pa, off, none⟩) rows.length cn) (.slice (some ⟨po, oo, none⟩) out.length co)) ∧ Hid (Cells3 wx (w.heap.size + 1) 27 (.int .i64 0) (.slice none 0 0) (.slice none 0 0)))
  case first =>
    go_region_held3 (fun w' => w'.cell? ⟨w.heap.size, 0, none⟩ = some (.int .i64 b) ∧ w'.cell? ⟨w.heap.size, 1, none⟩ = some (.slice (some ⟨pa, off, none⟩) rows.length cn) ∧ w'.cell? ⟨w.heap.size, 2, none⟩ = some (.slice (some ⟨po, oo, none⟩) out.length co) ∧ w'.cell? ⟨po, oo, none⟩ = some (.int .i64 o0))
      ((refine copy_held (w := w) (wo := W4) (t := 27) HA4.out hpo HOC.out ?_; repeat (first | with_reducible exact Below.refl _ _ | with_reducible apply Below.drew | (with_reducible refine Below.alloc ?_ (by first | omega | (simp; omega)) _))))
      (fail)
    all_goals
      go_wp2_with fail
      go_meet
      apply form_meet HF.out HB4.out HA4.out HZ4.out hs4 (hsv := rfl)
      case hc => repeat (first | with_reducible apply c3_drew | ((with_reducible refine c3_new' ?_) <;> (first | rfl | exact Nat.le_refl _ | omega | (simp; done) | (simp; omega))) | with_reducible apply Cells3.alloc)
      case hbel => repeat (first | with_reducible exact Below.refl _ _ | with_reducible apply Below.drew | with_reducible apply below_allocs)
      case hn => repeat (first | with_reducible apply has_drew | ((with_reducible refine has_lit1v _ ?_ ?_) <;> (first | rfl | exact Nat.le_refl _ | omega | (simp; done) | (simp; omega))) | with_reducible apply has_alloc)
      case ho => repeat (first | with_reducible apply has_drew | ((with_reducible refine has_lit1 (enc := Value.int .i64) _ ?_ ?_) <;> (first | rfl | exact Nat.le_refl _ | omega | (simp; done) | (simp; omega))) | with_reducible apply has_alloc)
      case hp => first | exact Nat.le_refl _ | (simp; done) | omega
  case rest =>
    obtain ⟨p, vn, vo, rfl, hp, hN1, hR1, hC1, hB1, hA1, hZ1⟩ := hcut
    obtain ⟨W5, rfl⟩ : ∃ W, W = wc := ⟨_, rfl⟩
    have hp1 := hp.out.1
    clear hp HF HB4 HZ4 HA4 hs4 HOC
    have k0 := hA1.out.c0
    have k1 := hA1.out.c1
    have k2 := hA1.out.c2
    go_wp2_with fail
    go_loopw [42] (fun i' wr => ∃ (i : Nat) (us : List Value) (vn vo : Value), i ≤ rows.length ∧ i' = .int .i64 i ∧ Hid (Has id 23 wr (w.heap.size + 2) vn us) ∧ Hid (OwnRows wr (w.heap.size + 2) wr.heap.size (vo :: us) ((o0 :: out.take i) :: ((0 :: raise (r0.drop 1)) :: (rows.take i).map raise))) ∧ Hid (Cells3 wr p 27 (.int .i64 b) vn vo) ∧ Hid (Below w.heap.size w wr) ∧ Hid (Cells3 wr w.heap.size 27 (.int .i64 b) (.slice (some ⟨pa, off, none⟩) rows.length cn) (.slice (some ⟨po, oo, none⟩) out.length co)) ∧ Hid (Cells3 wr (w.heap.size + 1) 27 (.int .i64 0) (.slice none 0 0) (.slice none 0 0))) (fun i' _ => rows.length - (intOf i').toNat)
    case atStart => exact ⟨0, [_], vn, vo, Nat.zero_le _, rfl, hN1, hR1, hC1, hB1, hA1, hZ1⟩
    case round =>
      clear k0 k1 k2
      obtain ⟨i, us, vn, vo, hile, rfl, hN, hR, hC, hB, hA, hZ⟩ := hrel
      obtain ⟨wo, rfl⟩ : ∃ wo : World, wo = wr := ⟨_, rfl⟩
      by_cases hlt : i < rows.length
      · obtain ⟨r, hr⟩ : ∃ r, rows[i]? = some r := ⟨_, List.getElem?_eq_getElem hlt⟩
        obtain ⟨oi, hoi⟩ : ∃ o, out[i]? = some o := ⟨_, List.getElem?_eq_getElem (by have := HOL.out; omega)⟩
        obtain ⟨a0, c0, hv0, _, hcl⟩ := (HN.out.below hB.out).row
        obtain ⟨pa', off', u, h1, hcell, hlies⟩ := hcl i r hr
        injection hv0 with e1 e2 e3
        rw [← e1] at h1
        injection h1 with h1
        injection h1 with h1 h2
        subst h1; subst h2
        have HL := Lib.hid hlies
        have hrb := HROW.out i r hr
        have hrl : r.length ≤ 4 := by omega
        have HRB := Lib.hid (show ∀ x ∈ r, 0 ≤ x ∧ x < 1000 from fun x hx => by have := hrb.2 x hx; omega)
        have HT := Lib.hid (show rows.take (i + 1) = rows.take i ++ [r] from by
          obtain ⟨h1, rfl⟩ := List.getElem?_eq_some_iff.1 hr
          exact List.take_succ_eq_append_getElem h1)
        have HTO := Lib.hid (show out.take (i + 1) = out.take i ++ [oi] from by
          obtain ⟨h1, rfl⟩ := List.getElem?_eq_some_iff.1 hoi
          exact List.take_succ_eq_append_getElem h1)
        have HOI := Lib.hid hoi
        have hul : us.length = i + 1 := by
          have := hR.out.len
          simp at this
          omega
        have HUL := Lib.hid hul
        have hw2 : w.heap.size + 2 ≤ wo.heap.size := by have := hC.out.lt; omega
        have hi0 : (0 : Int) ≤ (i : Int) := Int.natCast_nonneg _
        have hi1' : (i : Int) < (rows.length : Int) := by omega
        have HCELL := Lib.hid hcell
        have d2 := hcell
        clear hlies hr hul hcl hcell e1 e2 e3 hrb hoi
        go_wp2_with fail
        go_cut [] (fun wx => ∃ (us' : List Value) (vn' : Value), Hid (us'.length = i + 2) ∧ Hid (Has id 23 wx (w.heap.size + 2) vn' us') ∧ Hid (OwnRows wx (w.heap.size + 2) wx.heap.size (vo :: us') ((o0 :: out.take i) :: ((0 :: raise (r0.drop 1)) :: (rows.take (i + 1)).map raise))) ∧ Hid (Cells3 wx p 27 (.int .i64 b) vn' vo) ∧ Hid (Below w.heap.size w wx) ∧ Hid (Cells3 wx w.heap.size 27 (.int .i64 b) (.slice (some ⟨pa, off, none⟩) rows.length cn) (.slice (some ⟨po, oo, none⟩) out.length co)) ∧ Hid (Cells3 wx (w.heap.size + 1) 27 (.int .i64 0) (.slice none 0 0) (.slice none 0 0)))
        case first =>
          have c1 := hC.out.c1
          have hpl := hC.out.lt
          have HUS := Lib.hid (show (us.length + 1) * 24 ≤ 140737488355328 ∧ us.length + 1 ≤ 9223372036854775807 by have := HUL.out; omega)
          clear d2
          go_region_law (first
            | (go_simp; go_at_call 81; refine (raised_any _ r _ (lies_drew HL.out) (by omega) HRB.out).mono ?_; rintro e wa ⟨va, rfl, hva, ba⟩; obtain ⟨aa, ca, hvf, _⟩ := hva.form; rw [raise_len] at hvf; subst hvf; have hba := (below_drew' wo).trans ba; have hca := hC.out.below hba; have q1 := hca.c1; have q2 := (hca.alloc (Obj.cells #[Value.slice aa r.length ca] 23)).c1; have hna := hN.out.below hba)
            | (refine step_append_list (enc := id) (e := 23) rfl (.tmp 48) (.tmp 51) 22 rfl (w.heap.size + 2) i0 (.slice none 0 0) 24 Try.underlying22 hi hz0 hz1 hz2 rfl vn us rfl (by repeat (first | with_reducible exact hna | with_reducible apply has_drew | with_reducible apply has_alloc)) (Value.slice (some ⟨_, 0, none⟩) 1 1) [Value.slice aa r.length ca] rfl (by repeat (first | with_reducible apply lies_drew | (with_reducible refine lies_lit1v _ rfl) | with_reducible apply lies_alloc)) (fun y hy => by simp at hy; subst hy; rfl) HUS.out.1 HUS.out.2 (by have := hba.size; simp; omega) ?_; intro vt w2 ho2 hg2; obtain ⟨at2, ct2, rfl, _⟩ := ho2.form; rw [show (us ++ [Value.slice aa r.length ca]).length = us.length + 1 from by simp] at ho2; refine with_fact (T := wa.grownBy w2 vn.ownBlock) ?_ ?_; (focus (first | exact grown_alloc hg2 | exact grown_alloc (grown_drew hg2))); intro hg3; have hc2 := hca.grown hg3 (has_ne_c3 hna hca (by decide)); have r1 := hc2.c1; have r3 := hc2.f))
          all_goals
            have HC2 := Lib.hid hc2
            have HT2 := Lib.hid ho2
            have HNT := Lib.hid (has_ne_c3 ho2 hc2 (by decide))
            have HR1 : Hid (OwnRows wa (w.heap.size + 2) wa.heap.size (vo :: (us ++ [Value.slice aa r.length ca])) ((o0 :: out.take i) :: ((0 :: raise (r0.drop 1)) :: (rows.take (i + 1)).map raise))) := by
              have h1 : OwnI wa wo.heap.size wa.heap.size (Value.slice aa r.length ca) (raise r) := OwnI.of_gives hva
              have h2 := (hR.out.below hba).snoc h1 hw2 hba.size
              rw [HT.out, List.map_append]
              exact h2
            have HR2 := Lib.hid ((HR1.out.top_grown hna hg3).mono hg3.size (Nat.le_refl _))
            have HRN := Lib.hid (HR2.out.ne_c3 hc2 (by decide))
            have hvp : w.heap.size + 2 ≤ p := hp1
            have HB2 := Lib.hid (((Below.refl (w.heap.size + 2) wo).trans (hba.mono hw2)).grown hg3 (Nat.le_trans hw2 hba.size) (fun k hk => (hN.out.lt k hk).1))
            clear hg2 hg3 hc2 r1 r3 ho2 hva ba hba hca q1 q2 hna c1 hpl
            go_wp2_with fail
            go_meet
            refine ⟨us ++ [Value.slice aa r.length ca], Value.slice at2 (us.length + 1) ct2, Lib.hid (by simp [HUL.out]), HT2.out.set (a := ⟨p, 1, none⟩) HNT.out (.slice at2 (us.length + 1) ct2), ?_, HC2.out.set1 (.slice at2 (us.length + 1) ct2), (hB.out.trans (HB2.out.mono (by omega))).setCell (by show _ ≤ p; omega) _, (c3_of_below HB2.out hA.out (by omega)).other (by show p ≠ _; omega) _, (c3_of_below HB2.out hZ.out (by omega)).other (by show p ≠ _; omega) _⟩
            have := HR2.out.set (a := ⟨p, 1, none⟩) HRN.out (.slice at2 (us.length + 1) ct2)
            show OwnRows _ _ _ _ _
            simpa only [size_setCell'] using this
        case rest =>
          clear hN hR hC hB hA hZ HL HRB HCELL HUL hw2
          obtain ⟨us', vn', hul, hN, hR, hC, hB, hA, hZ⟩ := hcut
          obtain ⟨W6, rfl⟩ : ∃ W, W = wc := ⟨_, rfl⟩
          have hw2 : w.heap.size + 2 ≤ W6.heap.size := by have := hC.out.lt; omega
          obtain ⟨_, ao', co', hv0, _, hco⟩ := HO.out.below hB.out
          injection hv0 with e1 e2 e3
          obtain ⟨po', oo', h1, hoc⟩ := hco i oi HOI.out
          rw [← e1] at h1
          injection h1 with h1
          injection h1 with h1 h2
          subst h1; subst h2
          have k1 := hA.out.c2
          have c2 := hC.out.c2
          have c3 := (hC.out.alloc (Obj.cells #[Value.int .i64 oi] 3)).c2
          have hpl := hC.out.lt
          have hol1 : (i : Int) < (out.length : Int) := by have := HOL.out; omega
          have hon1 : i < out.length := by have := HOL.out; omega
          have HVO := Lib.hid (hR.out.row 0 vo (o0 :: out.take i) rfl rfl)
          have HLE := Lib.hid (show ((o0 :: out.take i).length + 1) * 8 ≤ 140737488355328 ∧ (o0 :: out.take i).length + 1 ≤ 9223372036854775807 by simp; omega)
          clear hco e1 e2 e3
          go_wp2_with fail
          go_region_law ((refine step_append_at_list (enc := Value.int .i64) (e := 3) rfl (.tmp 55) (.tmp 61) 23 rfl (w.heap.size + 2) i1 (.int .i64 0) 8 Try.underlying23 hi1 hz01 hz11 hz21 rfl vo (o0 :: out.take i) rfl (by repeat (first | with_reducible exact HVO.out.has | with_reducible apply has_drew | with_reducible apply has_alloc)) (Value.slice (some ⟨_, 0, none⟩) 1 1) [oi] rfl (by repeat (first | with_reducible apply lies_drew | (with_reducible refine lies_lit1 (enc := Value.int .i64) _ rfl) | with_reducible apply lies_alloc)) (fun _ _ => rfl) HLE.out.1 HLE.out.2 (by simp; omega) ?_; intro vt w2 ho2 hg2 hb2; obtain ⟨at2, ct2, hvf, _⟩ := ho2.form; rw [show (o0 :: out.take i ++ [oi]).length = i + 2 from by simp; omega] at hvf; subst hvf; rw [List.cons_append] at ho2; refine with_fact (T := W6.grownBy w2 vo.ownBlock) ?_ ?_; (focus (exact grown_alloc (grown_drew hg2))); intro hg3; have hc2 := hC.out.grown hg3 (has_ne_c3 HVO.out.has hC.out (by decide)); have r1 := hc2.c2; have r3 := hc2.f))
          all_goals
            have HC2 := Lib.hid hc2
            have HT2 := Lib.hid ho2
            have HR2 := Lib.hid (hR.out.head_grown ho2 (Nat.le_refl _) (Nat.le_refl _) hg3 (fun k hk => (hb2 k hk).imp id (fun h => by simp at h; omega)))
            have HRN := Lib.hid (HR2.out.ne_c3 hc2 (by decide))
            have HN2 := Lib.hid (hN.out.grown hg3 (hN.out.ne_top HVO.out.has))
            have HNN := Lib.hid (has_ne_c3 HN2.out hc2 (by decide))
            have HB2 := Lib.hid ((Below.refl (w.heap.size + 2) W6).grown hg3 hw2 (fun k hk => (HVO.out.has.lt k hk).1))
            clear hg2 hg3 hc2 r1 r3 ho2 hb2 c2 c3 hpl k1 hoc
            go_wp2
            go_roundw
            case rel =>
              refine ⟨i + 1, us', vn', .slice at2 (i + 2) ct2, by omega, by go_num, HN2.out.set (a := ⟨p, 2, none⟩) HNN.out (.slice at2 (i + 2) ct2), ?_, HC2.out.set2 (.slice at2 (i + 2) ct2), (hB.out.trans (HB2.out.mono (by omega))).setCell (by show _ ≤ p; omega) _, (c3_of_below HB2.out hA.out (by omega)).other (by show p ≠ _; omega) _, (c3_of_below HB2.out hZ.out (by omega)).other (by show p ≠ _; omega) _⟩
              have := HR2.out.set (a := ⟨p, 2, none⟩) HRN.out (.slice at2 (i + 2) ct2)
              show OwnRows _ _ _ _ _
              rw [HTO.out]
              simpa only [size_setCell'] using this
            case measure => simp [intOf]; omega
      · obtain rfl : i = rows.length := by omega
        have hw2 : w.heap.size + 2 ≤ wo.heap.size := by have := hC.out.lt; omega
        have hus : us.length = (steadyRows rows).length := by
          have := hR.out.len
          rw [HSR.out]
          simp at this ⊢
          omega
        have hol : (o0 :: out.take rows.length).length = (steadyOut out).length := by
          rw [HSO.out]
          have := HOL.out
          simp
          omega
        have HE : Hid (OwnRows wo (w.heap.size + 2) wo.heap.size (vo :: us) (steadyOut out :: steadyRows rows)) := by
          have h1 := hR.out
          rw [List.take_length] at h1
          rw [show out.take rows.length = out from List.take_of_length_le (by have := HOL.out; omega)] at h1
          rw [HSR.out, HSO.out]
          exact h1
        obtain ⟨an1, cn1, hv1, _⟩ := hN.out.form
        obtain ⟨ao1, co1, hv2, _⟩ := (hR.out.row 0 vo _ rfl rfl).has.form
        rw [hus] at hv1
        rw [hol] at hv2
        subst hv1; subst hv2
        have k0 := hA.out.c0
        have k1 := hA.out.c1
        have k2 := hA.out.c2
        have p0 := hC.out.c0
        have p1 := hC.out.c1
        have p2 := hC.out.c2
        have p3 := hC.out.f
        have z0 := hZ.out.c0
        have z1 := hZ.out.c1
        have z2 := hZ.out.c2
        have z3 := hZ.out.f
        clear hus hol hR
        go_wp2
        have hZ3 := (((hZ.out.set0 (.int .i64 b)).set1 (.slice an1 (steadyRows rows).length cn1)).set2 (.slice ao1 (steadyOut out).length co1))
        have m0 := hZ3.c0
        have m1 := hZ3.c1
        have m2 := hZ3.c2
        refine bodyPost_ret (v := .tuple #[.agg #[.int .i64 b, .slice an1 (steadyRows rows).length cn1, .slice ao1 (steadyOut out).length co1], .bool true]) (by simp [results, Try.results52, go_sem, m0, m1, m2]) rfl ⟨_, rfl, ?_, ?_⟩
        · have T0 : Plain.Touch w.heap.size (w.heap.size + 2) wo (((wo.setCell ⟨w.heap.size + 1, 0, none⟩ (.int .i64 b)).setCell ⟨w.heap.size + 1, 1, none⟩ (.slice an1 (steadyRows rows).length cn1)).setCell ⟨w.heap.size + 1, 2, none⟩ (.slice ao1 (steadyOut out).length co1)) :=
            ((Plain.Touch.of_set _ (by show _ ≤ _ + 1; omega) (by show _ + 1 < _; omega)).trans (Plain.Touch.of_set _ (by show _ ≤ _ + 1; omega) (by show _ + 1 < _; omega))).trans (Plain.Touch.of_set _ (by show _ ≤ _ + 1; omega) (by show _ + 1 < _; omega))
          have hS : OwnS wo (w.heap.size + 2) wo.heap.size (.agg #[.int .i64 b, .slice an1 (steadyRows rows).length cn1, .slice ao1 (steadyOut out).length co1]) b (steadyRows rows) (steadyOut out) := OwnS.make_head hN.out HE.out
          have := (hS.touch T0 (.inr (Nat.le_refl _))).lower (show w.heap.size ≤ w.heap.size + 2 by omega)
          simpa only [size_setCell'] using this
        · exact ((hB.out.setCell (by show _ ≤ _ + 1; omega) _).setCell (by show _ ≤ _ + 1; omega) _).setCell (by show _ ≤ _ + 1; omega) _
end Seqs
end Go.Proofs.Ythnmighlgifoeaa
