/- Contracts of MorphismOf, of the model and of the program. No conditions beyond those that each states. -/
import Derived.Test.YtejbonnkgejngabWordVal
import Derived.Test.YtejbonnkgejngabMor
import Derived.Test.YtejbonnkgejngabSeqSteady
import Derived.Test.YtejbonnkgejngabSeqCopy
import Derived.Test.YtejbonnkgejngabSeqForm
import Derived.Test.YtejbonnkgejngabSeqs3
namespace Go.Proofs.Ytejbonnkgejngab
open Go.ChangeShapes Go.WideShapes Go.ChangeAt Go.RowKit
open Go.PlainAid Plain
set_option linter.unusedVariables false
namespace Mor
open Seqs Digits
theorem has_ne_c1 {α : Type} {enc : α → Value} {e t : TypeId} {w : World} {v x : Value} {xs : List α} {base b : Nat} (h : Has enc e w base v xs) (hc : Cells1 w b t x) (hne : e ≠ t) : v.ownBlock ≠ some b := by
  rcases h.2 with ⟨rfl, _⟩ | ⟨g, cap, cur, rfl, _, hg, _⟩
  · intro h; cases h
  · intro h
    have e1 : g = b := by simpa [Value.ownBlock] using h
    subst e1
    rw [hc.row] at hg
    simp at hg
    exact hne hg.2.symm
theorem rows_ne_c1 {w : World} {lo hi : Nat} {us : List Value} {rows : List (List Int)} (h : OwnRows w lo hi us rows) {b : Nat} {t : TypeId} {x : Value} (hc : Cells1 w b t x) (hne : (3 : Nat) ≠ t) : ∀ u ∈ us, u.ownBlock ≠ some b := fun u hu => by
  obtain ⟨i, hi⟩ := List.getElem?_of_mem hu
  obtain ⟨r, hr⟩ : ∃ r, rows[i]? = some r := ⟨_, List.getElem?_eq_getElem (by rw [← h.len]; exact (List.getElem?_eq_some_iff.1 hi).1)⟩
  exact has_ne_c1 (h.row i u r hi hr).has hc hne
theorem c1_of_below {w w' : World} {B b : Nat} {t : TypeId} {x : Value} (h : Below B w w') (hc : Cells1 w b t x) (hb : b < B) : Cells1 w' b t x := ⟨(h.block b hb).trans hc.row⟩
theorem OwnM.zero (w : World) {lo : Nat} : OwnM w lo w.heap.size (.agg #[.slice none 0 0]) [] :=
  ⟨_, [], rfl, ⟨World.ownsRow_nil _ _ _ _, fun k hk => (by cases hk), Nat.le_refl _, OwnRows.nil _ _ _⟩⟩
theorem mo_no {b : Int} {rows : List (List Int)} {out : List Int} {W : World} {e : Ending} {W' : World} (h : steadyB b rows out = false) (hg : GivesMK [] false W e W') : GivesMK (moR b rows out) (steadyB b rows out) W e W' := by simp only [moR, h]; exact hg
theorem mo_yes {b : Int} {rows : List (List Int)} {out : List Int} {W : World} {e : Ending} {W' : World} (h : steadyB b rows out = true) (hg : GivesMK rows true W e W') : GivesMK (moR b rows out) (steadyB b rows out) W e W' := by simp only [moR, h]; exact hg
theorem OwnS.rows_of {w : World} {lo hi : Nat} {b : Int} {rows : List (List Int)} {out : List Int} {vn vo : Value} (h : OwnS w lo hi (.agg #[.int .i64 b, vn, vo]) b rows out) : OwnM w lo hi (.agg #[vn]) rows := by
  obtain ⟨vn', vo', us, hv, h1, _⟩ := h
  injection hv with hv
  simp only [Array.mk.injEq, List.cons.injEq, true_and, and_true] at hv
  obtain ⟨rfl, rfl⟩ := hv
  exact ⟨vn, us, rfl, h1⟩
theorem OwnM.lower {w : World} {lo lo' hi : Nat} {v : Value} {m : List (List Int)} (h : OwnM w lo hi v m) (hl : lo' ≤ lo) : OwnM w lo' hi v m := by
  obtain ⟨vn, us, h1, h2⟩ := h
  exact ⟨vn, us, h1, ⟨h2.top.mono hl, h2.lt, h2.le, h2.rows.lower hl⟩⟩
theorem seq_field1 (x y z : Value) (W : World) : (Instr.field 31 (.agg #[x, y, z]) 1).run Try.prog W = .ok y W := rfl
set_option maxHeartbeats 1000000 in
theorem impl_mo (v : Value) (b : Int) (rows : List (List Int)) (out : List Int) (w : World) (h : LiesS w v b rows out) (hs : rows.length + tot rows + out.length ≤ 1048576) :
    Calls Try.prog 10 #[v] w (GivesMK (moR b rows out) (steadyB b rows out) w) := by
  have HS := Lib.hid h
  obtain ⟨an, cn, ao, co, rfl⟩ := h.form
  clear h
  have HB : Hid (Below w.heap.size w ((w.alloc (Obj.cells #[Value.int .i64 b, Value.slice an rows.length cn, Value.slice ao out.length co] 31)).alloc (Obj.cells #[Value.slice none 0 0] 28))) := ((Below.refl _ _).alloc (Nat.le_refl _) _).alloc (by simp) _
  have hA := Lib.hid ((Cells3.new w 31 (.int .i64 b) (.slice an rows.length cn) (.slice ao out.length co)).alloc (Obj.cells #[Value.slice none 0 0] 28))
  have hZ := Lib.hid (Cells1.new (w.alloc (Obj.cells #[Value.int .i64 b, Value.slice an rows.length cn, Value.slice ao out.length co] 31)) 28 (.slice none 0 0))
  rw [size_alloc'] at hZ
  go_enter Try.func10, Try.ntmps10
  go_wp2_with fail
  refine (impl_steady _ b rows out _ (HS.out.below HB.out)).mono ?_
  rintro e W1 ⟨rfl, b1⟩
  have HB1 := Lib.hid (HB.out.trans (b1.mono HB.out.size))
  have hA1 := Lib.hid (hA.out.below b1)
  have hZ1 := Lib.hid (hZ.out.below b1)
  have HZ1 : Hid (w.heap.size + 2 ≤ W1.heap.size) := by have := b1.size; show _ ≤ _; simp at this; omega
  clear b1 HB hA hZ
  obtain ⟨c, hc⟩ : ∃ c, steadyB b rows out = c := ⟨_, rfl⟩
  rw [hc]
  have HST := Lib.hid hc
  clear hc
  cases c with
  | false =>
    have z0 := hZ1.out.c0
    have z3 := hZ1.out.f
    go_wp2
    have m0 := (hZ1.out.set0 (.slice none 0 0)).c0
    refine bodyPost_ret (v := .tuple #[.agg #[.slice none 0 0], .bool false]) (by simp [results, Try.results10, go_sem, m0]) rfl (mo_no HST.out ⟨_, rfl, OwnM.zero _, ?_⟩)
    exact HB1.out.setCell (by show _ ≤ _ + 1; omega) _
  | true =>
    have k0 := hA1.out.c0
    have k1 := hA1.out.c1
    have k2 := hA1.out.c2
    go_wp2_with fail
    refine (impl_copied _ b rows out _ (HS.out.below HB1.out) hs).mono ?_
    rintro e W2 ⟨v2, rfl, ho, b1⟩
    obtain ⟨a1, c1, a2, c2, rfl⟩ := ho.form
    have HB2 := Lib.hid (HB1.out.trans (b1.mono HB1.out.size))
    have hZ2 := Lib.hid (hZ1.out.below b1)
    have HO := Lib.hid ho
    clear b1 HB1 hA1 hZ1 k0 k1 k2 ho
    have z0 := hZ2.out.c0
    have z3 := hZ2.out.f
    have hfd := fun W : World => seq_field1 (.int .i64 b) (.slice a1 rows.length c1) (.slice a2 out.length c2) W
    go_wp2
    have m0 := (hZ2.out.set0 (.slice a1 rows.length c1)).c0
    refine bodyPost_ret (v := .tuple #[.agg #[.slice a1 rows.length c1], .bool true]) (by simp [results, Try.results10, go_sem, m0]) rfl (mo_yes HST.out ⟨_, rfl, ?_, ?_⟩)
    · have T0 : Plain.Touch w.heap.size (w.heap.size + 2) W2 (W2.setCell ⟨w.heap.size + 1, 0, none⟩ (.slice a1 rows.length c1)) := Plain.Touch.of_set _ (by show _ ≤ _ + 1; omega) (by show _ + 1 < _; omega)
      have g1 := HZ1.out
      have h1 := OwnM.lower (OwnS.rows_of (HO.out.touch T0 (.inr g1))) (show w.heap.size ≤ W1.heap.size by omega)
      simpa only [size_setCell'] using h1
    · exact HB2.out.setCell (by show _ ≤ _ + 1; omega) _
set_option maxHeartbeats 4000000 in
theorem spec_mo (v : Value) (b : Int) (rows : List (List Int)) (out : List Int) (w : World) (h : LiesS w v b rows out) (hs : rows.length + tot rows + out.length ≤ 1048576) :
    Calls Try.prog 8 #[v] w (GivesMK (moR b rows out) (steadyB b rows out) w) := by
  obtain ⟨i0, hi, hz0, hz1, hz2⟩ := info_parts infoR
  obtain ⟨i1, hi1, hz01, hz11, hz21⟩ := info_parts Ints.infoI
  have HS := Lib.hid h
  obtain ⟨an, cn, ao, co, hv, hn, ho⟩ := liesS_open h
  subst hv
  have HN := Lib.hid hn
  clear h hn ho
  have HB : Hid (Below w.heap.size w ((w.alloc (Obj.cells #[Value.int .i64 b, Value.slice an rows.length cn, Value.slice ao out.length co] 31)).alloc (Obj.cells #[Value.slice none 0 0] 28))) := ((Below.refl _ _).alloc (Nat.le_refl _) _).alloc (by simp) _
  have hA := Lib.hid ((Cells3.new w 31 (.int .i64 b) (.slice an rows.length cn) (.slice ao out.length co)).alloc (Obj.cells #[Value.slice none 0 0] 28))
  have hZ := Lib.hid (Cells1.new (w.alloc (Obj.cells #[Value.int .i64 b, Value.slice an rows.length cn, Value.slice ao out.length co] 31)) 28 (.slice none 0 0))
  rw [size_alloc'] at hZ
  go_enter Try.func8, Try.ntmps8
  go_wp2_with fail
  refine (spec_steady _ b rows out _ (HS.out.below HB.out)).mono ?_
  rintro e W1 ⟨rfl, b1⟩
  have HB1 := Lib.hid (HB.out.trans (b1.mono HB.out.size))
  have hA1 := Lib.hid (hA.out.below b1)
  have hZ1 := Lib.hid (hZ.out.below b1)
  have HZ1 : Hid (w.heap.size + 2 ≤ W1.heap.size) := by have := b1.size; show _ ≤ _; simp at this; omega
  clear b1 HB hA hZ
  obtain ⟨c, hc⟩ : ∃ c, steadyB b rows out = c := ⟨_, rfl⟩
  rw [hc]
  have HST := Lib.hid hc
  clear hc
  cases c with
  | false =>
    have z0 := hZ1.out.c0
    have z3 := hZ1.out.f
    go_wp2
    have m0 := (hZ1.out.set0 (.slice none 0 0)).c0
    refine bodyPost_ret (v := .tuple #[.agg #[.slice none 0 0], .bool false]) (by simp [results, Try.results8, go_sem, m0]) rfl (mo_no HST.out ⟨_, rfl, OwnM.zero _, ?_⟩)
    exact HB1.out.setCell (by show _ ≤ _ + 1; omega) _
  | true =>
    have hC0 : Hid (Cells1 (W1.alloc (Obj.cells #[Value.slice none 0 0] 28)) W1.heap.size 28 (.slice none 0 0)) := Cells1.new W1 28 (.slice none 0 0)
    have y0 := (Cells1.new W1 28 (.slice none 0 0)).c0
    have y1 := (Cells1.new W1 28 (.slice none 0 0)).f
    have hb2 : Below W1.heap.size W1 (W1.alloc (Obj.cells #[Value.slice none 0 0] 28)) := (Below.refl _ _).alloc (Nat.le_refl _) _
    have hAx := Lib.hid (hA1.out.below hb2)
    have hZx := Lib.hid (hZ1.out.below hb2)
    have HBx := Lib.hid (HB1.out.trans (hb2.mono HB1.out.size))
    have HMx : Hid (W1.heap.size + 1 ≤ (W1.alloc (Obj.cells #[Value.slice none 0 0] 28)).heap.size) := by show _ ≤ _; rw [size_alloc']; omega
    clear hb2 hA1 hZ1 HB1
    go_wp2
    obtain ⟨M, hM⟩ : ∃ M, M = W1.heap.size + 1 := ⟨_, rfl⟩
    obtain ⟨p, hp⟩ : ∃ p, p = W1.heap.size := ⟨_, rfl⟩
    rw [← hM] at HMx
    rw [← hp] at hM hC0 ⊢
    have HPM : Hid (w.heap.size + 2 ≤ p ∧ p < M) := ⟨by rw [hp]; exact HZ1.out, by omega⟩
    generalize W1.alloc (Obj.cells #[Value.slice none 0 0] 28) = W2 at hC0 hAx hZx HBx HMx ⊢
    clear hM hp y0 y1 HZ1
    go_loopw [5] (fun i' wr => ∃ (i : Nat) (us : List Value) (vn : Value) (hi : Nat), i ≤ rows.length ∧ us.length = i ∧ i' = .int .i64 i ∧ Hid (Has id 23 wr M vn us) ∧ Hid (OwnRows wr M hi us (rows.take i)) ∧ Hid (M ≤ hi ∧ hi ≤ wr.heap.size) ∧ Hid (Cells1 wr p 28 vn) ∧ Hid (Cells3 wr w.heap.size 31 (.int .i64 b) (.slice an rows.length cn) (.slice ao out.length co)) ∧ Hid (Cells1 wr (w.heap.size + 1) 28 (.slice none 0 0)) ∧ Hid (Below w.heap.size w wr)) (fun i' _ => rows.length - (intOf i').toNat)
    case atStart => exact ⟨0, [], _, M, Nat.zero_le _, rfl, rfl, World.ownsRow_nil _ _ _ _, OwnRows.nil _ _ _, ⟨Nat.le_refl _, HMx.out⟩, hC0, hAx, hZx, HBx⟩
    case round =>
      obtain ⟨i, us, vn, hi', hile, hul, rfl, hown, hrows, hle, hC, hA, hZ, hB⟩ := hrel
      obtain ⟨wo, rfl⟩ : ∃ wo : World, wo = wr := ⟨_, rfl⟩
      have hpm := HPM.out
      by_cases hlt : i < rows.length
      · obtain ⟨r, hr⟩ : ∃ r, rows[i]? = some r := ⟨_, List.getElem?_eq_getElem hlt⟩
        obtain ⟨a0, c0, hv0, _, hcl⟩ := (HN.out.below hB.out).row
        obtain ⟨pa, off, u, rfl, hcell, hlies⟩ := hcl i r hr
        have HL := Lib.hid hlies
        have hpa : pa < w.heap.size := by
          obtain ⟨a0', c0', hv0', _, hcl'⟩ := HN.out.row
          injection hv0' with e1 e2 e3
          obtain ⟨pa', off', u', h1, h2, h3⟩ := hcl' i r hr
          injection hv0 with f1 f2 f3
          rw [← e1, f1] at h1
          injection h1 with h1
          injection h1 with h1 h4
          subst h1
          exact World.block_lt_of_cell? w _ h2
        have HRL := Lib.hid (row_le rows i r hr)
        have HT := Lib.hid (show rows.take (i + 1) = rows.take i ++ [r] from by
          obtain ⟨h1, rfl⟩ := List.getElem?_eq_some_iff.1 hr
          exact List.take_succ_eq_append_getElem h1)
        have HUL := Lib.hid hul
        injection hv0 with e1 e2 e3
        subst e1; subst e3
        have hw2 : w.heap.size + 2 ≤ wo.heap.size := by have := hle.out; omega
        have k0 := hA.out.c0
        have k1 := hA.out.c1
        have k2 := hA.out.c2
        have HCELL := Lib.hid hcell
        clear hlies hr hul hcl hcell
        go_wp2_with fail
        have c1 := hC.out.c0
        have c1' := (hC.out.alloc (Obj.cells #[] 3)).c0
        have hpl := hC.out.lt
        have i0' : (0 : Int) ≤ (i : Int) := Int.natCast_nonneg _
        have i1' : (i : Int) < (rows.length : Int) := by omega
        have HUS := Lib.hid (show (us.length + 1) * 24 ≤ 140737488355328 ∧ us.length + 1 ≤ 9223372036854775807 by have := HUL.out; omega)
        have HRS := Lib.hid (show (0 + r.length) * 8 ≤ 140737488355328 ∧ 0 + r.length ≤ 9223372036854775807 by have := HRL.out; omega)
        have HMO := Lib.hid (show M ≤ wo.heap.size by have := hle.out; omega)
        have d0 := (hA.out.alloc (Obj.cells #[] 3)).c1
        have d1 := (World.cell?_alloc_some wo ⟨pa, off + i, none⟩ (Obj.cells #[] 3) (by rw [HCELL.out]; rfl)).trans HCELL.out
        have d2 := HCELL.out
        go_region_law (first
            | (refine step_append_list (enc := Value.int .i64) (e := 3) rfl (.tmp 20) (.tmp 25) 23 rfl wo.heap.size i1 (.int .i64 0) 8 Try.underlying23 hi1 hz01 hz11 hz21 rfl (Value.slice (some ⟨_, 0, none⟩) 0 0) [] rfl (by repeat (first | with_reducible apply has_drew | ((with_reducible apply has_lit0) <;> simp) | with_reducible apply has_alloc)) u r rfl (by repeat (first | with_reducible exact HL.out | with_reducible apply lies_drew | with_reducible apply lies_alloc)) (fun _ _ => rfl) HRS.out.1 HRS.out.2 (by simp) ?_; intro vr w1 ho hg; rw [List.nil_append] at ho; obtain ⟨ar, cr, rfl, _⟩ := ho.form;
                have hg1 := grown_alloc (grown_drew hg);
                have hbw1 : Below (w.heap.size + 2) wo w1 := (Below.refl _ _).grown hg1 hw2 (fun k hk => by cases hk; omega);
                have hc1 := hC.out.grown hg1 (by simp [Value.ownBlock]; omega);
                have q1 := hc1.c0; have q2 := (hc1.alloc (Obj.cells #[Value.slice ar r.length cr] 23)).c0; have q3 := hg1.size; have hN1 := hown.out.of_same (fun k hk => hg1.block k (hown.out.lt k hk).2 (fun e => by have h1 := (hown.out.lt k hk).2; have e2 : k = wo.heap.size := Option.some.inj e; omega)))
            | (refine step_append_list (enc := id) (e := 23) rfl (.tmp 19) (.tmp 27) 22 rfl M i0 (.slice none 0 0) 24 Try.underlying22 hi hz0 hz1 hz2 rfl vn us rfl (by repeat (first | with_reducible exact hN1 | with_reducible apply has_drew | with_reducible apply has_alloc)) (Value.slice (some ⟨_, 0, none⟩) 1 1) [.slice ar r.length cr] rfl (by repeat (first | with_reducible apply lies_drew | (with_reducible refine lies_lit1v _ rfl) | with_reducible apply lies_alloc)) (fun y hy => by simp at hy; subst hy; rfl) HUS.out.1 HUS.out.2 (by have := HMO.out; simp; omega) ?_; intro vt w2 ho2 hg2; obtain ⟨at2, ct2, rfl, _⟩ := ho2.form; rw [show (us ++ [Value.slice ar r.length cr]).length = us.length + 1 from by simp] at ho2; refine with_fact (T := w1.grownBy w2 vn.ownBlock) ?_ ?_; (focus (first | exact grown_alloc hg2 | exact grown_alloc (grown_drew hg2))); intro hg3; have hbw2 : Below (w.heap.size + 2) wo w2 := hbw1.grown hg3 (by omega) (fun k hk => by have := (hown.out.lt k hk).1; omega); have hc2 := hc1.grown hg3 (has_ne_c1 hN1 hc1 (by decide)); have r1 := hc2.c0; have r3 := hc2.f))
        all_goals
          have HB2 := Lib.hid hbw2
          have HC2 := Lib.hid hc2
          have HT2 := Lib.hid ho2
          have HNT := Lib.hid (has_ne_c1 ho2 hc2 (by decide))
          have HR1 := Lib.hid ((hrows.out.below ((Below.refl _ _).grown hg1 (Nat.le_refl _) (fun k hk => by cases hk; exact Nat.le_refl _))).snoc ((OwnI.of_gives ho).mono hle.out.2 (Nat.le_refl _) (Nat.le_refl _)) hle.out.1 (Nat.le_trans hle.out.2 hg1.size))
          have HR2 := Lib.hid (HR1.out.top_grown hN1 hg3)
          have HRN := Lib.hid (rows_ne_c1 HR2.out hc2 (by decide))
          have hs1 := hg1.size
          have hs2 := hg3.size
          have HSZ := Lib.hid (show M ≤ w1.heap.size ∧ w1.heap.size ≤ w2.heap.size by have := HMO.out; omega)
          clear d0 d1 d2 hg hg1 hbw1 hc1 q1 q2 q3 hN1 hg2 hg3 hbw2 hc2 r1 r3 ho2 ho hs1 hs2 c1 c1' k0 k1 k2
          go_wp2
          go_roundw
          case rel =>
            refine ⟨i + 1, us ++ [Value.slice ar r.length cr], Value.slice at2 (us.length + 1) ct2, w1.heap.size, by omega, by simp [HUL.out], by go_num, HT2.out.set (a := ⟨p, 0, none⟩) HNT.out (.slice at2 (us.length + 1) ct2), ?_, ⟨HSZ.out.1, by simpa [World.setCell] using HSZ.out.2⟩, HC2.out.set0 (.slice at2 (us.length + 1) ct2), (c3_of_below HB2.out hA.out (by omega)).other (by show p ≠ _; omega) _, (c1_of_below HB2.out hZ.out (by omega)).other (by show p ≠ _; omega) _, (hB.out.trans (HB2.out.mono (by omega))).setCell (by show _ ≤ p; omega) _⟩
            rw [HT.out]
            exact HR2.out.set (a := ⟨p, 0, none⟩) HRN.out (.slice at2 (us.length + 1) ct2)
          case measure => simp [intOf]; omega
      · obtain rfl : i = rows.length := by omega
        have HE : Hid (OwnR wo M wo.heap.size vn us rows) := by
          have h1 := hown.out
          have h2 := hrows.out
          rw [List.take_length] at h2
          exact ⟨h1, fun k hk => (h1.lt k hk).2, Nat.le_refl _, h2.mono hle.out.2 (Nat.le_refl _)⟩
        have hw2 : M ≤ wo.heap.size := by have := hle.out; omega
        obtain ⟨a1, c1, hv1⟩ : ∃ a1 c1, vn = .slice a1 rows.length c1 := by
          obtain ⟨a1, c1, h1, _⟩ := hown.out.form
          exact ⟨a1, c1, by rw [h1, hul]⟩
        subst hv1
        have k0 := hA.out.c0
        have k1 := hA.out.c1
        have k2 := hA.out.c2
        have p0 := hC.out.c0
        have p3 := hC.out.f
        have z0 := hZ.out.c0
        have z3 := hZ.out.f
        have HUL := Lib.hid hul
        clear hown hrows hle hul
        go_wp2
        have m0 := (hZ.out.set0 (.slice a1 rows.length c1)).c0
        refine bodyPost_ret (v := .tuple #[.agg #[.slice a1 rows.length c1], .bool true]) (by simp [results, Try.results8, go_sem, m0]) rfl (mo_yes HST.out ⟨_, rfl, ?_, ?_⟩)
        · have T0 : Plain.Touch w.heap.size (w.heap.size + 2) wo (wo.setCell ⟨w.heap.size + 1, 0, none⟩ (.slice a1 rows.length c1)) := Plain.Touch.of_set _ (by show _ ≤ _ + 1; omega) (by show _ + 1 < _; omega)
          have h3 := HE.out.touch T0 (.inr (by omega))
          rw [size_setCell']
          exact ⟨_, us, rfl, ⟨h3.top.mono (by omega), h3.lt, h3.le, h3.rows.lower (by omega)⟩⟩
        · exact hB.out.setCell (by show _ ≤ _ + 1; omega) _
theorem tot_le_k (k : Nat) : ∀ rows : List (List Int), (∀ r ∈ rows, r.length ≤ k) → tot rows ≤ k * rows.length
  | [], _ => by simp [tot]
  | r :: rows, h => by
    have h1 := tot_le_k k rows (fun x hx => h x (by simp [hx]))
    have h2 := h r (by simp)
    have h3 : tot (r :: rows) = r.length + tot rows := by simp [tot]
    rw [h3, List.length_cons, Nat.mul_succ]
    omega
theorem seq_tot {b : Int} {rows : List (List Int)} {out : List Int} (h : IsSeq b rows out) : tot rows ≤ 64 ∧ out.length ≤ 16 := by
  have h1 := tot_le_k 4 rows fun r hr => by
    have := (h.2.2.2.2.2.1 r hr).1
    have := h.2.1
    omega
  have := h.2.2.2.1
  have := h.2.2.2.2.1
  omega
theorem steady_seq {b : Int} {rows : List (List Int)} {out : List Int} (h : steadyB b rows out = true) : IsSeq b rows out := by
  unfold steadyB at h
  rw [Bool.and_eq_true] at h
  exact seqB_out h.1
theorem mo_size (b : Int) (rows : List (List Int)) (out : List Int) : tot (moR b rows out) ≤ 1000 := by
  unfold moR
  split
  · rename_i h
    have := (seq_tot (steady_seq h)).1
    omega
  · simp [tot]
theorem sq_size (m : List (List Int)) (c : List Int) : tot (sqR m c) + (sqO m c).length ≤ 1000 := by
  unfold sqR sqO
  split
  · rename_i h
    unfold sqK at h
    rw [Bool.and_eq_true] at h
    have := seq_tot (steady_seq h.2)
    omega
  · simp [tot]
end Mor
end Go.Proofs.Ytejbonnkgejngab
