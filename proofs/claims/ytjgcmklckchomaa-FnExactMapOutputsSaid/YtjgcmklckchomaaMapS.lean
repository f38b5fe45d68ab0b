/- Contract of MapOutputs of the model. No conditions beyond those that it states. -/
import Derived.Test.YtjgcmklckchomaaMapI
import Derived.Test.YtjgcmklckchomaaSeqCopyS
namespace Go.Proofs.Ytjgcmklckchomaa
open Go.ChangeShapes Go.WideShapes Go.ChangeAt Go.RowKit
open Go.PlainAid Plain
set_option linter.unusedVariables false
namespace Comb
open Seqs
theorem map_no_range {b : Int} {rows : List (List Int)} {out tab : List Int} {i : Nat} {t : Int} (hi : out[i]? = some t) (h : t < 0 ∨ (tab.length : Int) - 1 < t) : mapK b rows out tab = false := by
  rcases h with h | h
  · exact map_no_seq (seqB_no fun hs => by have := (hs.2.2.2.2.2.2 t (List.mem_of_getElem? hi)).1; omega)
  · exact map_no_term hi (decide_eq_false fun h' => by have := h'.1; omega)
theorem map_both {b : Int} {rows : List (List Int)} {out tab : List Int} (h : ∀ (j : Nat) (t : Int), out[j]? = some t → 0 ≤ t ∧ t < (tab.length : Int)) : mapK b rows out tab = (seqB b rows out && seqB b rows (out.map (tabV tab))) := by
  cases hq : seqB b rows out with
  | false => rw [map_no_seq hq]; rfl
  | true =>
    have hs := seqB_out hq
    rw [mapK, hq, Bool.true_and, Bool.true_and]
    cases hq2 : seqB b rows (out.map (tabV tab)) with
    | true =>
      have hs2 := seqB_out hq2
      rw [List.all_eq_true]
      intro t ht
      obtain ⟨j, hj⟩ := List.getElem?_of_mem ht
      have h1 := hs2.2.2.2.2.2.2 _ (List.mem_map_of_mem ht)
      exact decide_eq_true ⟨(h j t hj).2, h1.1, h1.2⟩
    | false =>
      rw [← Bool.not_eq_true]
      intro hall
      rw [List.all_eq_true] at hall
      have : IsSeq b rows (out.map (tabV tab)) := ⟨hs.1, hs.2.1, hs.2.2.1, hs.2.2.2.1, by rw [List.length_map]; exact hs.2.2.2.2.1, hs.2.2.2.2.2.1, fun x hx => by
        obtain ⟨t, ht, rfl⟩ := List.mem_map.1 hx
        exact (of_decide_eq_true (hall t ht)).2⟩
      rw [seqB_yes this] at hq2
      cases hq2
set_option maxRecDepth 100000 in
set_option maxHeartbeats 2000000 in
theorem spec_map (v : Value) (b : Int) (rows : List (List Int)) (out : List Int) (w : World) (h : LiesS w v b rows out) (tv : Value) (tab : List Int) (ht : Lies (Value.int .i64) w tv tab) (hs : rows.length + tot rows + out.length ≤ 1048576) :
    Calls Try.prog 16 #[v, tv] w (GivesK (mapB b rows out tab) (mapR b rows out tab) (mapO b rows out tab) (mapK b rows out tab) w) := by
  obtain ⟨yb, hyb⟩ : ∃ y, y = mapB b rows out tab := ⟨_, rfl⟩
  obtain ⟨yr, hyr⟩ : ∃ y, y = mapR b rows out tab := ⟨_, rfl⟩
  obtain ⟨yo, hyo⟩ : ∃ y, y = mapO b rows out tab := ⟨_, rfl⟩
  obtain ⟨yk, hyk⟩ : ∃ y, y = mapK b rows out tab := ⟨_, rfl⟩
  have HYE := Lib.hid (show yb = mapB b rows out tab ∧ yr = mapR b rows out tab ∧ yo = mapO b rows out tab ∧ yk = mapK b rows out tab from ⟨hyb, hyr, hyo, hyk⟩)
  rw [← hyb, ← hyr, ← hyo, ← hyk]
  clear hyb hyr hyo hyk
  have HS := Lib.hid h
  obtain ⟨an, cn, ao, co, rfl⟩ := h.form
  clear h
  have HB : Hid (Below w.heap.size w (w.alloc (Obj.cells #[Value.int .i64 b, Value.slice an rows.length cn, Value.slice ao out.length co] 27))) := (Below.refl _ _).alloc (Nat.le_refl _) _
  have HC := Lib.hid (Cells3.new w 27 (.int .i64 b) (.slice an rows.length cn) (.slice ao out.length co))
  have HT := Lib.hid ht
  obtain ⟨htl, ta, tc, rfl, _, _⟩ := ht
  have HB1 := Lib.hid (HB.out.alloc (by simp only [size_alloc'] <;> omega) (Obj.cells #[Value.int .i64 0, Value.slice none 0 0, Value.slice none 0 0] 27))
  have HC1 := Lib.hid (HC.out.alloc (Obj.cells #[Value.int .i64 0, Value.slice none 0 0, Value.slice none 0 0] 27))
  have hZ := Cells3.new (w.alloc (Obj.cells #[Value.int .i64 b, Value.slice an rows.length cn, Value.slice ao out.length co] 27)) 27 (.int .i64 0) (.slice none 0 0) (.slice none 0 0)
  rw [size_alloc'] at hZ
  have HZ1 := Lib.hid hZ
  have HSZ := Lib.hid hs
  have hol : out.length ≤ 1048576 := by omega
  clear hZ HB HC hs
  have k0 := HC1.out.c0
  have k1 := HC1.out.c1
  have k2 := HC1.out.c2
  have HCQ := Lib.hid (fun (W : World) (hW : Below w.heap.size w W) => spec_is _ b rows out W (HS.out.below hW))
  have HCM := Lib.hid (fun (W : World) (u : Value) (l : LiesS W u b rows (out.map (tabV tab))) => spec_is u b rows (out.map (tabV tab)) W l)
  have HBO := Lib.hid (fun h => map_both (b := b) (rows := rows) (out := out) (tab := tab) h)
  obtain ⟨q1, hq1⟩ : ∃ q, q = seqB b rows out := ⟨_, rfl⟩
  obtain ⟨q2, hq2⟩ : ∃ q, q = seqB b rows (out.map (tabV tab)) := ⟨_, rfl⟩
  rw [← hq1] at HCQ
  rw [← hq2] at HCM
  rw [← hq1, ← hq2] at HBO
  clear hq1 hq2
  go_enter Try.func16, Try.ntmps16
  go_wp2_with fail
  refine (spec_copied _ b rows out _ (HS.out.below HB1.out) HSZ.out).mono ?_
  rintro e W2 ⟨vm, rfl, hm, b2⟩
  obtain ⟨ma, mc, oa, oc, rfl⟩ := hm.form
  have HB3 := Lib.hid (HB1.out.trans (b2.mono HB1.out.size))
  have HZ3 := Lib.hid (HZ1.out.below b2)
  have HC3 := Lib.hid (HC1.out.below b2)
  rw [size_alloc', size_alloc'] at hm
  have hbx : Below W2.heap.size W2 (W2.alloc (.cells #[.int .i64 b, .slice ma rows.length mc, .slice oa out.length oc] 27)) := (Below.refl _ _).alloc (Nat.le_refl _) _
  have HM := Lib.hid (hm.below hbx)
  have HX := Lib.hid (Cells3.new W2 27 (.int .i64 b) (.slice ma rows.length mc) (.slice oa out.length oc))
  have HB4 := Lib.hid (HB3.out.trans (hbx.mono HB3.out.size))
  have HZ4 := Lib.hid (HZ3.out.below hbx)
  have HC4 := Lib.hid (HC3.out.below hbx)
  have HPW := Lib.hid (show w.heap.size + 2 ≤ W2.heap.size by have := HZ3.out.lt; omega)
  clear hm b2 k0 k1 k2 HB1 HZ1 HC1 HB3 HZ3 HC3
  go_wp2
  obtain ⟨W3, hW3⟩ : ∃ W, W = W2.alloc (.cells #[.int .i64 b, .slice ma rows.length mc, .slice oa out.length oc] 27) := ⟨_, rfl⟩
  rw [← hW3] at HM HX HB4 HZ4 HC4 ⊢
  obtain ⟨p, hp⟩ : ∃ p, p = W2.heap.size := ⟨_, rfl⟩
  rw [← hp] at HX HM HPW ⊢
  obtain ⟨lo, hlo⟩ : ∃ lo, lo = w.heap.size + 2 := ⟨_, rfl⟩
  have HLO : Hid (w.heap.size + 2 ≤ lo) := by show _ ≤ _; omega
  rw [show w.heap.size + 1 + 1 = lo from hlo.symm] at HM
  have hM : Hid (OwnS W3 lo p (.agg #[.int .i64 b, .slice ma rows.length mc, .slice oa out.length oc]) b rows (mapD out tab 0)) := by rw [mapD_zero]; exact HM.out
  have hX := HX
  have hZ := HZ4
  have hC := HC4
  have hB := HB4
  clear hW3 hbx hp hlo HM HX HB4 HZ4 HC4
  have hA : Hid (∀ (j : Nat) (t : Int), j < 0 → out[j]? = some t → 0 ≤ t ∧ t < (tab.length : Int)) := fun j t h => by omega
  go_loopw [7] (fun i' wr => ∃ i : Nat, i ≤ out.length ∧ i' = .int .i64 i ∧ Hid (OwnS wr lo p (.agg #[.int .i64 b, .slice ma rows.length mc, .slice oa out.length oc]) b rows (mapD out tab i)) ∧ Hid (Cells3 wr p 27 (.int .i64 b) (.slice ma rows.length mc) (.slice oa out.length oc)) ∧ Hid (Cells3 wr (w.heap.size + 1) 27 (.int .i64 0) (.slice none 0 0) (.slice none 0 0)) ∧ Hid (Cells3 wr w.heap.size 27 (.int .i64 b) (.slice an rows.length cn) (.slice ao out.length co)) ∧ Hid (Below w.heap.size w wr) ∧ Hid (∀ (j : Nat) (t : Int), j < i → out[j]? = some t → 0 ≤ t ∧ t < (tab.length : Int))) (fun i' _ => out.length - (intOf i').toNat)
  case atStart => exact ⟨0, Nat.zero_le _, rfl, hM, hX, hZ, hC, hB, hA⟩
  case round =>
    clear hM hX hZ hC hB hA
    obtain ⟨i, hil, rfl, hM, hX, HZR, hC, HBR, hA⟩ := hrel
    obtain ⟨W4, rfl⟩ : ∃ W : World, W = wr := ⟨_, rfl⟩
    have k0 := hC.out.c0
    have k1 := hC.out.c1
    have k2 := hC.out.c2
    by_cases hlt : i < out.length
    case neg =>
      obtain rfl : i = out.length := by omega
      have hk := HBO.out (fun j t hj => hA.out j t (List.getElem?_eq_some_iff.1 hj).1 hj)
      have HW : Hid (OwnS W4 lo p (.agg #[.int .i64 b, .slice ma rows.length mc, .slice oa out.length oc]) b rows (out.map (tabV tab))) := by
        have h1 := hM.out
        rw [mapD_end] at h1
        exact h1
      have HK := Lib.hid hk
      clear hM hA hk
      cases q1 with
      | false =>
        have HN := Lib.hid (map_no (show mapK b rows out tab = false from HK.out))
        have hy := HYE.out
        rw [HN.out.1, HN.out.2.1, HN.out.2.2, show mapK b rows out tab = false from HK.out] at hy
        obtain ⟨rfl, rfl, rfl, rfl⟩ := hy
        go_wp2_with fail
        refine (HCQ.out _ HBR.out).mono ?_
        rintro e W5 ⟨rfl, b5⟩
        have HZR := Lib.hid (HZR.out.below b5)
        have HBR := Lib.hid (HBR.out.trans (b5.mono HBR.out.size))
        clear b5 k0 k1 k2
        obtain ⟨z0, z1, z2⟩ := (⟨HZR.out.c0, HZR.out.c1, HZR.out.c2⟩ : _ ∧ _ ∧ _)
        have z3 := HZR.out.f
        go_wp2
        have hZ3 := (((HZR.out.set0 (.int .i64 0)).set1 (.slice none 0 0)).set2 (.slice none 0 0))
        have n0 := hZ3.c0
        have n1 := hZ3.c1
        have n2 := hZ3.c2
        refine bodyPost_ret (v := .tuple #[.agg #[.int .i64 0, .slice none 0 0, .slice none 0 0], .bool false]) (by simp [results, Try.results16, go_sem, n0, n1, n2]) rfl ⟨_, rfl, OwnS.zero _, ?_⟩
        exact ((HBR.out.setCell (Nat.le_succ _) _).setCell (Nat.le_succ _) _).setCell (Nat.le_succ _) _
      | true =>
        go_wp2_with fail
        refine (HCQ.out _ HBR.out).mono ?_
        rintro e W5 ⟨rfl, b5⟩
        have HZ5 := Lib.hid (HZR.out.below b5)
        have HW5 := Lib.hid (HW.out.below b5)
        have HX5 := Lib.hid (hX.out.below b5)
        have HB5 := Lib.hid (HBR.out.trans (b5.mono HBR.out.size))
        clear b5 k0 k1 k2 HW HZR HBR hX hC
        have m0 := HX5.out.c0
        have m1 := HX5.out.c1
        have m2 := HX5.out.c2
        go_wp2_with fail
        refine (HCM.out _ _ HW5.out.lies).mono ?_
        rintro e W6 ⟨rfl, b6⟩
        have HZR := Lib.hid (HZ5.out.below b6)
        have HW := Lib.hid (HW5.out.below b6)
        have hX := Lib.hid (HX5.out.below b6)
        have HBR := Lib.hid (HB5.out.trans (b6.mono HB5.out.size))
        clear b6 m0 m1 m2 HZ5 HW5 HX5 HB5
        cases q2 with
        | false =>
          have HN := Lib.hid (map_no (show mapK b rows out tab = false from HK.out))
          have hy := HYE.out
          rw [HN.out.1, HN.out.2.1, HN.out.2.2, show mapK b rows out tab = false from HK.out] at hy
          obtain ⟨rfl, rfl, rfl, rfl⟩ := hy
          obtain ⟨z0, z1, z2⟩ := (⟨HZR.out.c0, HZR.out.c1, HZR.out.c2⟩ : _ ∧ _ ∧ _)
          have z3 := HZR.out.f
          go_wp2
          have hZ3 := (((HZR.out.set0 (.int .i64 0)).set1 (.slice none 0 0)).set2 (.slice none 0 0))
          have n0 := hZ3.c0
          have n1 := hZ3.c1
          have n2 := hZ3.c2
          refine bodyPost_ret (v := .tuple #[.agg #[.int .i64 0, .slice none 0 0, .slice none 0 0], .bool false]) (by simp [results, Try.results16, go_sem, n0, n1, n2]) rfl ⟨_, rfl, OwnS.zero _, ?_⟩
          exact ((HBR.out.setCell (Nat.le_succ _) _).setCell (Nat.le_succ _) _).setCell (Nat.le_succ _) _
        | true =>
          have HY := Lib.hid (map_yes (show mapK b rows out tab = true from HK.out))
          have hy := HYE.out
          rw [HY.out.1, HY.out.2.1, HY.out.2.2, show mapK b rows out tab = true from HK.out] at hy
          obtain ⟨e1, e2, e3, e4⟩ := hy
          have e1' := e1.symm
          have e2' := e2.symm
          subst e1' e2' e3 e4
          have m0 := hX.out.c0
          have m1 := hX.out.c1
          have m2 := hX.out.c2
          have z0 := HZR.out.c0
          have z1 := HZR.out.c1
          have z2 := HZR.out.c2
          have z3 := HZR.out.f
          have hxp := hX.out.lt
          go_wp2
          have hZ3 := (((HZR.out.set0 (.int .i64 b)).set1 (.slice ma rows.length mc)).set2 (.slice oa out.length oc))
          have n0 := hZ3.c0
          have n1 := hZ3.c1
          have n2 := hZ3.c2
          refine bodyPost_ret (v := .tuple #[.agg #[.int .i64 b, .slice ma rows.length mc, .slice oa out.length oc], .bool true]) (by simp [results, Try.results16, go_sem, n0, n1, n2]) rfl ⟨_, rfl, ?_, ?_⟩
          · have hT : ∀ (i : Nat) (u : Value) (W : World), Plain.Touch (w.heap.size + 1) (w.heap.size + 2) W (W.setCell ⟨w.heap.size + 1, i, none⟩ u) := fun i u W => Plain.Touch.of_set (a := ⟨w.heap.size + 1, i, none⟩) u (Nat.le_refl _) (Nat.lt_succ_self _)
            have T0 : Plain.Touch (w.heap.size + 1) (w.heap.size + 2) W6 (((W6.setCell ⟨w.heap.size + 1, 0, none⟩ (.int .i64 b)).setCell ⟨w.heap.size + 1, 1, none⟩ (.slice ma rows.length mc)).setCell ⟨w.heap.size + 1, 2, none⟩ (.slice oa out.length oc)) := ((hT 0 _ _).trans (hT 1 _ _)).trans (hT 2 _ _)
            have h1 := (HW.out.touch T0 (.inr HLO.out)).lower (show w.heap.size ≤ lo by have := HLO.out; omega)
            have h2 := own_wide h1 (hi' := (((W6.setCell ⟨w.heap.size + 1, 0, none⟩ (.int .i64 b)).setCell ⟨w.heap.size + 1, 1, none⟩ (.slice ma rows.length mc)).setCell ⟨w.heap.size + 1, 2, none⟩ (.slice oa out.length oc)).heap.size) (by rw [size_setCell', size_setCell', size_setCell']; omega) (Nat.le_refl _)
            exact h2
          · exact ((HBR.out.setCell (Nat.le_succ _) _).setCell (Nat.le_succ _) _).setCell (Nat.le_succ _) _
    case pos =>
      obtain ⟨t, ht⟩ : ∃ t, out[i]? = some t := ⟨_, List.getElem?_eq_getElem hlt⟩
      obtain ⟨oq, os, hoe, ho1⟩ := HS.out.cells.2 i _ ht
      have ho2 := old_cell' HBR.out ho1
      subst hoe
      have HTI := Lib.hid ht
      have hii0 : (0 : Int) ≤ (i : Int) := Int.natCast_nonneg _
      have hiL : (i : Int) < (out.length : Int) := by omega
      clear ht ho1
      by_cases hx : 0 ≤ t ∧ t ≤ (tab.length : Int) - 1
      case neg =>
        have hk : mapK b rows out tab = false := map_no_range HTI.out (by omega)
        have HX3 := Lib.hid (show t < 0 ∨ (tab.length : Int) - 1 < t by omega)
        have HN := Lib.hid (map_no hk)
        have hy := HYE.out
        rw [HN.out.1, HN.out.2.1, HN.out.2.2, hk] at hy
        obtain ⟨rfl, rfl, rfl, rfl⟩ := hy
        clear hk hM hA hX hx
        go_wp2_with fail
        refine (l1In_no _ _ _ _ HX3.out).mono ?_
        rintro e w' ⟨rfl, rfl⟩
        clear k0 k1 k2
        obtain ⟨z0, z1, z2⟩ := (⟨HZR.out.c0, HZR.out.c1, HZR.out.c2⟩ : _ ∧ _ ∧ _)
        have z3 := HZR.out.f
        go_wp2
        have hZ3 := (((HZR.out.set0 (.int .i64 0)).set1 (.slice none 0 0)).set2 (.slice none 0 0))
        have n0 := hZ3.c0
        have n1 := hZ3.c1
        have n2 := hZ3.c2
        refine bodyPost_ret (v := .tuple #[.agg #[.int .i64 0, .slice none 0 0, .slice none 0 0], .bool false]) (by simp [results, Try.results16, go_sem, n0, n1, n2]) rfl ⟨_, rfl, OwnS.zero _, ?_⟩
        exact ((HBR.out.setCell (Nat.le_succ _) _).setCell (Nat.le_succ _) _).setCell (Nat.le_succ _) _
      case pos =>
        obtain ⟨tn, rfl⟩ : ∃ n : Nat, t = (n : Int) := ⟨t.toNat, by omega⟩
        have hx' : tn < tab.length := by omega
        have HTN := Lib.hid hx
        obtain ⟨x, hxv⟩ : ∃ x, tab[tn]? = some x := ⟨_, List.getElem?_eq_getElem hx'⟩
        have HXV : Hid (tabV tab (tn : Int) = x) := by show _ = _; rw [tabV, Int.toNat_natCast, List.getD_eq_getElem?_getD, hxv]; rfl
        obtain ⟨_, ta', tc', he, _, htc⟩ := HT.out
        injection he with he1 he2 he3
        subst he1; subst he3
        obtain ⟨tq, ts, hte, ht1⟩ := htc tn x hxv
        have ht2 := old_cell' HBR.out ht1
        subst hte
        have htL : (tn : Int) < (tab.length : Int) := by omega
        have htn0 : (0 : Int) ≤ (tn : Int) := Int.natCast_nonneg _
        clear hxv htc ht1 he2
        have HA2 : Hid (∀ (j : Nat) (t : Int), j < i + 1 → out[j]? = some t → 0 ≤ t ∧ t < (tab.length : Int)) := fun j t hj hjt => by
          by_cases e : j = i
          · subst e
            obtain rfl := Option.some.inj (HTI.out.symm.trans hjt)
            exact ⟨by omega, by omega⟩
          · exact hA.out j t (by omega) hjt
        have hML := hM.out
        obtain ⟨dl, hdl⟩ : ∃ dl, dl = mapD out tab i := ⟨_, rfl⟩
        rw [← hdl] at hML
        have hdn : dl.length = out.length := by rw [hdl, mapD_len]
        rw [← hdn] at hML
        obtain ⟨g, hge, hgl, hgh, gf, ⟨gy, gc⟩, hwr⟩ := own_outj hML i (by omega)
        subst hge
        have hST := hwr x
        have HST : Hid (OwnS (W4.setCell ⟨g, i, none⟩ (.int .i64 x)) lo p (.agg #[.int .i64 b, .slice ma rows.length mc, .slice (some ⟨g, 0, none⟩) out.length oc]) b rows (mapD out tab (i + 1))) := by
          rw [hdn, hdl, ← HXV.out, mapD_set HTI.out] at hST
          exact HXV.out ▸ hST
        have m0 := hX.out.c0
        have m1 := hX.out.c1
        have m2 := hX.out.c2
        have hgp : g ≠ p := by omega
        have hgz : g ≠ w.heap.size + 1 := by have := HLO.out; omega
        have hgs : g ≠ w.heap.size := by have := HLO.out; omega
        have HX5 := Lib.hid (hX.out.other (a := ⟨g, i, none⟩) hgp (.int .i64 x))
        have HZ5 := Lib.hid (HZR.out.other (a := ⟨g, i, none⟩) hgz (.int .i64 x))
        have HC5 := Lib.hid (hC.out.other (a := ⟨g, i, none⟩) hgs (.int .i64 x))
        have HB5 : Hid (Below w.heap.size w (W4.setCell ⟨g, i, none⟩ (.int .i64 x))) := HBR.out.setCell (by have := HLO.out; show _ ≤ g; omega) _
        clear hM hA hML hdl hwr hST hX HZR HBR hdn hC hx
        go_wp2_with fail
        refine (l1In_yes _ _ _ _ HTN.out.1 HTN.out.2).mono ?_
        rintro e w' ⟨rfl, rfl⟩
        go_wp2_with fail
        go_region_law (fail)
        all_goals
          go_wp2
          go_roundw
          case rel => exact ⟨i + 1, by omega, by go_num, HST.out.below (below_drew' _), HX5.out.below (below_drew' _), HZ5.out.below (below_drew' _), HC5.out.below (below_drew' _), HB5.out.trans ((below_drew' _).mono HB5.out.size), HA2⟩
          case measure => simp [intOf]; omega
end Comb
end Go.Proofs.Ytjgcmklckchomaa
