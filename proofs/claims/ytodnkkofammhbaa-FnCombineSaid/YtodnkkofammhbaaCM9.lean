/- Several texts of this proof, one behind the other: each says ahead of it what it shows and under which conditions. -/
import Derived.Test.YtodnkkofammhbaaCM7
import Derived.Test.YtodnkkofammhbaaCM4
import Derived.Test.YtodnkkofammhbaaCM5
import Derived.Test.YtodnkkofammhbaaCM8
/- Contract of MapOutputs of the model. No conditions beyond those that it states. -/
namespace Go.Proofs.Ytodnkkofammhbaa
open Go.ChangeShapes Go.WideShapes Go.ChangeAt Go.RowKit
open Go.PlainAid Plain
set_option linter.unusedVariables false
namespace Comb
open Seqs
theorem map_no_range {b : Int} {rows : List (List Int)} {out tab : List Int} {i : Nat} {t : Int} (hi : out[i]? = some t) (h : t < 0 ∨ (tab.length : Int) - 1 < t) : mapK b rows out tab = false := by
  rcases h with h | h
  · exact map_no_seq (seqB_no fun hs => by have := (hs.2.2.2.2.2.2 t (List.mem_of_getElem? hi)).1; omega)
  · exact map_no_term hi (decide_eq_false fun h' => by have := h'.1; omega)
theorem map_both {b : Int} {rows : List (List Int)} {out tab : List Int} (h : ∀ (j : Nat) (t : Int), out[j]? = some t → 0 ≤ t ∧ t < (tab.length : Int)) : mapK b rows out tab = (seqB b rows out && seqB b rows (out.map (tabV tab))) := by
  cases hq : seqB b rows out with
  | false => rw [map_no_seq hq]; rfl
  | true =>
    have hs := seqB_out hq
    rw [mapK, hq, Bool.true_and, Bool.true_and]
    cases hq2 : seqB b rows (out.map (tabV tab)) with
    | true =>
      have hs2 := seqB_out hq2
      rw [List.all_eq_true]
      intro t ht
      obtain ⟨j, hj⟩ := List.getElem?_of_mem ht
      have h1 := hs2.2.2.2.2.2.2 _ (List.mem_map_of_mem ht)
      exact decide_eq_true ⟨(h j t hj).2, h1.1, h1.2⟩
    | false =>
      rw [← Bool.not_eq_true]
      intro hall
      rw [List.all_eq_true] at hall
      have : IsSeq b rows (out.map (tabV tab)) := ⟨hs.1, hs.2.1, hs.2.2.1, hs.2.2.2.1, by rw [List.length_map]; exact hs.2.2.2.2.1, hs.2.2.2.2.2.1, fun x hx => by
        obtain ⟨t, ht, rfl⟩ := List.mem_map.1 hx
        exact (of_decide_eq_true (hall t ht)).2⟩
      rw [seqB_yes this] at hq2
      cases hq2
set_option maxRecDepth 100000 in
set_option maxHeartbeats 2000000 in
theorem spec_map (v : Value) (b : Int) (rows : List (List Int)) (out : List Int) (w : World) (h : LiesS w v b rows out) (tv : Value) (tab : List Int) (ht : Lies (Value.int .i64) w tv tab) (hs : rows.length + tot rows + out.length ≤ 1048576) :
    Calls Try.prog 22 #[v, tv] w (GivesK (mapB b rows out tab) (mapR b rows out tab) (mapO b rows out tab) (mapK b rows out tab) w) := by
  obtain ⟨yb, hyb⟩ : ∃ y, y = mapB b rows out tab := ⟨_, rfl⟩
  obtain ⟨yr, hyr⟩ : ∃ y, y = mapR b rows out tab := ⟨_, rfl⟩
  obtain ⟨yo, hyo⟩ : ∃ y, y = mapO b rows out tab := ⟨_, rfl⟩
  obtain ⟨yk, hyk⟩ : ∃ y, y = mapK b rows out tab := ⟨_, rfl⟩
  have HYE := Lib.hid (show yb = mapB b rows out tab ∧ yr = mapR b rows out tab ∧ yo = mapO b rows out tab ∧ yk = mapK b rows out tab from ⟨hyb, hyr, hyo, hyk⟩)
  rw [← hyb, ← hyr, ← hyo, ← hyk]
  clear hyb hyr hyo hyk
  have HS := Lib.hid h
  obtain ⟨an, cn, ao, co, rfl⟩ := h.form
  clear h
  have HB : Hid (Below w.heap.size w (w.alloc (Obj.cells #[Value.int .i64 b, Value.slice an rows.length cn, Value.slice ao out.length co] 27))) := (Below.refl _ _).alloc (Nat.le_refl _) _
  have HC := Lib.hid (Cells3.new w 27 (.int .i64 b) (.slice an rows.length cn) (.slice ao out.length co))
  have HT := Lib.hid ht
  obtain ⟨htl, ta, tc, rfl, _, _⟩ := ht
  have HB1 := Lib.hid (HB.out.alloc (by simp only [size_alloc'] <;> omega) (Obj.cells #[Value.int .i64 0, Value.slice none 0 0, Value.slice none 0 0] 27))
  have HC1 := Lib.hid (HC.out.alloc (Obj.cells #[Value.int .i64 0, Value.slice none 0 0, Value.slice none 0 0] 27))
  have hZ := Cells3.new (w.alloc (Obj.cells #[Value.int .i64 b, Value.slice an rows.length cn, Value.slice ao out.length co] 27)) 27 (.int .i64 0) (.slice none 0 0) (.slice none 0 0)
  rw [size_alloc'] at hZ
  have HZ1 := Lib.hid hZ
  have HSZ := Lib.hid hs
  have hol : out.length ≤ 1048576 := by omega
  clear hZ HB HC hs
  have k0 := HC1.out.c0
  have k1 := HC1.out.c1
  have k2 := HC1.out.c2
  have HCQ := Lib.hid (fun (W : World) (hW : Below w.heap.size w W) => spec_is _ b rows out W (HS.out.below hW))
  have HCM := Lib.hid (fun (W : World) (u : Value) (l : LiesS W u b rows (out.map (tabV tab))) => spec_is u b rows (out.map (tabV tab)) W l)
  have HBO := Lib.hid (fun h => map_both (b := b) (rows := rows) (out := out) (tab := tab) h)
  obtain ⟨q1, hq1⟩ : ∃ q, q = seqB b rows out := ⟨_, rfl⟩
  obtain ⟨q2, hq2⟩ : ∃ q, q = seqB b rows (out.map (tabV tab)) := ⟨_, rfl⟩
  rw [← hq1] at HCQ
  rw [← hq2] at HCM
  rw [← hq1, ← hq2] at HBO
  clear hq1 hq2
  go_enter Try.func22, Try.ntmps22
  go_wp2_with fail
  refine (spec_copied _ b rows out _ (HS.out.below HB1.out) HSZ.out).mono ?_
  rintro e W2 ⟨vm, rfl, hm, b2⟩
  obtain ⟨ma, mc, oa, oc, rfl⟩ := hm.form
  have HB3 := Lib.hid (HB1.out.trans (b2.mono HB1.out.size))
  have HZ3 := Lib.hid (HZ1.out.below b2)
  have HC3 := Lib.hid (HC1.out.below b2)
  rw [size_alloc', size_alloc'] at hm
  have hbx : Below W2.heap.size W2 (W2.alloc (.cells #[.int .i64 b, .slice ma rows.length mc, .slice oa out.length oc] 27)) := (Below.refl _ _).alloc (Nat.le_refl _) _
  have HM := Lib.hid (hm.below hbx)
  have HX := Lib.hid (Cells3.new W2 27 (.int .i64 b) (.slice ma rows.length mc) (.slice oa out.length oc))
  have HB4 := Lib.hid (HB3.out.trans (hbx.mono HB3.out.size))
  have HZ4 := Lib.hid (HZ3.out.below hbx)
  have HC4 := Lib.hid (HC3.out.below hbx)
  have HPW := Lib.hid (show w.heap.size + 2 ≤ W2.heap.size by have := HZ3.out.lt; omega)
  clear hm b2 k0 k1 k2 HB1 HZ1 HC1 HB3 HZ3 HC3
  go_wp2
  obtain ⟨W3, hW3⟩ : ∃ W, W = W2.alloc (.cells #[.int .i64 b, .slice ma rows.length mc, .slice oa out.length oc] 27) := ⟨_, rfl⟩
  rw [← hW3] at HM HX HB4 HZ4 HC4 ⊢
  obtain ⟨p, hp⟩ : ∃ p, p = W2.heap.size := ⟨_, rfl⟩
  rw [← hp] at HX HM HPW ⊢
  obtain ⟨lo, hlo⟩ : ∃ lo, lo = w.heap.size + 2 := ⟨_, rfl⟩
  have HLO : Hid (w.heap.size + 2 ≤ lo) := by show _ ≤ _; omega
  rw [show w.heap.size + 1 + 1 = lo from hlo.symm] at HM
  have hM : Hid (OwnS W3 lo p (.agg #[.int .i64 b, .slice ma rows.length mc, .slice oa out.length oc]) b rows (mapD out tab 0)) := by rw [mapD_zero]; exact HM.out
  have hX := HX
  have hZ := HZ4
  have hC := HC4
  have hB := HB4
  clear hW3 hbx hp hlo HM HX HB4 HZ4 HC4
  have hA : Hid (∀ (j : Nat) (t : Int), j < 0 → out[j]? = some t → 0 ≤ t ∧ t < (tab.length : Int)) := fun j t h => by omega
  go_loopw [7] (fun i' wr => ∃ i : Nat, i ≤ out.length ∧ i' = .int .i64 i ∧ Hid (OwnS wr lo p (.agg #[.int .i64 b, .slice ma rows.length mc, .slice oa out.length oc]) b rows (mapD out tab i)) ∧ Hid (Cells3 wr p 27 (.int .i64 b) (.slice ma rows.length mc) (.slice oa out.length oc)) ∧ Hid (Cells3 wr (w.heap.size + 1) 27 (.int .i64 0) (.slice none 0 0) (.slice none 0 0)) ∧ Hid (Cells3 wr w.heap.size 27 (.int .i64 b) (.slice an rows.length cn) (.slice ao out.length co)) ∧ Hid (Below w.heap.size w wr) ∧ Hid (∀ (j : Nat) (t : Int), j < i → out[j]? = some t → 0 ≤ t ∧ t < (tab.length : Int))) (fun i' _ => out.length - (intOf i').toNat)
  case atStart => exact ⟨0, Nat.zero_le _, rfl, hM, hX, hZ, hC, hB, hA⟩
  case round =>
    clear hM hX hZ hC hB hA
    obtain ⟨i, hil, rfl, hM, hX, HZR, hC, HBR, hA⟩ := hrel
    obtain ⟨W4, rfl⟩ : ∃ W : World, W = wr := ⟨_, rfl⟩
    have k0 := hC.out.c0
    have k1 := hC.out.c1
    have k2 := hC.out.c2
    by_cases hlt : i < out.length
    case neg =>
      obtain rfl : i = out.length := by omega
      have hk := HBO.out (fun j t hj => hA.out j t (List.getElem?_eq_some_iff.1 hj).1 hj)
      have HW : Hid (OwnS W4 lo p (.agg #[.int .i64 b, .slice ma rows.length mc, .slice oa out.length oc]) b rows (out.map (tabV tab))) := by
        have h1 := hM.out
        rw [mapD_end] at h1
        exact h1
      have HK := Lib.hid hk
      clear hM hA hk
      cases q1 with
      | false =>
        have HN := Lib.hid (map_no (show mapK b rows out tab = false from HK.out))
        have hy := HYE.out
        rw [HN.out.1, HN.out.2.1, HN.out.2.2, show mapK b rows out tab = false from HK.out] at hy
        obtain ⟨rfl, rfl, rfl, rfl⟩ := hy
        go_wp2_with fail
        refine (HCQ.out _ HBR.out).mono ?_
        rintro e W5 ⟨rfl, b5⟩
        have HZR := Lib.hid (HZR.out.below b5)
        have HBR := Lib.hid (HBR.out.trans (b5.mono HBR.out.size))
        clear b5 k0 k1 k2
        obtain ⟨z0, z1, z2⟩ := (⟨HZR.out.c0, HZR.out.c1, HZR.out.c2⟩ : _ ∧ _ ∧ _)
        have z3 := HZR.out.f
        go_wp2
        have hZ3 := (((HZR.out.set0 (.int .i64 0)).set1 (.slice none 0 0)).set2 (.slice none 0 0))
        have n0 := hZ3.c0
        have n1 := hZ3.c1
        have n2 := hZ3.c2
        refine bodyPost_ret (v := .tuple #[.agg #[.int .i64 0, .slice none 0 0, .slice none 0 0], .bool false]) (by simp [results, Try.results22, go_sem, n0, n1, n2]) rfl ⟨_, rfl, OwnS.zero _, ?_⟩
        exact ((HBR.out.setCell (Nat.le_succ _) _).setCell (Nat.le_succ _) _).setCell (Nat.le_succ _) _
      | true =>
        go_wp2_with fail
        refine (HCQ.out _ HBR.out).mono ?_
        rintro e W5 ⟨rfl, b5⟩
        have HZ5 := Lib.hid (HZR.out.below b5)
        have HW5 := Lib.hid (HW.out.below b5)
        have HX5 := Lib.hid (hX.out.below b5)
        have HB5 := Lib.hid (HBR.out.trans (b5.mono HBR.out.size))
        clear b5 k0 k1 k2 HW HZR HBR hX hC
        have m0 := HX5.out.c0
        have m1 := HX5.out.c1
        have m2 := HX5.out.c2
        go_wp2_with fail
        refine (HCM.out _ _ HW5.out.lies).mono ?_
        rintro e W6 ⟨rfl, b6⟩
        have HZR := Lib.hid (HZ5.out.below b6)
        have HW := Lib.hid (HW5.out.below b6)
        have hX := Lib.hid (HX5.out.below b6)
        have HBR := Lib.hid (HB5.out.trans (b6.mono HB5.out.size))
        clear b6 m0 m1 m2 HZ5 HW5 HX5 HB5
        cases q2 with
        | false =>
          have HN := Lib.hid (map_no (show mapK b rows out tab = false from HK.out))
          have hy := HYE.out
          rw [HN.out.1, HN.out.2.1, HN.out.2.2, show mapK b rows out tab = false from HK.out] at hy
          obtain ⟨rfl, rfl, rfl, rfl⟩ := hy
          obtain ⟨z0, z1, z2⟩ := (⟨HZR.out.c0, HZR.out.c1, HZR.out.c2⟩ : _ ∧ _ ∧ _)
          have z3 := HZR.out.f
          go_wp2
          have hZ3 := (((HZR.out.set0 (.int .i64 0)).set1 (.slice none 0 0)).set2 (.slice none 0 0))
          have n0 := hZ3.c0
          have n1 := hZ3.c1
          have n2 := hZ3.c2
          refine bodyPost_ret (v := .tuple #[.agg #[.int .i64 0, .slice none 0 0, .slice none 0 0], .bool false]) (by simp [results, Try.results22, go_sem, n0, n1, n2]) rfl ⟨_, rfl, OwnS.zero _, ?_⟩
          exact ((HBR.out.setCell (Nat.le_succ _) _).setCell (Nat.le_succ _) _).setCell (Nat.le_succ _) _
        | true =>
          have HY := Lib.hid (map_yes (show mapK b rows out tab = true from HK.out))
          have hy := HYE.out
          rw [HY.out.1, HY.out.2.1, HY.out.2.2, show mapK b rows out tab = true from HK.out] at hy
          obtain ⟨e1, e2, e3, e4⟩ := hy
          have e1' := e1.symm
          have e2' := e2.symm
          subst e1' e2' e3 e4
          have m0 := hX.out.c0
          have m1 := hX.out.c1
          have m2 := hX.out.c2
          have z0 := HZR.out.c0
          have z1 := HZR.out.c1
          have z2 := HZR.out.c2
          have z3 := HZR.out.f
          have hxp := hX.out.lt
          go_wp2
          have hZ3 := (((HZR.out.set0 (.int .i64 b)).set1 (.slice ma rows.length mc)).set2 (.slice oa out.length oc))
          have n0 := hZ3.c0
          have n1 := hZ3.c1
          have n2 := hZ3.c2
          refine bodyPost_ret (v := .tuple #[.agg #[.int .i64 b, .slice ma rows.length mc, .slice oa out.length oc], .bool true]) (by simp [results, Try.results22, go_sem, n0, n1, n2]) rfl ⟨_, rfl, ?_, ?_⟩
          · have hT : ∀ (i : Nat) (u : Value) (W : World), Plain.Touch (w.heap.size + 1) (w.heap.size + 2) W (W.setCell ⟨w.heap.size + 1, i, none⟩ u) := fun i u W => Plain.Touch.of_set (a := ⟨w.heap.size + 1, i, none⟩) u (Nat.le_refl _) (Nat.lt_succ_self _)
            have T0 : Plain.Touch (w.heap.size + 1) (w.heap.size + 2) W6 (((W6.setCell ⟨w.heap.size + 1, 0, none⟩ (.int .i64 b)).setCell ⟨w.heap.size + 1, 1, none⟩ (.slice ma rows.length mc)).setCell ⟨w.heap.size + 1, 2, none⟩ (.slice oa out.length oc)) := ((hT 0 _ _).trans (hT 1 _ _)).trans (hT 2 _ _)
            have h1 := (HW.out.touch T0 (.inr HLO.out)).lower (show w.heap.size ≤ lo by have := HLO.out; omega)
            have h2 := own_wide h1 (hi' := (((W6.setCell ⟨w.heap.size + 1, 0, none⟩ (.int .i64 b)).setCell ⟨w.heap.size + 1, 1, none⟩ (.slice ma rows.length mc)).setCell ⟨w.heap.size + 1, 2, none⟩ (.slice oa out.length oc)).heap.size) (by rw [size_setCell', size_setCell', size_setCell']; omega) (Nat.le_refl _)
            exact h2
          · exact ((HBR.out.setCell (Nat.le_succ _) _).setCell (Nat.le_succ _) _).setCell (Nat.le_succ _) _
    case pos =>
      obtain ⟨t, ht⟩ : ∃ t, out[i]? = some t := ⟨_, List.getElem?_eq_getElem hlt⟩
      obtain ⟨oq, os, hoe, ho1⟩ := HS.out.cells.2 i _ ht
      have ho2 := old_cell' HBR.out ho1
      subst hoe
      have HTI := Lib.hid ht
      have hii0 : (0 : Int) ≤ (i : Int) := Int.natCast_nonneg _
      have hiL : (i : Int) < (out.length : Int) := by omega
      clear ht ho1
      by_cases hx : 0 ≤ t ∧ t ≤ (tab.length : Int) - 1
      case neg =>
        have hk : mapK b rows out tab = false := map_no_range HTI.out (by omega)
        have HX3 := Lib.hid (show t < 0 ∨ (tab.length : Int) - 1 < t by omega)
        have HN := Lib.hid (map_no hk)
        have hy := HYE.out
        rw [HN.out.1, HN.out.2.1, HN.out.2.2, hk] at hy
        obtain ⟨rfl, rfl, rfl, rfl⟩ := hy
        clear hk hM hA hX hx
        go_wp2_with fail
        refine (l1In_no _ _ _ _ HX3.out).mono ?_
        rintro e w' ⟨rfl, rfl⟩
        clear k0 k1 k2
        obtain ⟨z0, z1, z2⟩ := (⟨HZR.out.c0, HZR.out.c1, HZR.out.c2⟩ : _ ∧ _ ∧ _)
        have z3 := HZR.out.f
        go_wp2
        have hZ3 := (((HZR.out.set0 (.int .i64 0)).set1 (.slice none 0 0)).set2 (.slice none 0 0))
        have n0 := hZ3.c0
        have n1 := hZ3.c1
        have n2 := hZ3.c2
        refine bodyPost_ret (v := .tuple #[.agg #[.int .i64 0, .slice none 0 0, .slice none 0 0], .bool false]) (by simp [results, Try.results22, go_sem, n0, n1, n2]) rfl ⟨_, rfl, OwnS.zero _, ?_⟩
        exact ((HBR.out.setCell (Nat.le_succ _) _).setCell (Nat.le_succ _) _).setCell (Nat.le_succ _) _
      case pos =>
        obtain ⟨tn, rfl⟩ : ∃ n : Nat, t = (n : Int) := ⟨t.toNat, by omega⟩
        have hx' : tn < tab.length := by omega
        have HTN := Lib.hid hx
        obtain ⟨x, hxv⟩ : ∃ x, tab[tn]? = some x := ⟨_, List.getElem?_eq_getElem hx'⟩
        have HXV : Hid (tabV tab (tn : Int) = x) := by show _ = _; rw [tabV, Int.toNat_natCast, List.getD_eq_getElem?_getD, hxv]; rfl
        obtain ⟨_, ta', tc', he, _, htc⟩ := HT.out
        injection he with he1 he2 he3
        subst he1; subst he3
        obtain ⟨tq, ts, hte, ht1⟩ := htc tn x hxv
        have ht2 := old_cell' HBR.out ht1
        subst hte
        have htL : (tn : Int) < (tab.length : Int) := by omega
        have htn0 : (0 : Int) ≤ (tn : Int) := Int.natCast_nonneg _
        clear hxv htc ht1 he2
        have HA2 : Hid (∀ (j : Nat) (t : Int), j < i + 1 → out[j]? = some t → 0 ≤ t ∧ t < (tab.length : Int)) := fun j t hj hjt => by
          by_cases e : j = i
          · subst e
            obtain rfl := Option.some.inj (HTI.out.symm.trans hjt)
            exact ⟨by omega, by omega⟩
          · exact hA.out j t (by omega) hjt
        have hML := hM.out
        obtain ⟨dl, hdl⟩ : ∃ dl, dl = mapD out tab i := ⟨_, rfl⟩
        rw [← hdl] at hML
        have hdn : dl.length = out.length := by rw [hdl, mapD_len]
        rw [← hdn] at hML
        obtain ⟨g, hge, hgl, hgh, gf, ⟨gy, gc⟩, hwr⟩ := own_outj hML i (by omega)
        subst hge
        have hST := hwr x
        have HST : Hid (OwnS (W4.setCell ⟨g, i, none⟩ (.int .i64 x)) lo p (.agg #[.int .i64 b, .slice ma rows.length mc, .slice (some ⟨g, 0, none⟩) out.length oc]) b rows (mapD out tab (i + 1))) := by
          rw [hdn, hdl, ← HXV.out, mapD_set HTI.out] at hST
          exact HXV.out ▸ hST
        have m0 := hX.out.c0
        have m1 := hX.out.c1
        have m2 := hX.out.c2
        have hgp : g ≠ p := by omega
        have hgz : g ≠ w.heap.size + 1 := by have := HLO.out; omega
        have hgs : g ≠ w.heap.size := by have := HLO.out; omega
        have HX5 := Lib.hid (hX.out.other (a := ⟨g, i, none⟩) hgp (.int .i64 x))
        have HZ5 := Lib.hid (HZR.out.other (a := ⟨g, i, none⟩) hgz (.int .i64 x))
        have HC5 := Lib.hid (hC.out.other (a := ⟨g, i, none⟩) hgs (.int .i64 x))
        have HB5 : Hid (Below w.heap.size w (W4.setCell ⟨g, i, none⟩ (.int .i64 x))) := HBR.out.setCell (by have := HLO.out; show _ ≤ g; omega) _
        clear hM hA hML hdl hwr hST hX HZR HBR hdn hC hx
        go_wp2_with fail
        refine (l1In_yes _ _ _ _ HTN.out.1 HTN.out.2).mono ?_
        rintro e w' ⟨rfl, rfl⟩
        go_wp2_with fail
        go_region_law (fail)
        all_goals
          go_wp2
          go_roundw
          case rel => exact ⟨i + 1, by omega, by go_num, HST.out.below (below_drew' _), HX5.out.below (below_drew' _), HZ5.out.below (below_drew' _), HC5.out.below (below_drew' _), HB5.out.trans ((below_drew' _).mono HB5.out.size), HA2⟩
          case measure => simp [intOf]; omega
end Comb
end Go.Proofs.Ytodnkkofammhbaa
/- Contract of DigitSequence of the model. No conditions beyond those that it states. -/
namespace Go.Proofs.Ytodnkkofammhbaa
open Go.ChangeShapes Go.WideShapes Go.ChangeAt Go.RowKit
open Go.PlainAid Plain
set_option linter.unusedVariables false
namespace Comb
open Seqs
set_option maxRecDepth 100000 in
set_option maxHeartbeats 1000000 in
theorem spec_dig_no (b m : Int) (w : World) (hk : dgK b m = false) :
    Calls Try.prog 18 #[.int .i64 b, .int .i64 m] w (GivesK (dgB b m) (dgR b m) (dgO b m) (dgK b m) w) := by
  have hd := of_decide_eq_false hk
  have HN := Lib.hid (dg_no hk)
  have HK := Lib.hid hk
  rw [HN.out.1, HN.out.2.1, HN.out.2.2, HK.out]
  clear hk
  by_cases hb : 2 ≤ b ∧ b ≤ 4
  case neg =>
    have HBN := Lib.hid (show b < 2 ∨ 4 < b by omega)
    clear hb hd
    go_enter Try.func18, Try.ntmps18
    go_wp2_with fail
    refine (l1In_no _ _ _ _ HBN.out).mono ?_
    rintro e w' ⟨rfl, rfl⟩
    go_wp2
    refine bodyPost_ret (v := .tuple #[.agg #[.int .i64 0, .slice none 0 0, .slice none 0 0], .bool false]) (by simp [results, Try.results18, go_sem]) rfl ⟨_, rfl, OwnS.zero _, ?_⟩
    exact (Below.refl _ _).alloc (Nat.le_refl _) _
  case pos =>
    obtain ⟨hb2, hb4⟩ := hb
    have HBN := Lib.hid (show m < 1 ∨ 4 < m by omega)
    clear hd
    go_enter Try.func18, Try.ntmps18
    go_wp2_with fail
    refine (l1In_yes _ _ _ _ hb2 hb4).mono ?_
    rintro e w' ⟨rfl, rfl⟩
    go_wp2_with fail
    refine (l1In_no _ _ _ _ HBN.out).mono ?_
    rintro e w' ⟨rfl, rfl⟩
    go_wp2
    refine bodyPost_ret (v := .tuple #[.agg #[.int .i64 0, .slice none 0 0, .slice none 0 0], .bool false]) (by simp [results, Try.results18, go_sem]) rfl ⟨_, rfl, OwnS.zero _, ?_⟩
    exact (Below.refl _ _).alloc (Nat.le_refl _) _
set_option maxRecDepth 100000 in
set_option maxHeartbeats 2000000 in
theorem spec_dig_yes (bn mn : Nat) (w : World) (hb2 : 2 ≤ bn) (hb4 : bn ≤ 4) (hm1 : 1 ≤ mn) (hm4 : mn ≤ 4) :
    Calls Try.prog 18 #[.int .i64 (bn : Int), .int .i64 (mn : Int)] w (GivesK (bn : Int) (dgRows bn mn mn) (dgOut mn) true w) := by
  obtain ⟨i0, hi0, hz0, hz1, hz2⟩ := info_parts Ints.infoI
  obtain ⟨i2, hi2, hz20, hz21, hz22⟩ := info_parts infoR
  have hZ1 := (Cells3.new w 27 (.int .i64 0) (.slice none 0 0) (.slice none 0 0)).alloc (Obj.cells #[Value.int .i64 (bn : Int), Value.slice none 0 0, Value.slice none 0 0] 27)
  have hP1 := Cells3.new (w.alloc (Obj.cells #[Value.int .i64 0, Value.slice none 0 0, Value.slice none 0 0] 27)) 27 (.int .i64 (bn : Int)) (.slice none 0 0) (.slice none 0 0)
  rw [size_alloc'] at hP1
  have hB1 : Below w.heap.size w ((w.alloc (Obj.cells #[Value.int .i64 0, Value.slice none 0 0, Value.slice none 0 0] 27)).alloc (Obj.cells #[Value.int .i64 (bn : Int), Value.slice none 0 0, Value.slice none 0 0] 27)) := ((Below.refl _ _).alloc (Nat.le_refl _) _).alloc (by simp only [size_alloc'] <;> omega) _
  have HSZ := Lib.hid (show ((w.alloc (Obj.cells #[Value.int .i64 0, Value.slice none 0 0, Value.slice none 0 0] 27)).alloc (Obj.cells #[Value.int .i64 (bn : Int), Value.slice none 0 0, Value.slice none 0 0] 27)).heap.size = w.heap.size + 2 by rw [size_alloc', size_alloc'])
  have HZ1 := Lib.hid hZ1
  have HP1 := Lib.hid hP1
  have HB1 := Lib.hid hB1
  clear hZ1 hP1 hB1
  go_enter Try.func18, Try.ntmps18
  go_wp2_with fail
  refine (l1In_yes _ _ _ _ (by omega) (by omega)).mono ?_
  rintro e w' ⟨rfl, rfl⟩
  go_wp2_with fail
  refine (l1In_yes _ _ _ _ (by omega) (by omega)).mono ?_
  rintro e w' ⟨rfl, rfl⟩
  go_wp2
  obtain ⟨W2, hW2⟩ : ∃ W, W = (w.alloc (Obj.cells #[Value.int .i64 0, Value.slice none 0 0, Value.slice none 0 0] 27)).alloc (Obj.cells #[Value.int .i64 (bn : Int), Value.slice none 0 0, Value.slice none 0 0] 27) := ⟨_, rfl⟩
  rw [← hW2] at HZ1 HP1 HB1 HSZ ⊢
  clear hW2
  obtain ⟨p, hp⟩ : ∃ p, p = w.heap.size + 1 := ⟨_, rfl⟩
  rw [← hp] at HP1 ⊢
  obtain ⟨BB, hBB⟩ : ∃ B, B = W2.heap.size := ⟨_, rfl⟩
  have HBB : Hid (w.heap.size < p ∧ p < BB ∧ w.heap.size + 2 ≤ BB) := by
    have := HSZ.out
    show _ ∧ _ ∧ _
    omega
  have hBL : Hid (Building W2 BB BB p (bn : Int) (.slice none 0 0) (.slice none 0 0) [] (dgRows bn mn 0) (dgOut 0)) := by
    show Building W2 BB BB p (bn : Int) (.slice none 0 0) (.slice none 0 0) [] [] []
    exact Building.start HP1.out (by rw [hBB]; exact Nat.le_refl _)
  have hZ := HZ1
  have hB := HB1
  clear hp hBB HZ1 HP1 HB1 HSZ
  go_loopw [7] (fun i' wr => ∃ (i : Nat) (vn vo : Value) (us : List Value) (hi : Nat), i ≤ mn ∧ i' = .int .i64 i ∧ Hid (Building wr BB hi p (bn : Int) vn vo us (dgRows bn mn i) (dgOut i)) ∧ Hid (Cells3 wr w.heap.size 27 (.int .i64 0) (.slice none 0 0) (.slice none 0 0)) ∧ Hid (Below w.heap.size w wr)) (fun i' _ => mn - (intOf i').toNat)
  case atStart => exact ⟨0, _, _, [], BB, Nat.zero_le _, rfl, hBL, hZ, hB⟩
  case round =>
    clear hBL hZ hB
    obtain ⟨i, vn, vo, us, hi, hil, rfl, hBL, hZ, hB⟩ := hrel
    obtain ⟨W3, rfl⟩ : ∃ W : World, W = wr := ⟨_, rfl⟩
    obtain ⟨na, nc, oa, oc, hvn, hvo⟩ := hBL.out.form
    rw [dgRows_len] at hvn
    rw [dgOut_len] at hvo
    subst hvn; subst hvo
    have HUSL : Hid (us.length = i) := by show _ = _; rw [hBL.out.len, dgRows_len]
    by_cases hlt : i < mn
    case neg =>
      obtain rfl : i = mn := by omega
      have HW : Hid (OwnS W3 BB W3.heap.size (.agg #[.int .i64 (bn : Int), .slice na i nc, .slice oa i oc]) (bn : Int) (dgRows bn i i) (dgOut i)) := hBL.out.seq
      have hP := hBL.out.cells
      have m0 := hP.c0
      have m1 := hP.c1
      have m2 := hP.c2
      have z0 := hZ.out.c0
      have z1 := hZ.out.c1
      have z2 := hZ.out.c2
      have z3 := hZ.out.f
      clear hP
      go_wp2
      have hZ3 := (((hZ.out.set0 (.int .i64 (bn : Int))).set1 (.slice na i nc)).set2 (.slice oa i oc))
      have n0 := hZ3.c0
      have n1 := hZ3.c1
      have n2 := hZ3.c2
      refine bodyPost_ret (v := .tuple #[.agg #[.int .i64 (bn : Int), .slice na i nc, .slice oa i oc], .bool true]) (by simp [results, Try.results18, go_sem, n0, n1, n2]) rfl ⟨_, rfl, ?_, ?_⟩
      · have hT : ∀ (i : Nat) (u : Value) (W : World), Plain.Touch w.heap.size (w.heap.size + 1) W (W.setCell ⟨w.heap.size, i, none⟩ u) := fun i u W => Plain.Touch.of_set (a := ⟨w.heap.size, i, none⟩) u (Nat.le_refl _) (Nat.lt_succ_self _)
        have T0 : Plain.Touch w.heap.size (w.heap.size + 1) W3 (((W3.setCell ⟨w.heap.size, 0, none⟩ (.int .i64 (bn : Int))).setCell ⟨w.heap.size, 1, none⟩ (.slice na i nc)).setCell ⟨w.heap.size, 2, none⟩ (.slice oa i oc)) := ((hT 0 _ _).trans (hT 1 _ _)).trans (hT 2 _ _)
        have := (HW.out.touch T0 (.inr (by have := HBB.out; omega))).lower (show w.heap.size ≤ BB by have := HBB.out; omega)
        simpa only [size_setCell'] using this
      · exact ((hB.out.setCell (Nat.le_refl _) _).setCell (Nat.le_refl _) _).setCell (Nat.le_refl _) _
    case pos =>
      have hii0 : (0 : Int) ≤ (i : Int) := Int.natCast_nonneg _
      have hiM : (i : Int) < (mn : Int) := by omega
      have hb3 : Below W3.heap.size W3 (W3.alloc (.cells #[] 3)) := (Below.refl _ _).alloc (Nat.le_refl _) _
      have hr3 : Has (Value.int .i64) 3 (W3.alloc (.cells #[] 3)) W3.heap.size (.slice (some ⟨W3.heap.size, 0, none⟩) 0 0) [] := has_lit0 (enc := Value.int .i64) rfl (Nat.le_refl _)
      go_wp2
      have hR : Hid (Has (Value.int .i64) 3 (W3.alloc (.cells #[] 3)) W3.heap.size (.slice (some ⟨W3.heap.size, 0, none⟩) 0 0) (dgPart mn i 0)) := hr3
      have hBW := Lib.hid hb3
      obtain ⟨zb, hzb⟩ : ∃ z, z = W3.heap.size := ⟨_, rfl⟩
      have HZB := Lib.hid hzb
      rw [← hzb] at hR ⊢
      clear hb3 hr3 hzb
      go_loopw [8, 9] (fun r' k' wr => ∃ k : Nat, k ≤ bn ∧ k' = .int .i64 k ∧ Hid (Has (Value.int .i64) 3 wr zb r' (dgPart mn i k)) ∧ Hid (Below W3.heap.size W3 wr)) (fun _ k' _ => bn - (intOf k').toNat)
      case atStart => exact ⟨0, Nat.zero_le _, rfl, hR, hBW⟩
      case round =>
        clear hR hBW
        obtain ⟨k, hkl, rfl, hR, hBW⟩ := hrel
        by_cases hlk : k < bn
        case pos =>
          have hmod := mod_val i k mn
          have HL := Lib.hid (dgPart_len mn i k)
          have HS := Lib.hid (dgPart_succ mn i k)
          obtain ⟨m, hm⟩ : ∃ m : Nat, m = (i + k) % mn := ⟨_, rfl⟩
          rw [← hm] at hmod HS
          have hkb : (k : Int) < (bn : Int) := by omega
          have hk0 : (0 : Int) ≤ (k : Int) := Int.natCast_nonneg _
          have hm0 : ¬ (mn : Int) = 0 := by omega
          have HZW := Lib.hid (show zb ≤ wr.heap.size by rw [HZB.out]; exact hBW.out.size)
          clear hm
          go_wp2_with (at_builtin; refine append_one (enc := Value.int .i64) (e := 3) wr rfl _ _ 25 rfl zb i0 (.int .i64 0) 8 Try.underlying25 hi0 hz0 hz1 hz2 rfl u8 (dgPart mn i k) rfl hR.out (m : Int) rfl (fun _ => rfl) (by rw [HL.out]; omega) (by rw [HL.out]; omega) HZW.out ?_; intro v' w' hown' hgrow')
          have HR2 := Lib.hid hown'
          have HB2 : Hid (Below W3.heap.size W3 w') := hR.out.frame hBW.out (by rw [HZB.out]; exact Nat.le_refl _) hgrow'
          rw [← HS.out] at HR2
          clear hown' hgrow'
          go_wp2
          go_roundw
          case rel => exact ⟨k + 1, by omega, by go_num, HR2, HB2⟩
          case measure => simp [intOf]; omega
        case neg =>
          obtain rfl : k = bn := by omega
          obtain ⟨W4, rfl⟩ : ∃ W : World, W = wr := ⟨_, rfl⟩
          obtain ⟨ra, rc, hru, _⟩ := hR.out.form
          rw [dgPart_len] at hru
          subst hru
          have HU : Hid (Has (Value.int .i64) 3 W4 hi (.slice ra k rc) (dgRow k mn i)) := hR.out.mono (by rw [HZB.out]; exact hBL.out.le)
          clear hR
          have HBL4 := Lib.hid (hBL.out.below hBW.out)
          have HZ4 := Lib.hid (hZ.out.below hBW.out)
          have HB4 := Lib.hid (hB.out.trans (hBW.out.mono hB.out.size))
          have d1 := HBL4.out.cells.c1
          have d2 := (HBL4.out.cells.alloc (.cells #[Value.slice ra k rc] 25)).c1
          have hpl := HBL4.out.cells.lt
          have HNP := Lib.hid (has_ne_c3 HBL4.out.top HBL4.out.cells (by decide))
          have HNZ := Lib.hid (has_ne_c3 HBL4.out.top HZ4.out (by decide))
          have HLO4 := Lib.hid (show BB ≤ W4.heap.size from Nat.le_trans HBL4.out.lo HBL4.out.le)
          clear hBL hZ hB hBW
          go_upto_region 13 with (at_builtin; refine wpList_append_list (enc := id) (e := 25) rfl _ _ 24 rfl BB i2 (.slice none 0 0) 24 Try.underlying24 hi2 hz20 hz21 hz22 rfl (.slice na i nc) us rfl (has_alloc HBL4.out.top _) (.slice (some ⟨W4.heap.size, 0, none⟩) 1 1) [.slice ra k rc] rfl (lies_lit1v _ rfl) (fun y hy => by simp at hy; subst hy; rfl) (by rw [HUSL.out]; simp; omega) (by rw [HUSL.out]; simp; omega) (by have := HLO4.out; simp; omega) ?_; intro v' w2 hv' hg2 _; obtain ⟨a2, c2, hvf, _⟩ := hv'.form; rw [show (us ++ [Value.slice ra k rc]).length = i + 1 from by rw [List.length_append, HUSL.out]; rfl] at hvf; subst hvf; have hg3 := grown_alloc hg2; have hc2 := HBL4.out.cells.grown hg3 HNP.out; have d3 := hc2.c1; have df := hc2.f)
          have HBL5 := Lib.hid (HBL4.out.row HU.out hv' hg3)
          have HG5 : Hid (BB ≤ w2.heap.size) := Nat.le_trans HLO4.out hg3.size
          have hne2 : (p : Nat) ≠ w.heap.size := by have := HBB.out; omega
          have hne3 : w.heap.size ≤ p := by have := HBB.out; omega
          have HZ5 := Lib.hid ((HZ4.out.grown hg3 HNZ.out).other (a := ⟨p, 1, none⟩) hne2 (.slice a2 (i + 1) c2))
          have HB5 : Hid (Below w.heap.size w (w2.setCell ⟨p, 1, none⟩ (.slice a2 (i + 1) c2))) := (HBL4.out.top.frame HB4.out (by have := HBB.out; omega) hg3).setCell hne3 _
          have HG6 : Hid (BB ≤ (w2.setCell ⟨p, 1, none⟩ (.slice a2 (i + 1) c2)).heap.size) := by show _ ≤ _; rw [size_setCell']; exact HG5.out
          obtain ⟨W5, hW5⟩ : ∃ W, W = w2.setCell ⟨p, 1, none⟩ (.slice a2 (i + 1) c2) := ⟨_, rfl⟩
          rw [← hW5] at HBL5 HZ5 HB5 HG6 ⊢
          have HW5 := Lib.hid (show w2.heap.size = W5.heap.size by rw [hW5, size_setCell'])
          rw [HW5.out] at HBL5
          clear hv' hg2 hg3 hc2 d1 d2 d3 df hpl HBL4 HZ4 HB4 hW5 HNP HNZ HLO4 HG5
          have HVO := Lib.hid HBL5.out.terms
          have c3 := HBL5.out.cells.c2
          have c4 := (HBL5.out.cells.alloc (.cells #[Value.int .i64 (i : Int)] 3)).c2
          have hpl := HBL5.out.cells.lt
          have HNO := Lib.hid (has_ne_c3 HVO.out.has HBL5.out.cells (by decide))
          have HNZ := Lib.hid (has_ne_c3 HVO.out.has HZ5.out (by decide))
          have HOL := Lib.hid (dgOut_len i)
          go_wp2_with (at_builtin; refine wpList_append_list (enc := Value.int .i64) (e := 3) rfl _ _ 25 rfl BB i0 (.int .i64 0) 8 Try.underlying25 hi0 hz0 hz1 hz2 rfl (.slice oa i oc) (dgOut i) rfl (has_alloc HVO.out.has _) (.slice (some ⟨W5.heap.size, 0, none⟩) 1 1) [(i : Int)] rfl (lies_lit1 (enc := Value.int .i64) _ rfl) (fun _ _ => rfl) (by rw [HOL.out]; simp; omega) (by rw [HOL.out]; simp; omega) (by have := HG6.out; simp; omega) ?_; intro vt w6 ho6 hg6 hb6; obtain ⟨a6, c6, hvf, _⟩ := ho6.form; rw [show (dgOut i ++ [(i : Int)]).length = i + 1 from by rw [List.length_append, HOL.out]; rfl] at hvf; subst hvf; have hg7 := grown_alloc hg6; have hc7 := HBL5.out.cells.grown hg7 HNO.out; have r1 := hc7.c2; have r3 := hc7.f)
          have HBL7 := Lib.hid (HBL5.out.term ho6 hg7 (fun k hk => (hb6 k hk).imp id (fun h => by simp at h; omega)))
          have HZ7 := Lib.hid ((HZ5.out.grown hg7 HNZ.out).other (a := ⟨p, 2, none⟩) hne2 (.slice a6 (i + 1) c6))
          have HB7 : Hid (Below w.heap.size w (w6.setCell ⟨p, 2, none⟩ (.slice a6 (i + 1) c6))) := (HVO.out.has.frame HB5.out (by have := HBB.out; omega) hg7).setCell hne3 _
          have HBL8 : Hid (Building (w6.setCell ⟨p, 2, none⟩ (.slice a6 (i + 1) c6)) BB w6.heap.size p (k : Int) (.slice a2 (i + 1) c2) (.slice a6 (i + 1) c6) (us ++ [.slice ra k rc]) (dgRows k mn (i + 1)) (dgOut (i + 1))) := by
            have h1 := HBL7.out
            rw [← dgRows_succ, ← dgOut_succ] at h1
            exact h1
          clear ho6 hb6 hg6 hg7 hc7 r1 r3 c3 c4 hpl HBL5 HVO HNO HNZ HBL7
          go_roundw
          case rel => exact ⟨i + 1, _, _, _, w6.heap.size, by omega, by go_num, HBL8, HZ7, HB7⟩
          case measure => simp [intOf]; omega
set_option maxRecDepth 100000 in
theorem spec_dig (b m : Int) (w : World) :
    Calls Try.prog 18 #[.int .i64 b, .int .i64 m] w (GivesK (dgB b m) (dgR b m) (dgO b m) (dgK b m) w) := by
  cases hk : dgK b m with
  | false => rw [← hk]; exact spec_dig_no b m w hk
  | true =>
    have h := of_decide_eq_true hk
    obtain ⟨bn, rfl⟩ : ∃ n : Nat, b = (n : Int) := ⟨b.toNat, by omega⟩
    obtain ⟨mn, rfl⟩ : ∃ n : Nat, m = (n : Int) := ⟨m.toNat, by omega⟩
    have e : dgB (bn : Int) (mn : Int) = (bn : Int) ∧ dgR (bn : Int) (mn : Int) = dgRows bn mn mn ∧ dgO (bn : Int) (mn : Int) = dgOut mn := by
      unfold dgB dgR dgO
      rw [hk]
      exact ⟨rfl, rfl, rfl⟩
    rw [e.1, e.2.1, e.2.2]
    exact spec_dig_yes bn mn w (by omega) (by omega) (by omega) (by omega)
end Comb
end Go.Proofs.Ytodnkkofammhbaa
