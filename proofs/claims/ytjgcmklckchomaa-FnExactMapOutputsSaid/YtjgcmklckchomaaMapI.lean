/- Contract of MapOutputs of the program. No conditions beyond those that it states. -/
import Derived.Test.YtjgcmklckchomaaDigI
import Derived.Test.YtjgcmklckchomaaOwnW
import Derived.Test.YtjgcmklckchomaaSeqCopy
import Derived.Test.YtjgcmklckchomaaSeqIsI
namespace Go.Proofs.Ytjgcmklckchomaa
open Go.ChangeShapes Go.WideShapes Go.ChangeAt Go.RowKit
open Go.PlainAid Plain
set_option linter.unusedVariables false
namespace Comb
open Seqs
/-- The number at the term's place in the table; whether it is a term. -/
def tabV (tab : List Int) (t : Int) : Int := tab.getD t.toNat 0
def tabB (tab : List Int) (t : Int) : Bool := decide (t < (tab.length : Int) ∧ 0 ≤ tabV tab t ∧ tabV tab t ≤ 3)
def mapK (b : Int) (rows : List (List Int)) (out tab : List Int) : Bool := seqB b rows out && out.all (tabB tab)
def mapB (b : Int) (rows : List (List Int)) (out tab : List Int) : Int := if mapK b rows out tab = true then b else 0
def mapR (b : Int) (rows : List (List Int)) (out tab : List Int) : List (List Int) := if mapK b rows out tab = true then rows else []
def mapO (b : Int) (rows : List (List Int)) (out tab : List Int) : List Int := if mapK b rows out tab = true then out.map (tabV tab) else []
theorem map_no {b : Int} {rows : List (List Int)} {out tab : List Int} (h : mapK b rows out tab = false) : mapB b rows out tab = 0 ∧ mapR b rows out tab = [] ∧ mapO b rows out tab = [] := by
  unfold mapB mapR mapO
  rw [h]
  simp
theorem map_yes {b : Int} {rows : List (List Int)} {out tab : List Int} (h : mapK b rows out tab = true) : mapB b rows out tab = b ∧ mapR b rows out tab = rows ∧ mapO b rows out tab = out.map (tabV tab) := by
  unfold mapB mapR mapO
  rw [h]
  simp
theorem map_no_seq {b : Int} {rows : List (List Int)} {out tab : List Int} (h : seqB b rows out = false) : mapK b rows out tab = false := by rw [mapK, h]; rfl
theorem map_no_term {b : Int} {rows : List (List Int)} {out tab : List Int} {i : Nat} {t : Int} (hi : out[i]? = some t) (h : tabB tab t = false) : mapK b rows out tab = false := by
  rw [mapK, Bool.and_eq_false_iff]
  refine .inr (Bool.eq_false_iff.2 fun hall => ?_)
  rw [List.all_eq_true] at hall
  rw [hall t (List.mem_of_getElem? hi)] at h
  cases h
theorem map_all {b : Int} {rows : List (List Int)} {out tab : List Int} (hq : seqB b rows out = true) (h : ∀ (j : Nat) (t : Int), out[j]? = some t → tabB tab t = true) : mapK b rows out tab = true := by
  rw [mapK, hq, Bool.true_and, List.all_eq_true]
  intro t ht
  obtain ⟨j, hj⟩ := List.getElem?_of_mem ht
  exact h j t hj
theorem map_size (b : Int) (rows : List (List Int)) (out tab : List Int) : tot (mapR b rows out tab) + (mapO b rows out tab).length ≤ 1000 := by
  cases h : mapK b rows out tab with
  | false => rw [(map_no h).2.1, (map_no h).2.2]; simp [tot]
  | true =>
    rw [(map_yes h).2.1, (map_yes h).2.2, List.length_map]
    rw [mapK, Bool.and_eq_true] at h
    have hv := seq_rows4 h.1
    have := tot_le4 _ hv.1
    omega
def mapD (out tab : List Int) (i : Nat) : List Int := (out.take i).map (tabV tab) ++ out.drop i
theorem mapD_zero (out tab : List Int) : mapD out tab 0 = out := by simp [mapD]
theorem mapD_len (out tab : List Int) (i : Nat) : (mapD out tab i).length = out.length := by simp [mapD]; omega
theorem mapD_end (out tab : List Int) : mapD out tab out.length = out.map (tabV tab) := by simp [mapD]
theorem mapD_set {out tab : List Int} {i : Nat} {t : Int} (h : out[i]? = some t) : (mapD out tab i).set i (tabV tab t) = mapD out tab (i + 1) := by
  obtain ⟨hi, rfl⟩ := List.getElem?_eq_some_iff.1 h
  have hl : ((out.take i).map (tabV tab)).length = i := by simp; omega
  unfold mapD
  rw [List.set_append_right _ _ (by omega), hl, Nat.sub_self, List.drop_eq_getElem_cons hi, List.set_cons_zero, List.take_succ_eq_append_getElem hi, List.map_append, List.append_assoc]
  rfl
theorem old_cell' {w w' : World} {p o : Nat} {u : Value} (hb : Below w.heap.size w w') (h : w.cell? ⟨p, o, none⟩ = some u) : w'.cell? ⟨p, o, none⟩ = some u := (hb.cell (p := ⟨p, o, none⟩) (World.block_lt_of_cell? w _ h)).trans h
set_option maxRecDepth 100000 in
set_option maxHeartbeats 2000000 in
theorem impl_map (v : Value) (b : Int) (rows : List (List Int)) (out : List Int) (w : World) (h : LiesS w v b rows out) (tv : Value) (tab : List Int) (ht : Lies (Value.int .i64) w tv tab) (hs : rows.length + tot rows + out.length ≤ 1048576) :
    Calls Try.prog 18 #[v, tv] w (GivesK (mapB b rows out tab) (mapR b rows out tab) (mapO b rows out tab) (mapK b rows out tab) w) := by
  obtain ⟨yb, hyb⟩ : ∃ y, y = mapB b rows out tab := ⟨_, rfl⟩
  obtain ⟨yr, hyr⟩ : ∃ y, y = mapR b rows out tab := ⟨_, rfl⟩
  obtain ⟨yo, hyo⟩ : ∃ y, y = mapO b rows out tab := ⟨_, rfl⟩
  obtain ⟨yk, hyk⟩ : ∃ y, y = mapK b rows out tab := ⟨_, rfl⟩
  have HYE := Lib.hid (show yb = mapB b rows out tab ∧ yr = mapR b rows out tab ∧ yo = mapO b rows out tab ∧ yk = mapK b rows out tab from ⟨hyb, hyr, hyo, hyk⟩)
  rw [← hyb, ← hyr, ← hyo, ← hyk]
  clear hyb hyr hyo hyk
  have HS := Lib.hid h
  obtain ⟨an, cn, ao, co, rfl⟩ := h.form
  clear h
  have HB : Hid (Below w.heap.size w (w.alloc (Obj.cells #[Value.int .i64 b, Value.slice an rows.length cn, Value.slice ao out.length co] 27))) := (Below.refl _ _).alloc (Nat.le_refl _) _
  have HC := Lib.hid (Cells3.new w 27 (.int .i64 b) (.slice an rows.length cn) (.slice ao out.length co))
  have HT := Lib.hid ht
  obtain ⟨_, ta, tc, rfl, _, _⟩ := ht
  have HB1 := Lib.hid (HB.out.alloc (by simp only [size_alloc'] <;> omega) (Obj.cells #[Value.int .i64 0, Value.slice none 0 0, Value.slice none 0 0] 27))
  have HC1 := Lib.hid (HC.out.alloc (Obj.cells #[Value.int .i64 0, Value.slice none 0 0, Value.slice none 0 0] 27))
  have hZ := Cells3.new (w.alloc (Obj.cells #[Value.int .i64 b, Value.slice an rows.length cn, Value.slice ao out.length co] 27)) 27 (.int .i64 0) (.slice none 0 0) (.slice none 0 0)
  rw [size_alloc'] at hZ
  have HZ1 := Lib.hid hZ
  have HSZ := Lib.hid hs
  clear hZ HB HC hs
  have k0 := HC1.out.c0
  have k1 := HC1.out.c1
  have k2 := HC1.out.c2
  cases hq : seqB b rows out with
  | false =>
    have hk := map_no_seq (tab := tab) hq
    have HN := Lib.hid (map_no hk)
    have hy := HYE.out
    rw [HN.out.1, HN.out.2.1, HN.out.2.2, hk] at hy
    obtain ⟨rfl, rfl, rfl, rfl⟩ := hy
    have HCQ := Lib.hid (fun (W : World) (hW : Below w.heap.size w W) => impl_is _ b rows out W (HS.out.below hW))
    rw [hq] at HCQ
    clear hk hq
    go_enter Try.func18, Try.ntmps18
    go_wp2_with fail
    refine (HCQ.out _ HB1.out).mono ?_
    rintro e W1 ⟨rfl, b1⟩
    have HBR := Lib.hid (HB1.out.trans (b1.mono HB1.out.size))
    have HZR := Lib.hid (HZ1.out.below b1)
    clear b1 k0 k1 k2
    obtain ⟨z0, z1, z2⟩ := (⟨HZR.out.c0, HZR.out.c1, HZR.out.c2⟩ : _ ∧ _ ∧ _)
    have z3 := HZR.out.f
    go_wp2
    have hZ3 := (((HZR.out.set0 (.int .i64 0)).set1 (.slice none 0 0)).set2 (.slice none 0 0))
    have n0 := hZ3.c0
    have n1 := hZ3.c1
    have n2 := hZ3.c2
    refine bodyPost_ret (v := .tuple #[.agg #[.int .i64 0, .slice none 0 0, .slice none 0 0], .bool false]) (by simp [results, Try.results18, go_sem, n0, n1, n2]) rfl ⟨_, rfl, OwnS.zero _, ?_⟩
    exact ((HBR.out.setCell (Nat.le_succ _) _).setCell (Nat.le_succ _) _).setCell (Nat.le_succ _) _
  | true =>
    have HQ := Lib.hid hq
    have HCQ := Lib.hid (fun (W : World) (hW : Below w.heap.size w W) => impl_is _ b rows out W (HS.out.below hW))
    rw [hq] at HCQ
    clear hq
    go_enter Try.func18, Try.ntmps18
    go_wp2_with fail
    refine (HCQ.out _ HB1.out).mono ?_
    rintro e W1 ⟨rfl, b1⟩
    have HB2 := Lib.hid (HB1.out.trans (b1.mono HB1.out.size))
    have HZ2 := Lib.hid (HZ1.out.below b1)
    have HC2 := Lib.hid (HC1.out.below b1)
    clear b1 k0 k1 k2 HB1 HZ1 HC1
    have k0 := HC2.out.c0
    have k1 := HC2.out.c1
    have k2 := HC2.out.c2
    go_wp2_with fail
    refine (impl_copied _ b rows out _ (HS.out.below HB2.out) HSZ.out).mono ?_
    rintro e W2 ⟨vm, rfl, hm, b2⟩
    obtain ⟨ma, mc, oa, oc, rfl⟩ := hm.form
    have HB3 := Lib.hid (HB2.out.trans (b2.mono HB2.out.size))
    have HZ3 := Lib.hid (HZ2.out.below b2)
    have HC3 := Lib.hid (HC2.out.below b2)
    have HLO : Hid (w.heap.size + 2 ≤ W1.heap.size) := by have := HZ2.out.lt; show _ ≤ _; omega
    have hbx : Below W2.heap.size W2 (W2.alloc (.cells #[.int .i64 b, .slice ma rows.length mc, .slice oa out.length oc] 27)) := (Below.refl _ _).alloc (Nat.le_refl _) _
    have HM := Lib.hid (hm.below hbx)
    have HX := Lib.hid (Cells3.new W2 27 (.int .i64 b) (.slice ma rows.length mc) (.slice oa out.length oc))
    have HB4 := Lib.hid (HB3.out.trans (hbx.mono HB3.out.size))
    have HZ4 := Lib.hid (HZ3.out.below hbx)
    have HC4 := Lib.hid (HC3.out.below hbx)
    clear hm b2 k0 k1 k2 HB2 HZ2 HC2 HB3 HZ3 HC3
    have k0 := HC4.out.c0
    have k1 := HC4.out.c1
    have k2 := HC4.out.c2
    go_wp2
    obtain ⟨W3, hW3⟩ : ∃ W, W = W2.alloc (.cells #[.int .i64 b, .slice ma rows.length mc, .slice oa out.length oc] 27) := ⟨_, rfl⟩
    rw [← hW3] at HM HX HB4 HZ4 HC4 ⊢
    obtain ⟨p, hp⟩ : ∃ p, p = W2.heap.size := ⟨_, rfl⟩
    rw [← hp] at HX HM ⊢
    obtain ⟨lo, hlo⟩ : ∃ lo, lo = W1.heap.size := ⟨_, rfl⟩
    rw [← hlo] at HM HLO
    have hM : Hid (OwnS W3 lo p (.agg #[.int .i64 b, .slice ma rows.length mc, .slice oa out.length oc]) b rows (mapD out tab 0)) := by rw [mapD_zero]; exact HM.out
    have hX := HX
    have hZ := HZ4
    have hB := HB4
    clear hW3 hbx hp hlo k0 k1 k2 HM HX HB4 HZ4 HC4
    have hA : Hid (∀ (j : Nat) (t : Int), j < 0 → out[j]? = some t → tabB tab t = true) := fun j t h => by omega
    go_loopw [18] (fun i' wr => ∃ i : Nat, i ≤ out.length ∧ i' = .int .i64 i ∧ Hid (OwnS wr lo p (.agg #[.int .i64 b, .slice ma rows.length mc, .slice oa out.length oc]) b rows (mapD out tab i)) ∧ Hid (Cells3 wr p 27 (.int .i64 b) (.slice ma rows.length mc) (.slice oa out.length oc)) ∧ Hid (Cells3 wr (w.heap.size + 1) 27 (.int .i64 0) (.slice none 0 0) (.slice none 0 0)) ∧ Hid (Below w.heap.size w wr) ∧ Hid (∀ (j : Nat) (t : Int), j < i → out[j]? = some t → tabB tab t = true)) (fun i' _ => out.length - (intOf i').toNat)
    case atStart => exact ⟨0, Nat.zero_le _, rfl, hM, hX, hZ, hB, hA⟩
    case round =>
      clear hM hX hZ hB hA
      obtain ⟨i, hil, rfl, hM, hX, HZR, HBR, hA⟩ := hrel
      obtain ⟨W4, rfl⟩ : ∃ W : World, W = wr := ⟨_, rfl⟩
      by_cases hlt : i < out.length
      case neg =>
        obtain rfl : i = out.length := by omega
        have hk := map_all HQ.out (fun j t hj => hA.out j t (List.getElem?_eq_some_iff.1 hj).1 hj)
        have HY := Lib.hid (map_yes hk)
        have hy := HYE.out
        rw [HY.out.1, HY.out.2.1, HY.out.2.2, hk] at hy
        obtain ⟨e1, e2, e3, e4⟩ := hy
        have e1' := e1.symm
        have e2' := e2.symm
        subst e1' e2' e3 e4
        have HW : Hid (OwnS W4 lo p (.agg #[.int .i64 b, .slice ma rows.length mc, .slice oa out.length oc]) b rows (out.map (tabV tab))) := by
          have h1 := hM.out
          rw [mapD_end] at h1
          exact h1
        have m0 := hX.out.c0
        have m1 := hX.out.c1
        have m2 := hX.out.c2
        have z0 := HZR.out.c0
        have z1 := HZR.out.c1
        have z2 := HZR.out.c2
        have z3 := HZR.out.f
        have hxp := hX.out.lt
        clear hk hM hA
        go_wp2
        have hZ3 := (((HZR.out.set0 (.int .i64 b)).set1 (.slice ma rows.length mc)).set2 (.slice oa out.length oc))
        have n0 := hZ3.c0
        have n1 := hZ3.c1
        have n2 := hZ3.c2
        refine bodyPost_ret (v := .tuple #[.agg #[.int .i64 b, .slice ma rows.length mc, .slice oa out.length oc], .bool true]) (by simp [results, Try.results18, go_sem, n0, n1, n2]) rfl ⟨_, rfl, ?_, ?_⟩
        · have hT : ∀ (i : Nat) (u : Value) (W : World), Plain.Touch (w.heap.size + 1) (w.heap.size + 2) W (W.setCell ⟨w.heap.size + 1, i, none⟩ u) := fun i u W => Plain.Touch.of_set (a := ⟨w.heap.size + 1, i, none⟩) u (Nat.le_refl _) (Nat.lt_succ_self _)
          have T0 : Plain.Touch (w.heap.size + 1) (w.heap.size + 2) W4 (((W4.setCell ⟨w.heap.size + 1, 0, none⟩ (.int .i64 b)).setCell ⟨w.heap.size + 1, 1, none⟩ (.slice ma rows.length mc)).setCell ⟨w.heap.size + 1, 2, none⟩ (.slice oa out.length oc)) := ((hT 0 _ _).trans (hT 1 _ _)).trans (hT 2 _ _)
          have h1 := (HW.out.touch T0 (.inr HLO.out)).lower (show w.heap.size ≤ lo by have := HLO.out; omega)
          have h2 := own_wide h1 (hi' := (((W4.setCell ⟨w.heap.size + 1, 0, none⟩ (.int .i64 b)).setCell ⟨w.heap.size + 1, 1, none⟩ (.slice ma rows.length mc)).setCell ⟨w.heap.size + 1, 2, none⟩ (.slice oa out.length oc)).heap.size) (by rw [size_setCell', size_setCell', size_setCell']; omega) (Nat.le_refl _)
          exact h2
        · exact ((HBR.out.setCell (Nat.le_succ _) _).setCell (Nat.le_succ _) _).setCell (Nat.le_succ _) _
      case pos =>
        obtain ⟨t, ht⟩ : ∃ t, out[i]? = some t := ⟨_, List.getElem?_eq_getElem hlt⟩
        have ht0 := (seqB_out HQ.out).2.2.2.2.2.2 t (List.mem_of_getElem? ht)
        obtain ⟨tn, rfl⟩ : ∃ n : Nat, t = (n : Int) := ⟨t.toNat, by omega⟩
        obtain ⟨oq, os, hoe, ho1⟩ := HS.out.cells.2 i _ ht
        have ho2 := old_cell' HBR.out ho1
        subst hoe
        have HTI := Lib.hid ht
        have hii0 : (0 : Int) ≤ (i : Int) := Int.natCast_nonneg _
        have hol16 : out.length ≤ 16 := (seq_rows4 HQ.out).2.2
        have hiL : (i : Int) < (out.length : Int) := by omega
        have htn0 : (0 : Int) ≤ (tn : Int) := Int.natCast_nonneg _
        clear ht ht0 ho1
        by_cases hx : tn < tab.length
        case neg =>
          have hk : mapK b rows out tab = false := map_no_term HTI.out (decide_eq_false fun h => hx (by have := h.1; omega))
          have hd : decide (tab.length ≤ tn) = true := decide_eq_true (by omega)
          have HN := Lib.hid (map_no hk)
          have hy := HYE.out
          rw [HN.out.1, HN.out.2.1, HN.out.2.2, hk] at hy
          obtain ⟨rfl, rfl, rfl, rfl⟩ := hy
          clear hk hM hA hX hx
          obtain ⟨z0, z1, z2⟩ := (⟨HZR.out.c0, HZR.out.c1, HZR.out.c2⟩ : _ ∧ _ ∧ _)
          have z3 := HZR.out.f
          go_wp2
          have hZ3 := (((HZR.out.set0 (.int .i64 0)).set1 (.slice none 0 0)).set2 (.slice none 0 0))
          have n0 := hZ3.c0
          have n1 := hZ3.c1
          have n2 := hZ3.c2
          refine bodyPost_ret (v := .tuple #[.agg #[.int .i64 0, .slice none 0 0, .slice none 0 0], .bool false]) (by simp [results, Try.results18, go_sem, n0, n1, n2]) rfl ⟨_, rfl, OwnS.zero _, ?_⟩
          exact ((HBR.out.setCell (Nat.le_succ _) _).setCell (Nat.le_succ _) _).setCell (Nat.le_succ _) _
        case pos =>
          have hd : decide (tab.length ≤ tn) = false := decide_eq_false (by omega)
          obtain ⟨x, hxv⟩ : ∃ x, tab[tn]? = some x := ⟨_, List.getElem?_eq_getElem hx⟩
          have HXV : Hid (tabV tab (tn : Int) = x) := by show _ = _; rw [tabV, Int.toNat_natCast, List.getD_eq_getElem?_getD, hxv]; rfl
          obtain ⟨_, ta', tc', he, _, htc⟩ := HT.out
          injection he with he1 he2 he3
          subst he1; subst he3
          obtain ⟨tq, ts, hte, ht1⟩ := htc tn x hxv
          have ht2 := old_cell' HBR.out ht1
          subst hte
          have htL : (tn : Int) < (tab.length : Int) := by omega
          clear hxv htc ht1 he2
          by_cases hin : 0 ≤ x ∧ x ≤ 3
          case neg =>
            have hk : mapK b rows out tab = false := map_no_term HTI.out (decide_eq_false fun h => hin (by rw [← HXV.out]; exact h.2))
            have HX3 := Lib.hid (show x < 0 ∨ 3 < x by omega)
            have HN := Lib.hid (map_no hk)
            have hy := HYE.out
            rw [HN.out.1, HN.out.2.1, HN.out.2.2, hk] at hy
            obtain ⟨rfl, rfl, rfl, rfl⟩ := hy
            clear hk hM hA hX hin
            go_wp2_with fail
            refine (term_no _ _ HX3.out).mono ?_
            rintro e w' ⟨rfl, rfl⟩
            obtain ⟨z0, z1, z2⟩ := (⟨HZR.out.c0, HZR.out.c1, HZR.out.c2⟩ : _ ∧ _ ∧ _)
            have z3 := HZR.out.f
            go_wp2
            have hZ3 := (((HZR.out.set0 (.int .i64 0)).set1 (.slice none 0 0)).set2 (.slice none 0 0))
            have n0 := hZ3.c0
            have n1 := hZ3.c1
            have n2 := hZ3.c2
            refine bodyPost_ret (v := .tuple #[.agg #[.int .i64 0, .slice none 0 0, .slice none 0 0], .bool false]) (by simp [results, Try.results18, go_sem, n0, n1, n2]) rfl ⟨_, rfl, OwnS.zero _, ?_⟩
            exact ((HBR.out.setCell (Nat.le_succ _) _).setCell (Nat.le_succ _) _).setCell (Nat.le_succ _) _
          case pos =>
            have HIN := Lib.hid hin
            have HA2 : Hid (∀ (j : Nat) (t : Int), j < i + 1 → out[j]? = some t → tabB tab t = true) := fun j t hj hjt => by
              by_cases e : j = i
              · subst e
                obtain rfl := Option.some.inj (HTI.out.symm.trans hjt)
                exact decide_eq_true ⟨htL, by rw [HXV.out]; exact HIN.out⟩
              · exact hA.out j t (by omega) hjt
            have hML := hM.out
            obtain ⟨dl, hdl⟩ : ∃ dl, dl = mapD out tab i := ⟨_, rfl⟩
            rw [← hdl] at hML
            have hdn : dl.length = out.length := by rw [hdl, mapD_len]
            rw [← hdn] at hML
            obtain ⟨g, hge, hgl, hgh, gf, ⟨gy, gc⟩, hwr⟩ := own_outj hML i (by omega)
            subst hge
            have hST := hwr x
            have HST : Hid (OwnS (W4.setCell ⟨g, i, none⟩ (.int .i64 x)) lo p (.agg #[.int .i64 b, .slice ma rows.length mc, .slice (some ⟨g, 0, none⟩) out.length oc]) b rows (mapD out tab (i + 1))) := by
              rw [hdn, hdl, ← HXV.out, mapD_set HTI.out] at hST
              exact HXV.out ▸ hST
            have m0 := hX.out.c0
            have m1 := hX.out.c1
            have m2 := hX.out.c2
            have hgp : g ≠ p := by omega
            have hgz : g ≠ w.heap.size + 1 := by have := HLO.out; omega
            have HX5 := Lib.hid (hX.out.other (a := ⟨g, i, none⟩) hgp (.int .i64 x))
            have HZ5 := Lib.hid (HZR.out.other (a := ⟨g, i, none⟩) hgz (.int .i64 x))
            have HB5 : Hid (Below w.heap.size w (W4.setCell ⟨g, i, none⟩ (.int .i64 x))) := HBR.out.setCell (by have := HLO.out; show _ ≤ g; omega) _
            clear hM hA hML hdl hwr hST hX HZR HBR hin hdn
            go_wp2_with fail
            refine (term_yes _ _ HIN.out.1 HIN.out.2).mono ?_
            rintro e w' ⟨rfl, rfl⟩
            go_wp2_with fail
            go_region_law (fail)
            all_goals
              go_wp2
              go_roundw
              case rel => exact ⟨i + 1, by omega, by go_num, HST.out.below (below_drew' _), HX5.out.below (below_drew' _), HZ5.out.below (below_drew' _), HB5.out.trans ((below_drew' _).mono HB5.out.size), HA2⟩
              case measure => simp [intOf]; omega
end Comb
end Go.Proofs.Ytjgcmklckchomaa
