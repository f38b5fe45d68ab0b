/- Several texts of this proof, one behind the other: each says ahead of it what it shows and under which conditions. -/
import Derived.Test.YtodnkkofammhbaaCM5
import Derived.Test.YtodnkkofammhbaaCM1
import Derived.Test.YtodnkkofammhbaaCM4
import Derived.Test.YtodnkkofammhbaaCM3
import Derived.Test.YtodnkkofammhbaaCM6
import Derived.Deep.RegionHeld3
/- Contract of MapOutputs of the program. No conditions beyond those that it states. -/
namespace Go.Proofs.Ytodnkkofammhbaa
open Go.ChangeShapes Go.WideShapes Go.ChangeAt Go.RowKit
open Go.PlainAid Plain
set_option linter.unusedVariables false
namespace Comb
open Seqs
/-- The number at the term's place in the table; whether it is a term. -/
def tabV (tab : List Int) (t : Int) : Int := tab.getD t.toNat 0
def tabB (tab : List Int) (t : Int) : Bool := decide (t < (tab.length : Int) ∧ 0 ≤ tabV tab t ∧ tabV tab t ≤ 3)
def mapK (b : Int) (rows : List (List Int)) (out tab : List Int) : Bool := seqB b rows out && out.all (tabB tab)
def mapB (b : Int) (rows : List (List Int)) (out tab : List Int) : Int := if mapK b rows out tab = true then b else 0
def mapR (b : Int) (rows : List (List Int)) (out tab : List Int) : List (List Int) := if mapK b rows out tab = true then rows else []
def mapO (b : Int) (rows : List (List Int)) (out tab : List Int) : List Int := if mapK b rows out tab = true then out.map (tabV tab) else []
theorem map_no {b : Int} {rows : List (List Int)} {out tab : List Int} (h : mapK b rows out tab = false) : mapB b rows out tab = 0 ∧ mapR b rows out tab = [] ∧ mapO b rows out tab = [] := by
  unfold mapB mapR mapO
  rw [h]
  simp
theorem map_yes {b : Int} {rows : List (List Int)} {out tab : List Int} (h : mapK b rows out tab = true) : mapB b rows out tab = b ∧ mapR b rows out tab = rows ∧ mapO b rows out tab = out.map (tabV tab) := by
  unfold mapB mapR mapO
  rw [h]
  simp
theorem map_no_seq {b : Int} {rows : List (List Int)} {out tab : List Int} (h : seqB b rows out = false) : mapK b rows out tab = false := by rw [mapK, h]; rfl
theorem map_no_term {b : Int} {rows : List (List Int)} {out tab : List Int} {i : Nat} {t : Int} (hi : out[i]? = some t) (h : tabB tab t = false) : mapK b rows out tab = false := by
  rw [mapK, Bool.and_eq_false_iff]
  refine .inr (Bool.eq_false_iff.2 fun hall => ?_)
  rw [List.all_eq_true] at hall
  rw [hall t (List.mem_of_getElem? hi)] at h
  cases h
theorem map_all {b : Int} {rows : List (List Int)} {out tab : List Int} (hq : seqB b rows out = true) (h : ∀ (j : Nat) (t : Int), out[j]? = some t → tabB tab t = true) : mapK b rows out tab = true := by
  rw [mapK, hq, Bool.true_and, List.all_eq_true]
  intro t ht
  obtain ⟨j, hj⟩ := List.getElem?_of_mem ht
  exact h j t hj
theorem map_size (b : Int) (rows : List (List Int)) (out tab : List Int) : tot (mapR b rows out tab) + (mapO b rows out tab).length ≤ 1000 := by
  cases h : mapK b rows out tab with
  | false => rw [(map_no h).2.1, (map_no h).2.2]; simp [tot]
  | true =>
    rw [(map_yes h).2.1, (map_yes h).2.2, List.length_map]
    rw [mapK, Bool.and_eq_true] at h
    have hv := seq_rows4 h.1
    have := tot_le4 _ hv.1
    omega
def mapD (out tab : List Int) (i : Nat) : List Int := (out.take i).map (tabV tab) ++ out.drop i
theorem mapD_zero (out tab : List Int) : mapD out tab 0 = out := by simp [mapD]
theorem mapD_len (out tab : List Int) (i : Nat) : (mapD out tab i).length = out.length := by simp [mapD]; omega
theorem mapD_end (out tab : List Int) : mapD out tab out.length = out.map (tabV tab) := by simp [mapD]
theorem mapD_set {out tab : List Int} {i : Nat} {t : Int} (h : out[i]? = some t) : (mapD out tab i).set i (tabV tab t) = mapD out tab (i + 1) := by
  obtain ⟨hi, rfl⟩ := List.getElem?_eq_some_iff.1 h
  have hl : ((out.take i).map (tabV tab)).length = i := by simp; omega
  unfold mapD
  rw [List.set_append_right _ _ (by omega), hl, Nat.sub_self, List.drop_eq_getElem_cons hi, List.set_cons_zero, List.take_succ_eq_append_getElem hi, List.map_append, List.append_assoc]
  rfl
theorem old_cell' {w w' : World} {p o : Nat} {u : Value} (hb : Below w.heap.size w w') (h : w.cell? ⟨p, o, none⟩ = some u) : w'.cell? ⟨p, o, none⟩ = some u := (hb.cell (p := ⟨p, o, none⟩) (World.block_lt_of_cell? w _ h)).trans h
set_option maxRecDepth 100000 in
set_option maxHeartbeats 2000000 in
theorem impl_map (v : Value) (b : Int) (rows : List (List Int)) (out : List Int) (w : World) (h : LiesS w v b rows out) (tv : Value) (tab : List Int) (ht : Lies (Value.int .i64) w tv tab) (hs : rows.length + tot rows + out.length ≤ 1048576) :
    Calls Try.prog 21 #[v, tv] w (GivesK (mapB b rows out tab) (mapR b rows out tab) (mapO b rows out tab) (mapK b rows out tab) w) := by
  obtain ⟨yb, hyb⟩ : ∃ y, y = mapB b rows out tab := ⟨_, rfl⟩
  obtain ⟨yr, hyr⟩ : ∃ y, y = mapR b rows out tab := ⟨_, rfl⟩
  obtain ⟨yo, hyo⟩ : ∃ y, y = mapO b rows out tab := ⟨_, rfl⟩
  obtain ⟨yk, hyk⟩ : ∃ y, y = mapK b rows out tab := ⟨_, rfl⟩
  have HYE := Lib.hid (show yb = mapB b rows out tab ∧ yr = mapR b rows out tab ∧ yo = mapO b rows out tab ∧ yk = mapK b rows out tab from ⟨hyb, hyr, hyo, hyk⟩)
  rw [← hyb, ← hyr, ← hyo, ← hyk]
  clear hyb hyr hyo hyk
  have HS := Lib.hid h
  obtain ⟨an, cn, ao, co, rfl⟩ := h.form
  clear h
  have HB : Hid (Below w.heap.size w (w.alloc (Obj.cells #[Value.int .i64 b, Value.slice an rows.length cn, Value.slice ao out.length co] 27))) := (Below.refl _ _).alloc (Nat.le_refl _) _
  have HC := Lib.hid (Cells3.new w 27 (.int .i64 b) (.slice an rows.length cn) (.slice ao out.length co))
  have HT := Lib.hid ht
  obtain ⟨_, ta, tc, rfl, _, _⟩ := ht
  have HB1 := Lib.hid (HB.out.alloc (by simp only [size_alloc'] <;> omega) (Obj.cells #[Value.int .i64 0, Value.slice none 0 0, Value.slice none 0 0] 27))
  have HC1 := Lib.hid (HC.out.alloc (Obj.cells #[Value.int .i64 0, Value.slice none 0 0, Value.slice none 0 0] 27))
  have hZ := Cells3.new (w.alloc (Obj.cells #[Value.int .i64 b, Value.slice an rows.length cn, Value.slice ao out.length co] 27)) 27 (.int .i64 0) (.slice none 0 0) (.slice none 0 0)
  rw [size_alloc'] at hZ
  have HZ1 := Lib.hid hZ
  have HSZ := Lib.hid hs
  clear hZ HB HC hs
  have k0 := HC1.out.c0
  have k1 := HC1.out.c1
  have k2 := HC1.out.c2
  cases hq : seqB b rows out with
  | false =>
    have hk := map_no_seq (tab := tab) hq
    have HN := Lib.hid (map_no hk)
    have hy := HYE.out
    rw [HN.out.1, HN.out.2.1, HN.out.2.2, hk] at hy
    obtain ⟨rfl, rfl, rfl, rfl⟩ := hy
    have HCQ := Lib.hid (fun (W : World) (hW : Below w.heap.size w W) => impl_is _ b rows out W (HS.out.below hW))
    rw [hq] at HCQ
    clear hk hq
    go_enter Try.func21, Try.ntmps21
    go_wp2_with fail
    refine (HCQ.out _ HB1.out).mono ?_
    rintro e W1 ⟨rfl, b1⟩
    have HBR := Lib.hid (HB1.out.trans (b1.mono HB1.out.size))
    have HZR := Lib.hid (HZ1.out.below b1)
    clear b1 k0 k1 k2
    obtain ⟨z0, z1, z2⟩ := (⟨HZR.out.c0, HZR.out.c1, HZR.out.c2⟩ : _ ∧ _ ∧ _)
    have z3 := HZR.out.f
    go_wp2
    have hZ3 := (((HZR.out.set0 (.int .i64 0)).set1 (.slice none 0 0)).set2 (.slice none 0 0))
    have n0 := hZ3.c0
    have n1 := hZ3.c1
    have n2 := hZ3.c2
    refine bodyPost_ret (v := .tuple #[.agg #[.int .i64 0, .slice none 0 0, .slice none 0 0], .bool false]) (by simp [results, Try.results21, go_sem, n0, n1, n2]) rfl ⟨_, rfl, OwnS.zero _, ?_⟩
    exact ((HBR.out.setCell (Nat.le_succ _) _).setCell (Nat.le_succ _) _).setCell (Nat.le_succ _) _
  | true =>
    have HQ := Lib.hid hq
    have HCQ := Lib.hid (fun (W : World) (hW : Below w.heap.size w W) => impl_is _ b rows out W (HS.out.below hW))
    rw [hq] at HCQ
    clear hq
    go_enter Try.func21, Try.ntmps21
    go_wp2_with fail
    refine (HCQ.out _ HB1.out).mono ?_
    rintro e W1 ⟨rfl, b1⟩
    have HB2 := Lib.hid (HB1.out.trans (b1.mono HB1.out.size))
    have HZ2 := Lib.hid (HZ1.out.below b1)
    have HC2 := Lib.hid (HC1.out.below b1)
    clear b1 k0 k1 k2 HB1 HZ1 HC1
    have k0 := HC2.out.c0
    have k1 := HC2.out.c1
    have k2 := HC2.out.c2
    go_wp2_with fail
    refine (impl_copied _ b rows out _ (HS.out.below HB2.out) HSZ.out).mono ?_
    rintro e W2 ⟨vm, rfl, hm, b2⟩
    obtain ⟨ma, mc, oa, oc, rfl⟩ := hm.form
    have HB3 := Lib.hid (HB2.out.trans (b2.mono HB2.out.size))
    have HZ3 := Lib.hid (HZ2.out.below b2)
    have HC3 := Lib.hid (HC2.out.below b2)
    have HLO : Hid (w.heap.size + 2 ≤ W1.heap.size) := by have := HZ2.out.lt; show _ ≤ _; omega
    have hbx : Below W2.heap.size W2 (W2.alloc (.cells #[.int .i64 b, .slice ma rows.length mc, .slice oa out.length oc] 27)) := (Below.refl _ _).alloc (Nat.le_refl _) _
    have HM := Lib.hid (hm.below hbx)
    have HX := Lib.hid (Cells3.new W2 27 (.int .i64 b) (.slice ma rows.length mc) (.slice oa out.length oc))
    have HB4 := Lib.hid (HB3.out.trans (hbx.mono HB3.out.size))
    have HZ4 := Lib.hid (HZ3.out.below hbx)
    have HC4 := Lib.hid (HC3.out.below hbx)
    clear hm b2 k0 k1 k2 HB2 HZ2 HC2 HB3 HZ3 HC3
    have k0 := HC4.out.c0
    have k1 := HC4.out.c1
    have k2 := HC4.out.c2
    go_wp2
    obtain ⟨W3, hW3⟩ : ∃ W, W = W2.alloc (.cells #[.int .i64 b, .slice ma rows.length mc, .slice oa out.length oc] 27) := ⟨_, rfl⟩
    rw [← hW3] at HM HX HB4 HZ4 HC4 ⊢
    obtain ⟨p, hp⟩ : ∃ p, p = W2.heap.size := ⟨_, rfl⟩
    rw [← hp] at HX HM ⊢
    obtain ⟨lo, hlo⟩ : ∃ lo, lo = W1.heap.size := ⟨_, rfl⟩
    rw [← hlo] at HM HLO
    have hM : Hid (OwnS W3 lo p (.agg #[.int .i64 b, .slice ma rows.length mc, .slice oa out.length oc]) b rows (mapD out tab 0)) := by rw [mapD_zero]; exact HM.out
    have hX := HX
    have hZ := HZ4
    have hB := HB4
    clear hW3 hbx hp hlo k0 k1 k2 HM HX HB4 HZ4 HC4
    have hA : Hid (∀ (j : Nat) (t : Int), j < 0 → out[j]? = some t → tabB tab t = true) := fun j t h => by omega
    go_loopw [18] (fun i' wr => ∃ i : Nat, i ≤ out.length ∧ i' = .int .i64 i ∧ Hid (OwnS wr lo p (.agg #[.int .i64 b, .slice ma rows.length mc, .slice oa out.length oc]) b rows (mapD out tab i)) ∧ Hid (Cells3 wr p 27 (.int .i64 b) (.slice ma rows.length mc) (.slice oa out.length oc)) ∧ Hid (Cells3 wr (w.heap.size + 1) 27 (.int .i64 0) (.slice none 0 0) (.slice none 0 0)) ∧ Hid (Below w.heap.size w wr) ∧ Hid (∀ (j : Nat) (t : Int), j < i → out[j]? = some t → tabB tab t = true)) (fun i' _ => out.length - (intOf i').toNat)
    case atStart => exact ⟨0, Nat.zero_le _, rfl, hM, hX, hZ, hB, hA⟩
    case round =>
      clear hM hX hZ hB hA
      obtain ⟨i, hil, rfl, hM, hX, HZR, HBR, hA⟩ := hrel
      obtain ⟨W4, rfl⟩ : ∃ W : World, W = wr := ⟨_, rfl⟩
      by_cases hlt : i < out.length
      case neg =>
        obtain rfl : i = out.length := by omega
        have hk := map_all HQ.out (fun j t hj => hA.out j t (List.getElem?_eq_some_iff.1 hj).1 hj)
        have HY := Lib.hid (map_yes hk)
        have hy := HYE.out
        rw [HY.out.1, HY.out.2.1, HY.out.2.2, hk] at hy
        obtain ⟨e1, e2, e3, e4⟩ := hy
        have e1' := e1.symm
        have e2' := e2.symm
        subst e1' e2' e3 e4
        have HW : Hid (OwnS W4 lo p (.agg #[.int .i64 b, .slice ma rows.length mc, .slice oa out.length oc]) b rows (out.map (tabV tab))) := by
          have h1 := hM.out
          rw [mapD_end] at h1
          exact h1
        have m0 := hX.out.c0
        have m1 := hX.out.c1
        have m2 := hX.out.c2
        have z0 := HZR.out.c0
        have z1 := HZR.out.c1
        have z2 := HZR.out.c2
        have z3 := HZR.out.f
        have hxp := hX.out.lt
        clear hk hM hA
        go_wp2
        have hZ3 := (((HZR.out.set0 (.int .i64 b)).set1 (.slice ma rows.length mc)).set2 (.slice oa out.length oc))
        have n0 := hZ3.c0
        have n1 := hZ3.c1
        have n2 := hZ3.c2
        refine bodyPost_ret (v := .tuple #[.agg #[.int .i64 b, .slice ma rows.length mc, .slice oa out.length oc], .bool true]) (by simp [results, Try.results21, go_sem, n0, n1, n2]) rfl ⟨_, rfl, ?_, ?_⟩
        · have hT : ∀ (i : Nat) (u : Value) (W : World), Plain.Touch (w.heap.size + 1) (w.heap.size + 2) W (W.setCell ⟨w.heap.size + 1, i, none⟩ u) := fun i u W => Plain.Touch.of_set (a := ⟨w.heap.size + 1, i, none⟩) u (Nat.le_refl _) (Nat.lt_succ_self _)
          have T0 : Plain.Touch (w.heap.size + 1) (w.heap.size + 2) W4 (((W4.setCell ⟨w.heap.size + 1, 0, none⟩ (.int .i64 b)).setCell ⟨w.heap.size + 1, 1, none⟩ (.slice ma rows.length mc)).setCell ⟨w.heap.size + 1, 2, none⟩ (.slice oa out.length oc)) := ((hT 0 _ _).trans (hT 1 _ _)).trans (hT 2 _ _)
          have h1 := (HW.out.touch T0 (.inr HLO.out)).lower (show w.heap.size ≤ lo by have := HLO.out; omega)
          have h2 := own_wide h1 (hi' := (((W4.setCell ⟨w.heap.size + 1, 0, none⟩ (.int .i64 b)).setCell ⟨w.heap.size + 1, 1, none⟩ (.slice ma rows.length mc)).setCell ⟨w.heap.size + 1, 2, none⟩ (.slice oa out.length oc)).heap.size) (by rw [size_setCell', size_setCell', size_setCell']; omega) (Nat.le_refl _)
          exact h2
        · exact ((HBR.out.setCell (Nat.le_succ _) _).setCell (Nat.le_succ _) _).setCell (Nat.le_succ _) _
      case pos =>
        obtain ⟨t, ht⟩ : ∃ t, out[i]? = some t := ⟨_, List.getElem?_eq_getElem hlt⟩
        have ht0 := (seqB_out HQ.out).2.2.2.2.2.2 t (List.mem_of_getElem? ht)
        obtain ⟨tn, rfl⟩ : ∃ n : Nat, t = (n : Int) := ⟨t.toNat, by omega⟩
        obtain ⟨oq, os, hoe, ho1⟩ := HS.out.cells.2 i _ ht
        have ho2 := old_cell' HBR.out ho1
        subst hoe
        have HTI := Lib.hid ht
        have hii0 : (0 : Int) ≤ (i : Int) := Int.natCast_nonneg _
        have hol16 : out.length ≤ 16 := (seq_rows4 HQ.out).2.2
        have hiL : (i : Int) < (out.length : Int) := by omega
        have htn0 : (0 : Int) ≤ (tn : Int) := Int.natCast_nonneg _
        clear ht ht0 ho1
        by_cases hx : tn < tab.length
        case neg =>
          have hk : mapK b rows out tab = false := map_no_term HTI.out (decide_eq_false fun h => hx (by have := h.1; omega))
          have hd : decide (tab.length ≤ tn) = true := decide_eq_true (by omega)
          have HN := Lib.hid (map_no hk)
          have hy := HYE.out
          rw [HN.out.1, HN.out.2.1, HN.out.2.2, hk] at hy
          obtain ⟨rfl, rfl, rfl, rfl⟩ := hy
          clear hk hM hA hX hx
          obtain ⟨z0, z1, z2⟩ := (⟨HZR.out.c0, HZR.out.c1, HZR.out.c2⟩ : _ ∧ _ ∧ _)
          have z3 := HZR.out.f
          go_wp2
          have hZ3 := (((HZR.out.set0 (.int .i64 0)).set1 (.slice none 0 0)).set2 (.slice none 0 0))
          have n0 := hZ3.c0
          have n1 := hZ3.c1
          have n2 := hZ3.c2
          refine bodyPost_ret (v := .tuple #[.agg #[.int .i64 0, .slice none 0 0, .slice none 0 0], .bool false]) (by simp [results, Try.results21, go_sem, n0, n1, n2]) rfl ⟨_, rfl, OwnS.zero _, ?_⟩
          exact ((HBR.out.setCell (Nat.le_succ _) _).setCell (Nat.le_succ _) _).setCell (Nat.le_succ _) _
        case pos =>
          have hd : decide (tab.length ≤ tn) = false := decide_eq_false (by omega)
          obtain ⟨x, hxv⟩ : ∃ x, tab[tn]? = some x := ⟨_, List.getElem?_eq_getElem hx⟩
          have HXV : Hid (tabV tab (tn : Int) = x) := by show _ = _; rw [tabV, Int.toNat_natCast, List.getD_eq_getElem?_getD, hxv]; rfl
          obtain ⟨_, ta', tc', he, _, htc⟩ := HT.out
          injection he with he1 he2 he3
          subst he1; subst he3
          obtain ⟨tq, ts, hte, ht1⟩ := htc tn x hxv
          have ht2 := old_cell' HBR.out ht1
          subst hte
          have htL : (tn : Int) < (tab.length : Int) := by omega
          clear hxv htc ht1 he2
          by_cases hin : 0 ≤ x ∧ x ≤ 3
          case neg =>
            have hk : mapK b rows out tab = false := map_no_term HTI.out (decide_eq_false fun h => hin (by rw [← HXV.out]; exact h.2))
            have HX3 := Lib.hid (show x < 0 ∨ 3 < x by omega)
            have HN := Lib.hid (map_no hk)
            have hy := HYE.out
            rw [HN.out.1, HN.out.2.1, HN.out.2.2, hk] at hy
            obtain ⟨rfl, rfl, rfl, rfl⟩ := hy
            clear hk hM hA hX hin
            go_wp2_with fail
            refine (term_no _ _ HX3.out).mono ?_
            rintro e w' ⟨rfl, rfl⟩
            obtain ⟨z0, z1, z2⟩ := (⟨HZR.out.c0, HZR.out.c1, HZR.out.c2⟩ : _ ∧ _ ∧ _)
            have z3 := HZR.out.f
            go_wp2
            have hZ3 := (((HZR.out.set0 (.int .i64 0)).set1 (.slice none 0 0)).set2 (.slice none 0 0))
            have n0 := hZ3.c0
            have n1 := hZ3.c1
            have n2 := hZ3.c2
            refine bodyPost_ret (v := .tuple #[.agg #[.int .i64 0, .slice none 0 0, .slice none 0 0], .bool false]) (by simp [results, Try.results21, go_sem, n0, n1, n2]) rfl ⟨_, rfl, OwnS.zero _, ?_⟩
            exact ((HBR.out.setCell (Nat.le_succ _) _).setCell (Nat.le_succ _) _).setCell (Nat.le_succ _) _
          case pos =>
            have HIN := Lib.hid hin
            have HA2 : Hid (∀ (j : Nat) (t : Int), j < i + 1 → out[j]? = some t → tabB tab t = true) := fun j t hj hjt => by
              by_cases e : j = i
              · subst e
                obtain rfl := Option.some.inj (HTI.out.symm.trans hjt)
                exact decide_eq_true ⟨htL, by rw [HXV.out]; exact HIN.out⟩
              · exact hA.out j t (by omega) hjt
            have hML := hM.out
            obtain ⟨dl, hdl⟩ : ∃ dl, dl = mapD out tab i := ⟨_, rfl⟩
            rw [← hdl] at hML
            have hdn : dl.length = out.length := by rw [hdl, mapD_len]
            rw [← hdn] at hML
            obtain ⟨g, hge, hgl, hgh, gf, ⟨gy, gc⟩, hwr⟩ := own_outj hML i (by omega)
            subst hge
            have hST := hwr x
            have HST : Hid (OwnS (W4.setCell ⟨g, i, none⟩ (.int .i64 x)) lo p (.agg #[.int .i64 b, .slice ma rows.length mc, .slice (some ⟨g, 0, none⟩) out.length oc]) b rows (mapD out tab (i + 1))) := by
              rw [hdn, hdl, ← HXV.out, mapD_set HTI.out] at hST
              exact HXV.out ▸ hST
            have m0 := hX.out.c0
            have m1 := hX.out.c1
            have m2 := hX.out.c2
            have hgp : g ≠ p := by omega
            have hgz : g ≠ w.heap.size + 1 := by have := HLO.out; omega
            have HX5 := Lib.hid (hX.out.other (a := ⟨g, i, none⟩) hgp (.int .i64 x))
            have HZ5 := Lib.hid (HZR.out.other (a := ⟨g, i, none⟩) hgz (.int .i64 x))
            have HB5 : Hid (Below w.heap.size w (W4.setCell ⟨g, i, none⟩ (.int .i64 x))) := HBR.out.setCell (by have := HLO.out; show _ ≤ g; omega) _
            clear hM hA hML hdl hwr hST hX HZR HBR hin hdn
            go_wp2_with fail
            refine (term_yes _ _ HIN.out.1 HIN.out.2).mono ?_
            rintro e w' ⟨rfl, rfl⟩
            go_wp2_with fail
            go_region_law (fail)
            all_goals
              go_wp2
              go_roundw
              case rel => exact ⟨i + 1, by omega, by go_num, HST.out.below (below_drew' _), HX5.out.below (below_drew' _), HZ5.out.below (below_drew' _), HB5.out.trans ((below_drew' _).mono HB5.out.size), HA2⟩
              case measure => simp [intOf]; omega
end Comb
end Go.Proofs.Ytodnkkofammhbaa
/- What the law on combinations asks of terms. No conditions beyond those that each fact states. -/
namespace Go.Proofs.Ytodnkkofammhbaa
open Go.ChangeShapes Go.WideShapes Go.ChangeAt Go.RowKit
open Go.PlainAid Plain
set_option linter.unusedVariables false
namespace Comb
open Seqs Mins Digits
theorem small_pow {b : Nat} (h2 : 2 ≤ b) {n : Nat} (h : n ≤ 65535) : n < b ^ 16 := by
  have h3 : 2 ^ 16 ≤ b ^ 16 := Nat.pow_le_pow_left h2 16
  omega
theorem term_small {b : Int} {rows : List (List Int)} {out : List Int} (h : seqB b rows out = true) (n : Nat) (hn : n ≤ 65535) : termV b rows out (n : Int) = termG b rows out n := by
  have hq := seqB_out h
  obtain ⟨bn, rfl⟩ : ∃ k : Nat, b = (k : Int) := ⟨b.toNat, by have := hq.1; omega⟩
  have h2 : 2 ≤ bn := by have := hq.1; omega
  have h4 : bn ≤ 4 := by have := hq.2.1; omega
  have hask : askB (bn : Int) rows out (n : Int) = true := by
    rw [askB, h, Bool.true_and, Bool.and_eq_true, decide_eq_true_eq, decide_eq_true_eq, powV_in bn h2 h4]
    exact ⟨Int.natCast_nonneg _, Int.ofNat_lt.2 (small_pow h2 hn)⟩
  rw [termV, if_pos hask, termG]
theorem term_out {b : Int} {rows : List (List Int)} {out : List Int} (h : IsSeq b rows out) (n : Nat) : ∃ sn : Nat, out[sn]? = some (termG b rows out n) := by
  obtain ⟨sn, _, _, h3⟩ := h.term_at (dig_ok h (n : Int)).1
  exact ⟨sn, h3⟩
theorem comb_law {b b' : Int} {ra rb : List (List Int)} {oa ob : List Int} {how : Int} (h : cmK b b' ra rb oa ob how = true) (n : Int) (h0 : 0 ≤ n) (h1 : n ≤ 65000) :
    termV (cmB b b' ra rb oa ob how) (cmR b b' ra rb oa ob how) (cmO b b' ra rb oa ob how) n = combV (termV b ra oa n) (termV b' rb ob n) how := by
  rw [cmK, Bool.and_eq_true] at h
  obtain ⟨hok, hk⟩ := h
  have hok' := hok
  rw [combOK, Bool.and_eq_true, Bool.and_eq_true, Bool.and_eq_true, decide_eq_true_eq, decide_eq_true_eq] at hok'
  obtain ⟨⟨ha, hb⟩, hbb, h4⟩ := hok'
  subst hbb
  obtain ⟨e1, e2, e3, _⟩ := cm_yes hok
  obtain ⟨m, rfl⟩ := Int.eq_ofNat_of_zero_le h0
  have va := seqB_out ha
  have vb := seqB_out hb
  obtain ⟨bn, rfl⟩ : ∃ k : Nat, b = (k : Int) := ⟨b.toNat, by have := va.1; omega⟩
  have h2 : 2 ≤ bn := by have := va.1; omega
  have h4' : bn ≤ 4 := by have := va.2.1; omega
  rw [Int.toNat_natCast] at hk
  have hwk := walksC va vb
  rw [Int.toNat_natCast] at hwk
  have htm : ∀ s, OkC ra rb s → 0 ≤ tmC oa ob how s ∧ tmC oa ob how s ≤ 3 := fun s hs => by
    refine combW_bd ?_ ?_
    · have := va.2.2.2.2.1
      refine va.2.2.2.2.2.2 _ ?_
      rw [List.getD_eq_getElem?_getD, List.getElem?_eq_getElem (by have := hs.1; omega), Option.getD_some]
      exact List.getElem_mem _
    · have := vb.2.2.2.2.1
      refine vb.2.2.2.2.2.2 _ ?_
      rw [List.getD_eq_getElem?_getD, List.getElem?_eq_getElem (by have := hs.2; omega), Option.getD_some]
      exact List.getElem_mem _
  have hv := pair_valid (tm := tmC oa ob how) hwk hk h2 h4' htm
  have hs : seqB (cmB (bn : Int) (bn : Int) ra rb oa ob how) (cmR (bn : Int) (bn : Int) ra rb oa ob how) (cmO (bn : Int) (bn : Int) ra rb oa ob how) = true := by
    rw [e1, e2, e3, Int.toNat_natCast, (p_yes (tm := tmC oa ob how) hk).1, (p_yes (tm := tmC oa ob how) hk).2.1, (p_yes (tm := tmC oa ob how) hk).2.2]
    exact seqB_yes hv
  have hB : cmB (bn : Int) (bn : Int) ra rb oa ob how = (bn : Int) := by rw [e1, Int.toNat_natCast, (p_yes (tm := tmC oa ob how) hk).1]
  rw [hB] at hs ⊢
  rw [term_small hs m (by omega), term_small ha m (by omega), term_small hb m (by omega)]
  exact comb_term_eq hok (by rw [Int.toNat_natCast]; exact hk) m
theorem shift_law {b : Int} {rows : List (List Int)} {out : List Int} (h : shK b rows out = true) (n : Int) (h0 : 0 ≤ n) (h1 : n ≤ 65000) :
    termV (shB b rows out) (shR b rows out) (shO b rows out) n = termV b rows out (n + 1) := by
  rw [shK, Bool.and_eq_true] at h
  obtain ⟨hf, hk⟩ := h
  obtain ⟨e1, e2, e3, _⟩ := sh_yes hf
  have hq := form_valid hf
  have hB : formB b rows out = b := by rw [formB, if_pos hf]
  rw [hB] at hq
  have hs0 : seqB b rows out = true := by
    simp only [formK, steadyB, Bool.or_eq_true, Bool.and_eq_true] at hf
    rcases hf with h | h <;> exact h.1
  obtain ⟨m, rfl⟩ := Int.eq_ofNat_of_zero_le h0
  obtain ⟨bn, rfl⟩ : ∃ k : Nat, b = (k : Int) := ⟨b.toNat, by have := hq.1; omega⟩
  have h2 : 2 ≤ bn := by have := hq.1; omega
  have h4 : bn ≤ 4 := by have := hq.2.1; omega
  have hk' := hk
  rw [Int.toNat_natCast] at hk'
  have hwk := walksN hq
  rw [Int.toNat_natCast] at hwk
  have htm : ∀ s, OkN (formR (bn : Int) rows out) s → 0 ≤ tmN (formO (bn : Int) rows out) s ∧ tmN (formO (bn : Int) rows out) s ≤ 3 := fun s hs => by
    have := hq.2.2.2.2.1
    refine hq.2.2.2.2.2.2 _ ?_
    rw [tmN, List.getD_eq_getElem?_getD, List.getElem?_eq_getElem (by have := hs.2; omega), Option.getD_some]
    exact List.getElem_mem _
  have hv := pair_valid (st := shStart (formR (bn : Int) rows out)) (tm := tmN (formO (bn : Int) rows out)) hwk hk' h2 h4 htm
  have hBB : shB (bn : Int) rows out = (bn : Int) := by rw [e1, Int.toNat_natCast, (p_yes (tm := tmN (formO (bn : Int) rows out)) hk').1]
  have hs : seqB (shB (bn : Int) rows out) (shR (bn : Int) rows out) (shO (bn : Int) rows out) = true := by
    rw [hBB, e2, e3, Int.toNat_natCast, (p_yes (tm := tmN (formO (bn : Int) rows out)) hk').2.1, (p_yes (tm := tmN (formO (bn : Int) rows out)) hk').2.2]
    exact seqB_yes hv
  rw [hBB] at hs ⊢
  rw [term_small hs m (by omega), show (m : Int) + 1 = ((m + 1 : Nat) : Int) from by omega, term_small hs0 (m + 1) (by omega)]
  exact shift_term_eq hf hk m (by rw [Int.toNat_natCast]; exact small_pow h2 (by omega))
theorem dg_law {b m : Int} (h : dgK b m = true) (n : Int) (h0 : 0 ≤ n) (h1 : n ≤ 65000) : 1 ≤ m ∧ termV (dgB b m) (dgR b m) (dgO b m) n = sumD (digV n b) % m := by
  have hd := of_decide_eq_true h
  obtain ⟨k, rfl⟩ := Int.eq_ofNat_of_zero_le h0
  have hB : dgB b m = b := by rw [dgB, if_pos h]
  have hs : seqB b (dgR b m) (dgO b m) = true := seqB_yes (dg_valid h)
  refine ⟨hd.2.1, ?_⟩
  rw [hB, term_small hs k (by omega)]
  exact dg_term_eq h k
theorem map_law {b : Int} {rows : List (List Int)} {out tab : List Int} (h : mapK b rows out tab = true) (n : Int) (h0 : 0 ≤ n) (h1 : n ≤ 65000) :
    0 ≤ termV b rows out n ∧ termV b rows out n < (tab.length : Int) ∧ termV (mapB b rows out tab) (mapR b rows out tab) (mapO b rows out tab) n = tabV tab (termV b rows out n) := by
  obtain ⟨e1, e2, e3⟩ := map_yes h
  rw [mapK, Bool.and_eq_true, List.all_eq_true] at h
  obtain ⟨hq, hall⟩ := h
  have hv := seqB_out hq
  obtain ⟨k, rfl⟩ := Int.eq_ofNat_of_zero_le h0
  obtain ⟨sn, hsn⟩ := term_out hv k
  have hin := List.mem_of_getElem? hsn
  have ht := of_decide_eq_true (hall _ hin)
  have h3 := hv.2.2.2.2.2.2 _ hin
  have hvm : IsSeq b rows (out.map (tabV tab)) := ⟨hv.1, hv.2.1, hv.2.2.1, hv.2.2.2.1, by rw [List.length_map]; exact hv.2.2.2.2.1, hv.2.2.2.2.2.1, fun x hx => by
    obtain ⟨y, hy, rfl⟩ := List.mem_map.1 hx
    exact (of_decide_eq_true (hall y hy)).2⟩
  rw [e1, e2, e3, term_small (seqB_yes hvm) k (by omega), term_small hq k (by omega)]
  refine ⟨h3.1, ht.1, ?_⟩
  have ha := hv.after (digV (k : Int) b) (dig_ok hv (k : Int)).1
  have hl := hv.2.2.2.2.1
  rw [termG, termG, List.getD_eq_getElem?_getD, List.getElem?_map, List.getD_eq_getElem?_getD, List.getElem?_eq_getElem (by omega)]
  rfl
end Comb
end Go.Proofs.Ytodnkkofammhbaa
/- A family of slices of ints that the call owns, in any order (each with its numbers), and two slices of such slices beside a struct of three cells: what a write, an append and a new slice make of them. No conditions beyond those that each fact states. -/
namespace Go.Proofs.Ytodnkkofammhbaa.Plain
open Go.RowKit
set_option linter.unusedVariables false
/-- No two of the slices lie in one block. -/
def Apart (p q : Value × List Int) : Prop := p.1.ownBlock = none ∨ p.1.ownBlock ≠ q.1.ownBlock
theorem Apart.symm {p q : Value × List Int} (h : Apart p q) : Apart q p := by
  rcases h with h | h
  · cases hq : q.1.ownBlock with
    | none => exact .inl hq
    | some k => exact .inr (by rw [h, hq]; simp)
  · exact .inr (Ne.symm h)
structure Fam (w : World) (lo hi : Nat) (ps : List (Value × List Int)) : Prop where
  own : ∀ p ∈ ps, OwnI w lo hi p.1 p.2
  apart : ps.Pairwise Apart
section
variable {w w' : World} {lo hi : Nat} {ps qs : List (Value × List Int)} {p : Value × List Int}
theorem Fam.perm (h : Fam w lo hi ps) (hp : ps.Perm qs) : Fam w lo hi qs :=
  ⟨fun p hm => h.own p (hp.mem_iff.2 hm), (hp.pairwise_iff (fun h => Apart.symm h)).1 h.apart⟩
theorem Fam.nil (w : World) (lo hi : Nat) : Fam w lo hi [] := ⟨fun _ h => (by cases h), List.Pairwise.nil⟩
theorem Fam.below (h : Fam w lo hi ps) (hb : Below w.heap.size w w') : Fam w' lo hi ps := ⟨fun p hp => (h.own p hp).below hb, h.apart⟩
theorem Fam.tail (h : Fam w lo hi (p :: ps)) : Fam w lo hi ps := ⟨fun q hq => h.own q (List.mem_cons_of_mem _ hq), (List.pairwise_cons.1 h.apart).2⟩
theorem Fam.head (h : Fam w lo hi (p :: ps)) : OwnI w lo hi p.1 p.2 := h.own p (List.mem_cons_self ..)
theorem Fam.mono {hi' : Nat} (h : Fam w lo hi ps) (h1 : hi ≤ hi') (h2 : hi' ≤ w.heap.size) : Fam w lo hi' ps := ⟨fun p hp => (h.own p hp).mono (Nat.le_refl _) h1 h2, h.apart⟩
theorem Fam.lower {lo' : Nat} (h : Fam w lo hi ps) (h1 : lo' ≤ lo) : Fam w lo' hi ps := ⟨fun p hp => (h.own p hp).mono h1 (Nat.le_refl _) (h.own p hp).le, h.apart⟩
theorem Fam.left (h : Fam w lo hi (ps ++ qs)) : Fam w lo hi ps := ⟨fun p hp => h.own p (List.mem_append_left _ hp), (List.pairwise_append.1 h.apart).1⟩
/-- A slice that was made behind all the others. -/
theorem Fam.push {hi' : Nat} {u : Value} {r : List Int} (h : Fam w lo hi ps) (hu : OwnI w hi hi' u r) (hlo : lo ≤ hi) (hle : hi ≤ hi') : Fam w lo hi' ((u, r) :: ps) := by
  refine ⟨fun p hp => ?_, List.pairwise_cons.2 ⟨fun q hq => ?_, h.apart⟩⟩
  · rcases List.mem_cons.1 hp with rfl | hp
    · exact hu.mono hlo (Nat.le_refl _) hu.le
    · exact (h.own p hp).mono (Nat.le_refl _) hle hu.le
  · cases hk : u.ownBlock with
    | none => exact .inl hk
    | some k =>
      refine .inr fun e => ?_
      have h1 := hu.range k hk
      have h2 := (h.own q hq).range k (by rw [← e]; exact hk)
      omega
theorem Fam.set (h : Fam w lo hi ps) {a : Addr} (ha : ∀ p ∈ ps, p.1.ownBlock ≠ some a.block) (x : Value) : Fam (w.setCell a x) lo hi ps := ⟨fun p hp => (h.own p hp).set (ha p hp) x, h.apart⟩
theorem Fam.ne_c3 (h : Fam w lo hi ps) {b : Nat} {t : TypeId} {x y z : Value} (hc : Cells3 w b t x y z) (hne : (3 : Nat) ≠ t) : ∀ p ∈ ps, p.1.ownBlock ≠ some b := fun p hp => has_ne_c3 (h.own p hp).has hc hne
/-- The head has grown. -/
theorem Fam.grown {base : Nat} {v v' : Value} {r r' : List Int} (h : Fam w lo hi ((v, r) :: ps)) (hv : Has (Value.int .i64) 3 w' base v' r') (hlo : lo ≤ base) (hle : hi ≤ w.heap.size) (hg : w.grownBy w' v.ownBlock) (hb : ∀ k, v'.ownBlock = some k → v.ownBlock = some k ∨ w.heap.size ≤ k) :
    Fam w' lo w'.heap.size ((v', r') :: ps) := by
  have ha := (List.pairwise_cons.1 h.apart).1
  refine ⟨fun p hp => ?_, List.pairwise_cons.2 ⟨fun q hq => ?_, (List.pairwise_cons.1 h.apart).2⟩⟩
  · rcases List.mem_cons.1 hp with rfl | hp
    · exact ⟨hv.mono hlo, fun k hk => (hv.lt k hk).2, Nat.le_refl _⟩
    · have hI := h.tail.own p hp
      refine ⟨hI.has.of_same fun k hk => hg.block k (hI.has.lt k hk).2 (fun e => ?_), fun k hk => Nat.lt_of_lt_of_le (hI.lt k hk) (Nat.le_trans hle hg.size), Nat.le_refl _⟩
      rcases ha p hp with h3 | h3
      · rw [h3] at e; cases e
      · exact h3 (by rw [hk]; exact e.symm)
  · cases hk : v'.ownBlock with
    | none => exact .inl hk
    | some k =>
      refine .inr fun e => ?_
      have hI := h.tail.own q hq
      have h1 := hI.range k (by rw [← e]; exact hk)
      rcases hb k hk with h2 | h2
      · rcases ha q hq with h3 | h3
        · rw [h3] at h2; cases h2
        · exact h3 (by rw [h2, ← e]; exact hk.symm)
      · omega
theorem Fam.top_grown {lo' : Nat} {v : Value} {xs : List Value} (h : Fam w lo hi ps) (ht : Has id 25 w lo' v xs) (hg : w.grownBy w' v.ownBlock) : Fam w' lo hi ps :=
  ⟨fun p hp => by
    have hI := h.own p hp
    refine ⟨hI.has.of_same fun k hk => hg.block k (hI.has.lt k hk).2 (fun e => ?_), hI.lt, Nat.le_trans hI.le hg.size⟩
    rcases ht.ne_row hI.has with h1 | h1
    · rw [h1] at hk; cases hk
    · exact h1 (by rw [hk, e]), h.apart⟩
/-- A number is written into the head. -/
theorem Fam.write {g n cap : Nat} {r : List Int} (h : Fam w lo hi ((.slice (some ⟨g, 0, none⟩) n cap, r) :: ps)) (j : Nat) (x : Int) : Fam (w.setCell ⟨g, j, none⟩ (.int .i64 x)) lo hi ((.slice (some ⟨g, 0, none⟩) n cap, r.set j x) :: ps) := by
  have ha := (List.pairwise_cons.1 h.apart).1
  refine ⟨fun p hp => ?_, List.pairwise_cons.2 ⟨fun q hq => ha q hq, (List.pairwise_cons.1 h.apart).2⟩⟩
  rcases List.mem_cons.1 hp with rfl | hp
  · have h0 : w.ownsRow lo 3 1 (.slice (some ⟨g, 0, none⟩) n cap) r.length (r.map (Value.int .i64)) := h.head.has
    obtain ⟨a, c, hf, _⟩ := h.head.has.form
    injection hf with _ h2 _
    simp only at h2
    subst h2
    have h1 := (h0.stored j (.int .i64 x)).1
    refine ⟨?_, h.head.lt, by rw [size_setCell']; exact h.head.le⟩
    show World.ownsRow _ _ _ _ _ _ _
    rw [List.length_set, List.map_set]
    exact h1
  · refine (h.tail.own p hp).set (a := ⟨g, j, none⟩) (fun e => ?_) _
    rcases ha p hp with h3 | h3
    · cases h3
    · exact h3 e.symm
theorem Fam.rows {us : List Value} {rows : List (List Int)} (h : Fam w lo hi (us.zip rows)) (hl : us.length = rows.length) : OwnRows w lo hi us rows := by
  refine ⟨hl, fun i u r hu hr => ?_, fun i j u u' hu hu' hij => ?_⟩
  · exact h.own (u, r) (List.mem_of_getElem? (i := i) (by rw [List.getElem?_zip_eq_some]; exact ⟨hu, hr⟩))
  · have hi' := (List.getElem?_eq_some_iff.1 hu).1
    have hj' := (List.getElem?_eq_some_iff.1 hu').1
    obtain ⟨r, hr⟩ : ∃ r, rows[i]? = some r := ⟨_, List.getElem?_eq_getElem (by omega)⟩
    obtain ⟨r', hr'⟩ : ∃ r, rows[j]? = some r := ⟨_, List.getElem?_eq_getElem (by omega)⟩
    have z1 : (us.zip rows)[i]? = some (u, r) := by rw [List.getElem?_zip_eq_some]; exact ⟨hu, hr⟩
    have z2 : (us.zip rows)[j]? = some (u', r') := by rw [List.getElem?_zip_eq_some]; exact ⟨hu', hr'⟩
    obtain ⟨l1, e1⟩ := List.getElem?_eq_some_iff.1 z1
    obtain ⟨l2, e2⟩ := List.getElem?_eq_some_iff.1 z2
    have key := List.pairwise_iff_getElem.1 h.apart
    rcases Nat.lt_or_gt_of_ne hij with h1 | h1
    · have := key i j l1 l2 h1
      rw [e1, e2] at this
      exact this
    · have := key j i l2 l1 h1
      rw [e1, e2] at this
      exact this.symm
end
/-- A pair as a list. -/
def pl (s : Pr) : List Int := [s.1, s.2]
/-- Block p holds the sequence in the making; vn its rows' slice, vo its terms; ve the slice of pairs, each in a slice of its own; X what else there is. All is the call's own, from block base on. -/
structure PM (w : World) (base hi p : Nat) (b : Int) (vn vo ve : Value) (us es : List Value) (rows : List (List Int)) (prs : List Pr) (out : List Int) (X : List (Value × List Int)) : Prop where
  top : Has id 25 w base vn us
  etop : Has id 25 w base ve es
  ne : vn.ownBlock = none ∨ vn.ownBlock ≠ ve.ownBlock
  fam : Fam w base hi (X ++ (vo, out) :: (us.zip rows ++ es.zip (prs.map pl)))
  ul : us.length = rows.length
  el : es.length = prs.length
  cells : Cells3 w p 27 (.int .i64 b) vn vo
  lo : base ≤ hi
  le : hi ≤ w.heap.size
section
variable {w w' : World} {base hi p : Nat} {b : Int} {vn vo ve : Value} {us es : List Value} {rows : List (List Int)} {prs : List Pr} {out : List Int} {X : List (Value × List Int)}
theorem PM.below (h : PM w base hi p b vn vo ve us es rows prs out X) (hb : Below w.heap.size w w') : PM w' base hi p b vn vo ve us es rows prs out X :=
  ⟨h.top.below hb, h.etop.below hb, h.ne, h.fam.below hb, h.ul, h.el, h.cells.below hb, h.lo, Nat.le_trans h.le hb.size⟩
theorem PM.terms (h : PM w base hi p b vn vo ve us es rows prs out X) : OwnI w base hi vo out := h.fam.own (vo, out) (by simp)
theorem PM.extra {x : Value} {r : List Int} (h : PM w base hi p b vn vo ve us es rows prs out X) (hx : (x, r) ∈ X) : OwnI w base hi x r := h.fam.own (x, r) (by simp [hx])
theorem PM.pair {i : Nat} {s : Pr} (h : PM w base hi p b vn vo ve us es rows prs out X) (hs : prs[i]? = some s) : ∃ u, es[i]? = some u ∧ OwnI w base hi u (pl s) := by
  have hi' : i < es.length := by rw [h.el]; exact (List.getElem?_eq_some_iff.1 hs).1
  refine ⟨es[i], List.getElem?_eq_getElem hi', ?_⟩
  have hz : (es.zip (prs.map pl))[i]? = some (es[i], pl s) := by
    rw [List.getElem?_zip_eq_some]
    exact ⟨List.getElem?_eq_getElem hi', by rw [List.getElem?_map, hs]; rfl⟩
  exact h.fam.own (es[i], pl s) (by have := List.mem_of_getElem? hz; simp [this])
/-- A pair's cells. -/
theorem PM.at_ {i : Nat} {s : Pr} (h : PM w base hi p b vn vo ve us es rows prs out X) (hs : prs[i]? = some s) :
    ∃ eq eo ec g c, ve = .slice (some ⟨eq, eo, none⟩) prs.length ec ∧ w.cell? ⟨eq, eo + i, none⟩ = some (.slice (some ⟨g, 0, none⟩) 2 c) ∧ w.cell? ⟨g, 0, none⟩ = some (.int .i64 s.1) ∧ w.cell? ⟨g, 1, none⟩ = some (.int .i64 s.2) ∧ Lies (Value.int .i64) w (.slice (some ⟨g, 0, none⟩) 2 c) (pl s) := by
  obtain ⟨u, hu, hI⟩ := h.pair hs
  obtain ⟨_, a, c, hv, _, hc⟩ := h.etop.lies
  obtain ⟨eq, eo, h1, h2⟩ := hc i u hu
  obtain ⟨a', c', hf, hg⟩ := hI.has.form
  obtain ⟨g, hg⟩ := hg (show 0 < (pl s).length by simp [pl])
  have hf' : u = .slice (some ⟨g, 0, none⟩) 2 c' := by rw [hf, hg]; rfl
  subst hf'
  have hlies := hI.has.lies
  obtain ⟨_, a2, c2, hv2, _, hc2⟩ := hI.has.lies
  injection hv2 with e1 e2 e3
  obtain ⟨q0, o0, k1, k2⟩ := hc2 0 s.1 rfl
  obtain ⟨q1, o1, k3, k4⟩ := hc2 1 s.2 rfl
  rw [← e1] at k1 k3
  injection k1 with k1
  injection k1 with k1 k1'
  injection k3 with k3
  injection k3 with k3 k3'
  subst k1; subst k1'; subst k3; subst k3'
  refine ⟨eq, eo, c, g, c', ?_, h2, ?_, ?_, hlies⟩
  · rw [hv, h1, h.el]
  · simpa using k2
  · simpa using k4
/-- A further slice of the call's own begins. -/
theorem PM.begin {x : Value} {r : List Int} (h : PM w base hi p b vn vo ve us es rows prs out X) (hb : Below w.heap.size w w') (hr : Has (Value.int .i64) 3 w' w.heap.size x r) : PM w' base w'.heap.size p b vn vo ve us es rows prs out ((x, r) :: X) := by
  have h1 := h.below hb
  have h2 : OwnI w' hi w'.heap.size x r := ⟨hr.mono h.le, fun k hk => (hr.lt k hk).2, Nat.le_refl _⟩
  exact ⟨h1.top, h1.etop, h1.ne, h1.fam.push h2 h.lo h1.le, h1.ul, h1.el, h1.cells, Nat.le_trans h1.lo h1.le, Nat.le_refl _⟩
theorem PM.forget {x : Value × List Int} (h : PM w base hi p b vn vo ve us es rows prs out (x :: X)) : PM w base hi p b vn vo ve us es rows prs out X := ⟨h.top, h.etop, h.ne, h.fam.tail, h.ul, h.el, h.cells, h.lo, h.le⟩
theorem PM.swap {x y : Value × List Int} (h : PM w base hi p b vn vo ve us es rows prs out (x :: y :: X)) : PM w base hi p b vn vo ve us es rows prs out (y :: x :: X) := ⟨h.top, h.etop, h.ne, h.fam.perm (List.Perm.swap ..), h.ul, h.el, h.cells, h.lo, h.le⟩
/-- The first further slice has grown. -/
theorem PM.grow {x x' : Value} {r r' : List Int} (h : PM w base hi p b vn vo ve us es rows prs out ((x, r) :: X)) (hv : Has (Value.int .i64) 3 w' base x' r') (hg : w.grownBy w' x.ownBlock) (hb : ∀ k, x'.ownBlock = some k → x.ownBlock = some k ∨ w.heap.size ≤ k) :
    PM w' base w'.heap.size p b vn vo ve us es rows prs out ((x', r') :: X) :=
  ⟨h.top.grown hg (h.top.ne_top (h.extra (List.mem_cons_self ..)).has), h.etop.grown hg (h.etop.ne_top (h.extra (List.mem_cons_self ..)).has), h.ne, h.fam.grown hv (Nat.le_refl _) h.le hg hb, h.ul, h.el,
    h.cells.grown hg (has_ne_c3 (h.extra (List.mem_cons_self ..)).has h.cells (by decide)), Nat.le_trans h.lo (Nat.le_trans h.le hg.size), Nat.le_refl _⟩
/-- A number is written into the first further slice. -/
theorem PM.write {g n cap : Nat} {r : List Int} (h : PM w base hi p b vn vo ve us es rows prs out ((.slice (some ⟨g, 0, none⟩) n cap, r) :: X)) (j : Nat) (x : Int) : PM (w.setCell ⟨g, j, none⟩ (.int .i64 x)) base hi p b vn vo ve us es rows prs out ((.slice (some ⟨g, 0, none⟩) n cap, r.set j x) :: X) := by
  have hI := (h.extra (x := .slice (some ⟨g, 0, none⟩) n cap) (r := r) (List.mem_cons_self ..)).has
  have ht : ∀ {v : Value} {xs : List Value}, Has id 25 w base v xs → v.ownBlock ≠ some g := fun hv e => by
    rcases hv.ne_top hI with h1 | h1
    · rw [h1] at e; cases e
    · exact h1 e
  exact ⟨h.top.set (a := ⟨g, j, none⟩) (ht h.top) _, h.etop.set (a := ⟨g, j, none⟩) (ht h.etop) _, h.ne, h.fam.write j x, h.ul, h.el, h.cells.other (a := ⟨g, j, none⟩) (fun e => has_ne_c3 hI h.cells (by decide) (by rw [← e]; rfl)) _, h.lo, by rw [size_setCell']; exact h.le⟩
/-- The first further slice is appended to the pairs. -/
theorem PM.add {x ve' : Value} {s : Pr} (h : PM w base hi p b vn vo ve us es rows prs out ((x, pl s) :: X)) (hv : Has id 25 w' base ve' (es ++ [x])) (hg : w.grownBy w' ve.ownBlock) (hb : ∀ k, ve'.ownBlock = some k → ve.ownBlock = some k ∨ w.heap.size ≤ k) :
    PM w' base w'.heap.size p b vn vo ve' us (es ++ [x]) rows (prs ++ [s]) out X := by
  have h1 := h.fam.top_grown h.etop hg
  refine ⟨h.top.grown hg h.ne, hv, ?_, ?_, h.ul, by simp [h.el], h.cells.grown hg (has_ne_c3 h.etop h.cells (by decide)), Nat.le_trans h.lo (Nat.le_trans h.le hg.size), Nat.le_refl _⟩
  · cases hk : vn.ownBlock with
    | none => exact .inl rfl
    | some k =>
      refine .inr fun e => ?_
      have h2 := (h.top.lt k hk).2
      rcases hb k e.symm with h3 | h3
      · rcases h.ne with h4 | h4
        · rw [hk] at h4; cases h4
        · exact h4 (by rw [hk, h3])
      · omega
  · refine (h1.mono (Nat.le_trans h.le hg.size) (Nat.le_refl _)).perm ?_
    have e : (es ++ [x]).zip ((prs ++ [s]).map pl) = es.zip (prs.map pl) ++ [(x, pl s)] := by
      rw [List.map_append, List.zip_append (by simp [h.el])]
      rfl
    rw [e]
    have : ((x, pl s) :: (X ++ (vo, out) :: (us.zip rows ++ es.zip (prs.map pl)))).Perm ((X ++ (vo, out) :: (us.zip rows ++ es.zip (prs.map pl))) ++ [(x, pl s)]) := List.perm_append_comm (l₁ := [(x, pl s)])
    simpa [List.append_assoc] using this
/-- The first further slice is appended to the rows and stored. -/
theorem PM.done {x v' : Value} {r : List Int} (h : PM w base hi p b vn vo ve us es rows prs out ((x, r) :: X)) (hv : Has id 25 w' base v' (us ++ [x])) (hg : w.grownBy w' vn.ownBlock) (hb : ∀ k, v'.ownBlock = some k → vn.ownBlock = some k ∨ w.heap.size ≤ k) :
    PM (w'.setCell ⟨p, 1, none⟩ v') base w'.heap.size p b v' vo ve (us ++ [x]) es (rows ++ [r]) prs out X := by
  have h3 := h.cells.grown hg (has_ne_c3 h.top h.cells (by decide))
  have h1 : Fam w' base w'.heap.size (X ++ (vo, out) :: ((us ++ [x]).zip (rows ++ [r]) ++ es.zip (prs.map pl))) := by
    refine ((h.fam.top_grown h.top hg).mono (Nat.le_trans h.le hg.size) (Nat.le_refl _)).perm ?_
    rw [List.zip_append h.ul]
    have e : (X ++ (vo, out) :: ((us.zip rows ++ [x].zip [r]) ++ es.zip (prs.map pl))) = (X ++ (vo, out) :: us.zip rows) ++ (x, r) :: es.zip (prs.map pl) := by simp
    have e2 : ((x, r) :: X ++ (vo, out) :: (us.zip rows ++ es.zip (prs.map pl))) = (x, r) :: ((X ++ (vo, out) :: us.zip rows) ++ es.zip (prs.map pl)) := by simp
    rw [e, e2]
    exact (List.perm_middle).symm
  have hte : Has id 25 w' base ve es := h.etop.grown hg (by
    rcases h.ne with h4 | h4
    · cases hk : ve.ownBlock with
      | none => exact .inl rfl
      | some k => exact .inr (by rw [h4]; simp)
    · exact .inr (Ne.symm h4))
  refine ⟨hv.set (a := ⟨p, 1, none⟩) (has_ne_c3 hv h3 (by decide)) v', hte.set (a := ⟨p, 1, none⟩) (has_ne_c3 hte h3 (by decide)) v', ?_, h1.set (a := ⟨p, 1, none⟩) (h1.ne_c3 h3 (by decide)) v', by simp [h.ul], h.el, h3.set1 v', Nat.le_trans h.lo (Nat.le_trans h.le hg.size), by rw [size_setCell']; exact Nat.le_refl _⟩
  cases hk : v'.ownBlock with
  | none => exact .inl rfl
  | some k =>
    refine .inr fun e => ?_
    have h2 := (h.etop.lt k e.symm).2
    rcases hb k hk with h4 | h4
    · rcases h.ne with h5 | h5
      · rw [h4] at h5; cases h5
      · exact h5 (by rw [h4, e])
    · omega
/-- A term has been appended and stored. -/
theorem PM.term {vo' : Value} {o : Int} (h : PM w base hi p b vn vo ve us es rows prs out []) (hv : Has (Value.int .i64) 3 w' base vo' (out ++ [o])) (hg : w.grownBy w' vo.ownBlock) (hb : ∀ k, vo'.ownBlock = some k → vo.ownBlock = some k ∨ w.heap.size ≤ k) :
    PM (w'.setCell ⟨p, 2, none⟩ vo') base w'.heap.size p b vn vo' ve us es rows prs (out ++ [o]) [] := by
  have hI := h.terms
  have h2 : Fam w' base w'.heap.size ([] ++ (vo', out ++ [o]) :: (us.zip rows ++ es.zip (prs.map pl))) := Fam.grown (ps := us.zip rows ++ es.zip (prs.map pl)) h.fam hv (Nat.le_refl _) h.le hg hb
  have h3 := h.cells.grown hg (has_ne_c3 hI.has h.cells (by decide))
  have h6 := h.top.grown hg (h.top.ne_top hI.has)
  have h7 := h.etop.grown hg (h.etop.ne_top hI.has)
  exact ⟨h6.set (a := ⟨p, 2, none⟩) (has_ne_c3 h6 h3 (by decide)) vo', h7.set (a := ⟨p, 2, none⟩) (has_ne_c3 h7 h3 (by decide)) vo', h.ne, h2.set (a := ⟨p, 2, none⟩) (h2.ne_c3 h3 (by decide)) vo', h.ul, h.el, h3.set2 vo', Nat.le_trans h.lo (Nat.le_trans h.le hg.size), by rw [size_setCell']; exact Nat.le_refl _⟩
/-- The whole. -/
theorem PM.seq (h : PM w base hi p b vn vo ve us es rows prs out X) : OwnS w base w.heap.size (.agg #[.int .i64 b, vn, vo]) b rows out := by
  have h1 : Fam w base hi ((vo :: us).zip (out :: rows)) := by
    have hp : (X ++ (vo, out) :: (us.zip rows ++ es.zip (prs.map pl))).Perm (((vo, out) :: us.zip rows) ++ (X ++ es.zip (prs.map pl))) := by
      have e : (X ++ (vo, out) :: (us.zip rows ++ es.zip (prs.map pl))) = (X ++ ((vo, out) :: us.zip rows)) ++ es.zip (prs.map pl) := by simp
      rw [e]
      refine (List.perm_append_comm.append_right _).trans ?_
      rw [List.append_assoc]
    exact (h.fam.perm hp).left
  exact OwnS.make_head h.top ((h1.rows (by simp [h.ul])).mono h.le (Nat.le_refl _))
theorem PM.start {e0 : Value} {s : Pr} (hc : Cells3 w p 27 (.int .i64 b) (.slice none 0 0) (.slice none 0 0)) (ht : Has id 25 w base ve [e0]) (hp : OwnI w base w.heap.size e0 (pl s)) (hb : base ≤ w.heap.size) : PM w base w.heap.size p b (.slice none 0 0) (.slice none 0 0) ve [] [e0] [] [s] [] [] := by
  have h1 : OwnI w base w.heap.size (.slice none 0 0) [] := ⟨World.ownsRow_nil _ _ _ _, fun k hk => (by cases hk), Nat.le_refl _⟩
  refine ⟨World.ownsRow_nil _ _ _ _, ht, .inl rfl, ⟨fun p hp' => ?_, ?_⟩, rfl, rfl, hc, hb, Nat.le_refl _⟩
  · simp at hp'
    rcases hp' with rfl | rfl
    · exact h1
    · exact hp
  · simp [Apart, Value.ownBlock]
theorem PM.form (h : PM w base hi p b vn vo ve us es rows prs out X) : ∃ an cn ao co ae ce, vn = .slice an rows.length cn ∧ vo = .slice ao out.length co ∧ ve = .slice ae prs.length ce := by
  obtain ⟨an, cn, h1, _⟩ := h.top.form
  obtain ⟨ao, co, h2, _⟩ := h.terms.has.form
  obtain ⟨ae, ce, h3, _⟩ := h.etop.form
  exact ⟨an, cn, ao, co, ae, ce, by rw [h1, h.ul], h2, by rw [h3, h.el]⟩
end
end Go.Proofs.Ytodnkkofammhbaa.Plain
/- Contracts of EqualSequences, of the program and of the model, and of the comparisons of lists that they call. No conditions beyond those that each states. -/
namespace Go.Proofs.Ytodnkkofammhbaa
open Go.ChangeShapes Go.WideShapes Go.ChangeAt Go.RowKit
open Go.PlainAid Plain
set_option linter.unusedVariables false
namespace Seqs
theorem list_ne {α : Type} {xs ys : List α} {k : Nat} {x y : α} (h1 : xs[k]? = some x) (h2 : ys[k]? = some y) (h : ¬ x = y) : ¬ xs = ys := fun e => by
  subst e
  exact h (Option.some.inj (h1.symm.trans h2))
theorem list_eq {α : Type} {xs ys : List α} (hl : xs.length = ys.length) (h : ∀ (k : Nat) (x y : α), k < xs.length → xs[k]? = some x → ys[k]? = some y → x = y) : xs = ys := by
  refine List.ext_getElem hl fun i h1 h2 => ?_
  exact h i _ _ h1 (List.getElem?_eq_getElem h1) (List.getElem?_eq_getElem h2)
theorem some_drew {w W' : World} (he : (∃ n, W' = w.drewN n) ∨ (∃ n m, W' = (w.drewN n).drewN m) := by first | exact .inl ⟨_, rfl⟩ | exact .inr ⟨_, _, rfl⟩) : ∃ n, W' = w.drewN n := by
  rcases he with ⟨n, rfl⟩ | ⟨n, m, rfl⟩
  · exact ⟨n, rfl⟩
  · exact ⟨n + m, by rw [World.drewN_drewN]⟩
theorem same_ints (u v : Value) (xs ys : List Int) (w : World) (h1 : Lies (Value.int .i64) w u xs) (h2 : Lies (Value.int .i64) w v ys) :
    Calls Try.prog 38 #[u, v] w fun e w' => e = .returned (.bool (decide (xs = ys))) ∧ ∃ n, w' = w.drewN n := by
  obtain ⟨hl, a, ca, rfl, _, hca⟩ := h1
  obtain ⟨hl2, b, cb, rfl, _, hcb⟩ := h2
  have HA := Lib.hid hca
  have HB := Lib.hid hcb
  clear hca hcb
  by_cases hlen : xs.length = ys.length
  · have HL := Lib.hid hlen
    have hd : ((xs.length : Int) != (ys.length : Int)) = false := by rw [hlen]; simp
    have hle : xs.length ≤ ys.length := by omega
    clear hlen
    go_enter Try.func38, Try.ntmps38
    go_wp2
    go_loopw [5] (fun i' wr => ∃ k : Nat, k ≤ xs.length ∧ i' = .int .i64 k ∧ Hid (∀ (j : Nat) (x y : Int), j < k → xs[j]? = some x → ys[j]? = some y → x = y) ∧ ∃ n, wr = w.drewN n) (fun i' _ => xs.length - (intOf i').toNat)
    case atStart => exact ⟨0, Nat.zero_le _, rfl, fun j x y h => by omega, 0, rfl⟩
    case round =>
      obtain ⟨k, hk, rfl, HI, n, rfl⟩ := hrel
      by_cases hlt : k < xs.length
      · obtain ⟨x, hx⟩ : ∃ x, xs[k]? = some x := ⟨_, List.getElem?_eq_getElem hlt⟩
        obtain ⟨y, hy⟩ : ∃ y, ys[k]? = some y := ⟨_, List.getElem?_eq_getElem (by omega)⟩
        obtain ⟨p, o, rfl, hc1⟩ := HA.out k x hx
        obtain ⟨q, r, rfl, hc2⟩ := HB.out k y hy
        have HX := Lib.hid hx
        have HY := Lib.hid hy
        clear hx hy
        by_cases he : x = y
        · have HN : Hid (∀ (j : Nat) (x y : Int), j < k + 1 → xs[j]? = some x → ys[j]? = some y → x = y) := fun j x' y' hj hx' hy' => by
            by_cases e : j = k
            · subst e
              obtain rfl := Option.some.inj (HX.out.symm.trans hx')
              obtain rfl := Option.some.inj (HY.out.symm.trans hy')
              exact he
            · exact HI.out j x' y' (by omega) hx' hy'
          have hd2 : (x != y) = false := by rw [he]; simp
          clear he
          go_wp2
          go_quiet (fail)
          go_wp2
          go_roundw
          case rel => exact ⟨k + 1, by omega, by go_num, HN, _, rfl⟩
          case measure => simp [intOf]; omega
        · have HE := Lib.hid (decide_eq_false (list_ne HX.out HY.out he))
          have hd2 : (x != y) = true := by simpa using he
          clear he
          go_wp2
          go_quiet (fail)
          go_wp2
          go_ret
          exact ⟨ret_b HE.out.symm, some_drew⟩
      · have HE := Lib.hid (decide_eq_true (list_eq HL.out fun j x y hj => HI.out j x y (by omega)))
        go_wp2
        go_ret
        exact ⟨ret_b HE.out.symm, n, rfl⟩
  · have HE := Lib.hid (decide_eq_false (fun e : xs = ys => hlen (by rw [e])))
    have hd : ((xs.length : Int) != (ys.length : Int)) = true := by simp; omega
    clear hlen
    go_enter Try.func38, Try.ntmps38
    go_wp2
    go_ret
    exact ⟨ret_b HE.out.symm, 0, rfl⟩
theorem same_true (u v : Value) (xs ys : List Int) (w : World) (h1 : Lies (Value.int .i64) w u xs) (h2 : Lies (Value.int .i64) w v ys) (he : xs = ys) :
    Calls Try.prog 38 #[u, v] w fun e w' => e = .returned (.bool true) ∧ ∃ n, w' = w.drewN n := by
  have := same_ints u v xs ys w h1 h2
  rwa [decide_eq_true he] at this
theorem same_false (u v : Value) (xs ys : List Int) (w : World) (h1 : Lies (Value.int .i64) w u xs) (h2 : Lies (Value.int .i64) w v ys) (he : ¬ xs = ys) :
    Calls Try.prog 38 #[u, v] w fun e w' => e = .returned (.bool false) ∧ ∃ n, w' = w.drewN n := by
  have := same_ints u v xs ys w h1 h2
  rwa [decide_eq_false he] at this
theorem LiesS.two {w : World} {b : Int} {rows : List (List Int)} {out : List Int} {vn vo : Value} (h : LiesS w (.agg #[.int .i64 b, vn, vo]) b rows out) : LiesR w vn rows ∧ Lies (Value.int .i64) w vo out := by
  obtain ⟨vn', vo', hv, h1, h2⟩ := h
  injection hv with hv
  simp only [Array.mk.injEq, List.cons.injEq, and_true, true_and] at hv
  obtain ⟨rfl, rfl⟩ := hv
  exact ⟨h1, h2⟩
theorem endsE {B : Nat} {w W W' : World} (h : ∀ n, Below B w (W.drewN n)) (he : (∃ n, W' = W.drewN n) ∨ (∃ n m, W' = (W.drewN n).drewN m) := by first | exact .inl ⟨_, rfl⟩ | exact .inr ⟨_, _, rfl⟩) : Below B w W' := by
  rcases he with ⟨n, rfl⟩ | ⟨n, m, rfl⟩
  · exact h n
  · rw [World.drewN_drewN]; exact h _
/-- Are the two sequences equal, in all their parts? -/
def sameB (b b' : Int) (rows rows' : List (List Int)) (out out' : List Int) : Bool := decide (b = b') && decide (rows = rows') && decide (out = out')
set_option maxHeartbeats 1000000 in
theorem spec_equal (u v : Value) (b b' : Int) (rows rows' : List (List Int)) (out out' : List Int) (w : World) (h1 : LiesS w u b rows out) (h2 : LiesS w v b' rows' out') :
    Calls Try.prog 8 #[u, v] w fun e w' => e = .returned (.bool (sameB b b' rows rows' out out')) ∧ Below w.heap.size w w' := by
  have HS := Lib.hid h1
  have HS' := Lib.hid h2
  obtain ⟨an, cn, ao, co, rfl⟩ := h1.form
  obtain ⟨an', cn', ao', co', rfl⟩ := h2.form
  clear h1 h2
  have hB : Below w.heap.size w ((w.alloc (Obj.cells #[Value.int .i64 b, Value.slice an rows.length cn, Value.slice ao out.length co] 27)).alloc (Obj.cells #[Value.int .i64 b', Value.slice an' rows'.length cn', Value.slice ao' out'.length co'] 27)) := ((Below.refl _ _).alloc (Nat.le_refl _) _).alloc (by simp) _
  have HB : Hid (∀ n, Below w.heap.size w (((w.alloc (Obj.cells #[Value.int .i64 b, Value.slice an rows.length cn, Value.slice ao out.length co] 27)).alloc (Obj.cells #[Value.int .i64 b', Value.slice an' rows'.length cn', Value.slice ao' out'.length co'] 27)).drewN n)) := fun n => below_drewN hB n
  have hC' := Cells3.new (w.alloc (Obj.cells #[Value.int .i64 b, Value.slice an rows.length cn, Value.slice ao out.length co] 27)) 27 (.int .i64 b') (.slice an' rows'.length cn') (.slice ao' out'.length co')
  rw [size_alloc'] at hC'
  have HC := Lib.hid ((Cells3.new w 27 (.int .i64 b) (.slice an rows.length cn) (.slice ao out.length co)).alloc (Obj.cells #[Value.int .i64 b', Value.slice an' rows'.length cn', Value.slice ao' out'.length co'] 27))
  have HC' := Lib.hid hC'
  have HL : Hid (LiesR ((w.alloc (Obj.cells #[Value.int .i64 b, Value.slice an rows.length cn, Value.slice ao out.length co] 27)).alloc (Obj.cells #[Value.int .i64 b', Value.slice an' rows'.length cn', Value.slice ao' out'.length co'] 27)) (.slice an rows.length cn) rows ∧ Lies (Value.int .i64) ((w.alloc (Obj.cells #[Value.int .i64 b, Value.slice an rows.length cn, Value.slice ao out.length co] 27)).alloc (Obj.cells #[Value.int .i64 b', Value.slice an' rows'.length cn', Value.slice ao' out'.length co'] 27)) (.slice ao out.length co) out) := LiesS.two (HS.out.below hB)
  have HL' : Hid (LiesR ((w.alloc (Obj.cells #[Value.int .i64 b, Value.slice an rows.length cn, Value.slice ao out.length co] 27)).alloc (Obj.cells #[Value.int .i64 b', Value.slice an' rows'.length cn', Value.slice ao' out'.length co'] 27)) (.slice an' rows'.length cn') rows' ∧ Lies (Value.int .i64) ((w.alloc (Obj.cells #[Value.int .i64 b, Value.slice an rows.length cn, Value.slice ao out.length co] 27)).alloc (Obj.cells #[Value.int .i64 b', Value.slice an' rows'.length cn', Value.slice ao' out'.length co'] 27)) (.slice ao' out'.length co') out') := LiesS.two (HS'.out.below hB)
  clear hB hC'
  by_cases hb : b = b'
  · have hd0 : (b != b') = false := by simpa using hb
    have HQ : Hid (sameB b b' rows rows' out out' = (decide (rows = rows') && decide (out = out'))) := by show _ = _; rw [sameB, decide_eq_true hb]; rfl
    clear hb
    by_cases hlen : rows.length = rows'.length
    · have HLE := Lib.hid hlen
      have hd1 : ((rows.length : Int) != (rows'.length : Int)) = false := by rw [hlen]; simp
      have hle : rows.length ≤ rows'.length := by omega
      clear hlen
      cases ho : decide (out = out') with
      | true =>
        have HO := Lib.hid ho
        have HE : Hid (sameB b b' rows rows' out out' = decide (rows = rows')) := by show _ = _; rw [HQ.out, ho, Bool.and_true]
        clear ho HQ
        go_enter Try.func8, Try.ntmps8
        go_wp2_with fail
        refine (same_ints _ _ out out' _ HL.out.2 HL'.out.2).mono ?_
        rintro e w' ⟨rfl, n0, rfl⟩
        rw [HO.out]
        obtain ⟨W, hW⟩ : ∃ W, W = ((w.alloc (Obj.cells #[Value.int .i64 b, Value.slice an rows.length cn, Value.slice ao out.length co] 27)).alloc (Obj.cells #[Value.int .i64 b', Value.slice an' rows'.length cn', Value.slice ao' out'.length co'] 27)) := ⟨_, rfl⟩
        rw [← hW] at HL HL' HC HC' HB ⊢
        obtain ⟨_, _, hv, hl, hca⟩ := HL.out.1.row
        injection hv with hv1 _ _
        subst hv1
        obtain ⟨_, _, hv, hl', hcb⟩ := HL'.out.1.row
        injection hv with hv1 _ _
        subst hv1
        have HA := Lib.hid hca
        have HB2 := Lib.hid hcb
        clear hca hcb hW
        have k0 := HC.out.c0
        have k1 := HC.out.c1
        have k2 := HC.out.c2
        have m0 := HC'.out.c0
        have m1 := HC'.out.c1
        have m2 := HC'.out.c2
        go_wp2
        go_loopw [5] (fun i' wr => ∃ k : Nat, k ≤ rows.length ∧ i' = .int .i64 k ∧ Hid (∀ (j : Nat) (x y : List Int), j < k → rows[j]? = some x → rows'[j]? = some y → x = y) ∧ ∃ n, wr = W.drewN n) (fun i' _ => rows.length - (intOf i').toNat)
        case atStart => exact ⟨0, Nat.zero_le _, rfl, fun j x y h => by omega, _, rfl⟩
        case round =>
          obtain ⟨k, hk, rfl, HI, n, rfl⟩ := hrel
          by_cases hlt : k < rows.length
          · obtain ⟨x, hx⟩ : ∃ x, rows[k]? = some x := ⟨_, List.getElem?_eq_getElem hlt⟩
            obtain ⟨y, hy⟩ : ∃ y, rows'[k]? = some y := ⟨_, List.getElem?_eq_getElem (by omega)⟩
            obtain ⟨p, o, ux, rfl, hc1, lx⟩ := HA.out k x hx
            obtain ⟨q, r, uy, rfl, hc2, ly⟩ := HB2.out k y hy
            have HX := Lib.hid hx
            have HY := Lib.hid hy
            have LX := Lib.hid lx
            have LY := Lib.hid ly
            clear hx hy lx ly
            by_cases he : x = y
            · have HN : Hid (∀ (j : Nat) (x y : List Int), j < k + 1 → rows[j]? = some x → rows'[j]? = some y → x = y) := fun j x' y' hj hx' hy' => by
                by_cases e : j = k
                · subst e
                  obtain rfl := Option.some.inj (HX.out.symm.trans hx')
                  obtain rfl := Option.some.inj (HY.out.symm.trans hy')
                  exact he
                · exact HI.out j x' y' (by omega) hx' hy'
              have HD := Lib.hid (fun w l l' => same_true ux uy x y w l l' he)
              clear he
              go_wp2
              go_quiet ((go_at_call 38; exact quiet_more (HD.out _ (Lies_drewN LX.out _) (Lies_drewN LY.out _))))
              go_wp2
              go_roundw
              case rel => exact ⟨k + 1, by omega, by go_num, HN, _, rfl⟩
              case measure => simp [intOf]; omega
            · have HF : Hid (sameB b b' rows rows' out out' = false) := by show _ = _; rw [HE.out]; exact decide_eq_false (list_ne HX.out HY.out he)
              have HD := Lib.hid (fun w l l' => same_false ux uy x y w l l' he)
              clear he
              go_wp2
              go_quiet ((go_at_call 38; exact quiet_more (HD.out _ (Lies_drewN LX.out _) (Lies_drewN LY.out _))))
              go_wp2
              go_ret
              exact ⟨ret_b HF.out.symm, endsE HB.out⟩
          · have HF : Hid (sameB b b' rows rows' out out' = true) := by show _ = _; rw [HE.out]; exact decide_eq_true (list_eq HLE.out fun j x y hj => HI.out j x y (by omega))
            go_wp2
            go_ret
            exact ⟨ret_b HF.out.symm, HB.out _⟩
      | false =>
        have HO := Lib.hid ho
        have HE : Hid (sameB b b' rows rows' out out' = false) := by show _ = _; rw [HQ.out, ho, Bool.and_false]
        clear ho HQ
        go_enter Try.func8, Try.ntmps8
        go_wp2_with fail
        refine (same_ints _ _ out out' _ HL.out.2 HL'.out.2).mono ?_
        rintro e w' ⟨rfl, n0, rfl⟩
        rw [HO.out]
        go_wp2
        go_ret
        exact ⟨ret_b HE.out.symm, HB.out _⟩
    · have hd1 : ((rows.length : Int) != (rows'.length : Int)) = true := by simp; omega
      have HE : Hid (sameB b b' rows rows' out out' = false) := by show _ = _; rw [HQ.out, decide_eq_false (fun e : rows = rows' => hlen (by rw [e]))]; rfl
      clear hlen HQ
      go_enter Try.func8, Try.ntmps8
      go_wp2
      go_ret
      exact ⟨ret_b HE.out.symm, HB.out 0⟩
  · have hd0 : (b != b') = true := by simpa using hb
    have HE : Hid (sameB b b' rows rows' out out' = false) := by show _ = _; rw [sameB, decide_eq_false hb]; rfl
    clear hb
    go_enter Try.func8, Try.ntmps8
    go_wp2
    go_ret
    exact ⟨ret_b HE.out.symm, HB.out 0⟩
end Seqs
end Go.Proofs.Ytodnkkofammhbaa
/- The search of the model for a pair in a list: what it has found. No conditions beyond those that each fact states. -/
namespace Go.Proofs.Ytodnkkofammhbaa
open Go.ChangeShapes Go.WideShapes Go.ChangeAt Go.RowKit
open Go.PlainAid Plain
set_option linter.unusedVariables false
namespace Comb
open Seqs
def FoundL (L : List Pr) (t : Pr) (k : Nat) (f : Int) : Prop := (f = -1 ∧ ∀ j < k, L[j]? ≠ some t) ∨ ∃ m : Nat, f = (m : Int) ∧ L[m]? = some t
theorem foundL_no {L : List Pr} {t x : Pr} {k : Nat} {f : Int} (hf : FoundL L t k f) (h0 : f < 0) (h : L[k]? = some x) (hx : ¬ x = t) : FoundL L t (k + 1) f := by
  rcases hf with ⟨h1, h2⟩ | ⟨m, rfl, _⟩
  · refine .inl ⟨h1, fun j hj hje => ?_⟩
    by_cases e : j = k
    · subst e
      rw [h] at hje
      exact hx (Option.some.inj hje)
    · exact h2 j (by omega) hje
  · omega
theorem foundL_end {L : List Pr} {t : Pr} {k : Nat} {f : Int} (hn : L.Nodup) (hf : FoundL L t k f) (he : f < 0 → L.length ≤ k) : (f = -1 ∧ t ∉ L) ∨ (0 ≤ f ∧ t ∈ L ∧ (ix L t : Int) = f) := by
  rcases hf with ⟨h1, h2⟩ | ⟨m, rfl, h⟩
  · refine .inl ⟨h1, fun hm => ?_⟩
    obtain ⟨j, hj⟩ := List.getElem?_of_mem hm
    have := (List.getElem?_eq_some_iff.1 hj).1
    exact h2 j (by have := he (by omega); omega) hj
  · exact .inr ⟨Int.natCast_nonneg _, List.mem_of_getElem? h, by rw [idxOf_get hn h]⟩
theorem pl_inj {s t : Pr} (h : pl s = pl t) : s = t := by
  unfold pl at h
  injection h with h1 h2
  injection h2 with h2
  exact Prod.ext h1 h2
theorem same_c {u v : Value} {xs ys : List Int} {w : World} {c : Bool} (h1 : Lies (Value.int .i64) w u xs) (h2 : Lies (Value.int .i64) w v ys) (hc : decide (xs = ys) = c) :
    Calls Try.prog 38 #[u, v] w fun e w' => e = .returned (.bool c) ∧ Below w.heap.size w w' :=
  (same_ints u v xs ys _ h1 h2).mono fun _ _ ⟨he, m, hm⟩ => ⟨by rw [he, hc], by rw [hm]; exact below_drewN (Below.refl _ _) m⟩
theorem has_lit2 {w : World} {base : Nat} (x y : Int) (hb : base ≤ w.heap.size) : Has (Value.int .i64) 3 (w.alloc (.cells #[.int .i64 x, .int .i64 y] 3)) base (.slice (some ⟨w.heap.size, 0, none⟩) 2 2) (pl (x, y)) :=
  Has.lit (enc := Value.int .i64) (e := 3) w (pl (x, y)) hb (by simp [pl])
end Comb
end Go.Proofs.Ytodnkkofammhbaa
/- A pair's slice lies neither in the terms' block nor in the struct's. No conditions beyond those that each fact states. -/
namespace Go.Proofs.Ytodnkkofammhbaa.Plain
open Go.RowKit
set_option linter.unusedVariables false
section
variable {w : World} {base hi p : Nat} {b : Int} {vn vo ve : Value} {us es : List Value} {rows : List (List Int)} {prs : List Pr} {out : List Int} {X : List (Value × List Int)}
theorem PM.at_far {i n : Nat} {s : Pr} (h : PM w base hi p b vn vo ve us es rows prs out X) (hs : prs[i]? = some s) {eq eo ec g c : Nat} (hve : ve = .slice (some ⟨eq, eo, none⟩) n ec) (hc0 : w.cell? ⟨eq, eo + i, none⟩ = some (.slice (some ⟨g, 0, none⟩) 2 c)) :
    (vo.ownBlock ≠ some g ∧ g ≠ p) ∧ vo.ownBlock ≠ some eq ∧ eq ≠ p := by
  have hi' : i < es.length := by rw [h.el]; exact (List.getElem?_eq_some_iff.1 hs).1
  obtain ⟨u, hu⟩ : ∃ u, es[i]? = some u := ⟨_, List.getElem?_eq_getElem hi'⟩
  obtain ⟨_, a, ca, hv, _, hc⟩ := h.etop.lies
  obtain ⟨q, o, h1, h2⟩ := hc i u hu
  rw [hve] at hv
  injection hv with e1 _ _
  rw [h1] at e1
  injection e1 with e1
  injection e1 with e1 e2
  subst e1; subst e2
  rw [hc0] at h2
  injection h2 with h2
  have h2' : u = .slice (some ⟨g, 0, none⟩) 2 c := h2.symm
  subst h2'
  have hz : (es.zip (prs.map pl))[i]? = some (.slice (some ⟨g, 0, none⟩) 2 c, pl s) := by
    rw [List.getElem?_zip_eq_some]
    exact ⟨hu, by rw [List.getElem?_map, hs]; rfl⟩
  have hm := List.mem_of_getElem? hz
  have hI : OwnI w base hi (.slice (some ⟨g, 0, none⟩) 2 c) (pl s) := h.fam.own (.slice (some ⟨g, 0, none⟩) 2 c, pl s) (by simp [hm])
  have ha := (List.pairwise_cons.1 (List.pairwise_append.1 h.fam.apart).2.1).1 _ (List.mem_append_right _ hm)
  have ht := h.etop.ne_top h.terms.has
  subst hve
  refine ⟨⟨fun e => ?_, fun e => has_ne_c3 hI.has h.cells (by decide) (by rw [← e]; rfl)⟩, fun e => ?_, fun e => has_ne_c3 h.etop h.cells (by decide) (by rw [← e]; rfl)⟩
  · rcases ha with h3 | h3
    · rw [e] at h3; cases h3
    · exact h3 (by rw [e]; rfl)
  · rcases ht with h3 | h3
    · cases h3
    · exact h3 (by rw [e]; rfl)
end
theorem cell_same {w w' : World} {a : Addr} (h : w'.heap[a.block]? = w.heap[a.block]?) : w'.cell? a = w.cell? a := by simp only [World.cell?, h]
end Go.Proofs.Ytodnkkofammhbaa.Plain
