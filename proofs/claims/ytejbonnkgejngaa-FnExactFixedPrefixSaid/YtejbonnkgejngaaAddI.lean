/- Contract of the program's growing word: an image is put behind its letters. No conditions beyond those that each states. -/
import Derived.Test.YtejbonnkgejngaaApp
import Derived.Test.YtejbonnkgejngaaCellsN
namespace Go.Proofs.Ytejbonnkgejngaa
open Go.ChangeShapes Go.WideShapes Go.ChangeAt Go.RowKit
open Go.PlainAid Plain
set_option linter.unusedVariables false
namespace Mor
open Seqs
theorem CellsN.grown_has {w w' : World} {b base : Nat} {t : TypeId} {l : List Value} {v : Value} {xs : List Int} (h : CellsN w b t l) (ho : Has (Value.int .i64) 3 w base v xs) (hb : b < base) (hg : w.grownBy w' v.ownBlock) : CellsN w' b t l :=
  h.grown hg fun e => by have := ho.lt _ e; omega
/-- A growing word: its struct in block B, its letters behind that. -/
structure GWord (w : World) (B : Nat) (im v : Value) (xs : List Int) : Prop where
  cells : CellsN w B 52 [im, v]
  has : Has (Value.int .i64) 3 w (B + 1) v xs
theorem GWord.below {w w' : World} {B : Nat} {im v : Value} {xs : List Int} (h : GWord w B im v xs) (hb : Below w.heap.size w w') : GWord w' B im v xs := ⟨h.cells.below hb, h.has.below hb⟩
theorem add_image (B xn : Nat) (an : Option Addr) (cn : Nat) (m : List (List Int)) (vo : Value) (L r : List Int) (W : World) (hw : GWord W B (.slice an m.length cn) vo L) (hm : LiesR W (.slice an m.length cn) m) (hr : m[xn]? = some r) (hL : L.length + r.length ≤ 1000000) :
    Calls Try.prog 38 #[.pointer (some ⟨B, 0, none⟩), .int .i64 xn] W fun e w' => e = .returned (.tuple #[]) ∧ ∃ v', GWord w' B (.slice an m.length cn) v' (L ++ r) ∧ Below B W w' := by
  obtain ⟨i0, hi, hz0, hz1, hz2⟩ := info_parts Ints.infoI
  obtain ⟨oa, oc, rfl, _⟩ := hw.has.form
  obtain ⟨p, o, ua, uc, rfl, hcr, hlr⟩ := rows_at hm hr
  have hxm : xn < m.length := (List.getElem?_eq_some_iff.1 hr).1
  have hml := rows_small hm
  have k0 := hw.cells.at_ (i := 0) rfl
  have k1 := hw.cells.at_ (i := 1) rfl
  have kf := hw.cells.f
  have HC := Lib.hid hw.cells
  have HO := Lib.hid hw.has
  have HLR := Lib.hid hlr
  have hBW : Hid (B + 1 ≤ W.heap.size) := hw.cells.lt
  clear hw hm hr hlr
  go_enter Try.func38, Try.ntmps38
  go_wp2
  go_region_law ((refine step_append_list (enc := (Value.int .i64)) (e := 3) rfl (.tmp 8) (.tmp 15) 22 rfl (B + 1) i0 (.int .i64 0) 8 Try.underlying22 hi hz0 hz1 hz2 rfl (.slice oa L.length oc) L rfl (by repeat (first | with_reducible exact HO.out | with_reducible apply has_drew)) (.slice ua r.length uc) r rfl (by repeat (first | with_reducible exact HLR.out | with_reducible apply lies_drew)) (fun _ _ => rfl) (by omega) (by omega) (by exact hBW.out) ?_; intro v' w1 ho hg; obtain ⟨oa', oc', hvf, _⟩ := ho.form; rw [List.length_append] at hvf; subst hvf; refine with_fact (T := W.grownBy w1 (Value.slice oa L.length oc).ownBlock) ?_ ?_; (focus (exact grown_drew hg)); intro hg1; have hc1 := CellsN.grown_has HC.out HO.out (Nat.lt_succ_self B) hg1; have r1 := hc1.at_ (i := 1) rfl; have rf := hc1.f))
  all_goals
    go_wp2
    go_end0
    have hcc := hc1.set 1 (.slice oa' (L.length + r.length) oc')
    have hB1 : Below B W w1 := ⟨hg1.os, hg1.tape, hg1.output, hg1.size, fun k hk => hg1.block k (by have := hBW.out; omega) fun e => by have := HO.out.lt k e.symm; omega⟩
    refine ⟨rfl, _, ⟨hcc, ?_⟩, hB1.setCell (Nat.le_refl _) _⟩
    exact ho.of_same fun k hk => by
      have : B ≠ k := by have := (ho.lt k hk).1; omega
      simp [World.setCell, Array.getElem?_modify, this]
set_option maxHeartbeats 1000000 in
theorem impl_app (v u : Value) (m : List (List Int)) (xs : List Int) (w : World) (h : LiesM w v m) (hx : Lies (Value.int .i64) w u xs) :
    Calls Try.prog 22 #[v, u] w (GivesIK (appV m xs) (appK m xs) w) := by
  obtain ⟨an, cn, rfl⟩ := h.form
  have HX := Lib.hid hx
  have HM := Lib.hid h
  obtain ⟨hxl, ax, cx, rfl, _, _⟩ := hx
  have hB : Below w.heap.size w (w.alloc (Obj.cells #[Value.slice an m.length cn] 31)) := (Below.refl _ _).alloc (Nat.le_refl _) _
  have HB := Lib.hid hB
  have HC := Lib.hid (Cells1.new w 31 (.slice an m.length cn))
  clear h hB
  go_enter Try.func22, Try.ntmps22
  go_wp2_with fail
  refine (impl_mor _ m _ (HM.out.below HB.out)).mono ?_
  rintro e W1 ⟨rfl, hb⟩
  have HB1 := Lib.hid (HB.out.trans (hb.mono HB.out.size))
  have HC1 := Lib.hid (HC.out.below hb)
  have k0 := HC1.out.c0
  clear hb HC HB
  obtain ⟨c, hc⟩ : ∃ c, morB m = c := ⟨_, rfl⟩
  rw [hc]
  have HMB := Lib.hid hc
  clear hc
  cases c with
  | false =>
    go_wp2
    go_ret2
    exact ik_no (appK_no1 HMB.out) ⟨_, rfl, has_none _ _, HB1.out⟩
  | true =>
    go_wp2_with fail
    refine (impl_word _ xs m.length _ (HX.out.below HB1.out)).mono ?_
    rintro e W2 ⟨rfl, hb⟩
    have HB2 := Lib.hid (HB1.out.trans (hb.mono HB1.out.size))
    have HC2 := Lib.hid (HC1.out.below hb)
    clear hb HC1 HB1 k0
    have k0 := HC2.out.c0
    obtain ⟨c, hc⟩ : ∃ c, wordB xs m.length = c := ⟨_, rfl⟩
    rw [hc]
    have HWB := Lib.hid hc
    clear hc
    cases c with
    | false =>
      go_wp2
      go_ret2
      exact ik_no (appK_no2 HWB.out) ⟨_, rfl, has_none _ _, HB2.out⟩
    | true =>
      go_wp2
      have HG0 : Hid (GWord (W2.alloc (Obj.cells #[.slice an m.length cn, .slice none 0 0] 52)) W2.heap.size (.slice an m.length cn) (.slice none 0 0) []) := ⟨CellsN.new W2 52 [.slice an m.length cn, .slice none 0 0], has_none _ _⟩
      have HB3 : Hid (Below w.heap.size w (W2.alloc (Obj.cells #[.slice an m.length cn, .slice none 0 0] 52))) := HB2.out.alloc HB2.out.size _
      have HS : Hid (w.heap.size ≤ W2.heap.size) := HB2.out.size
      obtain ⟨B, hBB⟩ : ∃ B, B = W2.heap.size := ⟨_, rfl⟩
      rw [← hBB] at HG0 HS ⊢
      generalize W2.alloc (Obj.cells #[.slice an m.length cn, .slice none 0 0] 52) = W3 at HG0 HB3 ⊢
      clear k0 HC2 HB2 hBB
      go_loopw [26] (fun i' wr => ∃ (i : Nat) (vo : Value), i ≤ xs.length ∧ i' = .int .i64 i ∧ Hid (GWord wr B (.slice an m.length cn) vo (appL m (xs.take i))) ∧ Hid (Below w.heap.size w wr)) (fun i' _ => xs.length - (intOf i').toNat)
      case atStart => exact ⟨0, _, Nat.zero_le _, rfl, HG0, HB3⟩
      case round =>
        obtain ⟨i, vo, hi', rfl, HGr, HBr⟩ := hrel
        by_cases hlt : i < xs.length
        · obtain ⟨xn, r, hxi, hxn, hr, hr8, hT⟩ := word_el (morB_out HMB.out) (wordB_out HWB.out) hlt
          obtain ⟨q, s, rfl, hcx⟩ := lies_el (HX.out.below HBr.out) hxi
          have HT := Lib.hid hT
          have HR := Lib.hid hr
          have HLB : Hid ((appL m (xs.take i)).length + r.length ≤ 1000000) := by
            show _ ≤ _
            have h1 := app_len8 (morB_out HMB.out) (xs.take i) fun x hx => (wordB_out HWB.out).2.2.2 x (List.mem_of_mem_take hx)
            have h2 := (wordB_out HWB.out).2.2.1
            rw [List.length_take] at h1
            omega
          clear hxi hr hT
          go_wp2_with fail
          refine (add_image B xn an cn m vo _ r _ HGr.out (HM.out.rows.below HBr.out) HR.out HLB.out).mono ?_
          rintro e W4 ⟨rfl, v', hg, hb⟩
          have HG4 : Hid (GWord W4 B (.slice an m.length cn) v' (appL m (xs.take (i + 1)))) := by show GWord _ _ _ _ _; rw [HT.out]; exact hg
          have HB4 := Lib.hid (HBr.out.trans (hb.mono HS.out))
          clear hg hb HBr HGr
          go_wp2
          go_roundw
          case rel => exact ⟨i + 1, v', by omega, by go_num, HG4, HB4⟩
          case measure => simp [intOf]; omega
        · have HG4 : Hid (GWord wr B (.slice an m.length cn) vo (appL m xs)) := by
            have h1 := HGr.out
            rw [List.take_of_length_le (by omega)] at h1
            exact h1
          obtain ⟨oa, oc, rfl, _⟩ := HG4.out.has.form
          have k1 := HG4.out.cells.at_ (i := 1) rfl
          clear HGr
          by_cases h400 : (appL m xs).length ≤ 400
          · have hd := decide_eq_false (show ¬ ((appL m xs).length : Int) > 400 by omega)
            have HE := Lib.hid (appK_yes (morB_out HMB.out) (wordB_out HWB.out) h400)
            go_wp2
            go_ret2
            exact ik_yes HE.out ⟨_, rfl, HG4.out.has.mono (Nat.le_succ_of_le HS.out), HBr.out⟩
          · have hd := decide_eq_true (show ((appL m xs).length : Int) > 400 by omega)
            have HE := Lib.hid (appK_no3 (m := m) (w := xs) (by omega))
            go_wp2
            go_ret2
            exact ik_no HE.out ⟨_, rfl, has_none _ _, HBr.out⟩
theorem has_let (v : Value) (m : List (List Int)) (a : Int) (w : World) (h : LiesM w v m) :
    Calls Try.prog 40 #[v, .int .i64 a] w fun e w' => e = .returned (.bool (letB m a)) ∧ Below w.heap.size w w' := by
  obtain ⟨an, cn, rfl⟩ := h.form
  clear h
  by_cases h0 : 0 ≤ a
  · have hd := decide_eq_true (show a ≥ 0 from h0)
    have HE : Hid (letB m a = decide (a < (m.length : Int))) := by show _ = _; unfold letB; rw [decide_eq_decide]; omega
    go_enter Try.func40, Try.ntmps40
    go_wp2
    go_ret
    exact ⟨ret_b HE.out.symm, (Below.refl _ _).alloc (Nat.le_refl _) _⟩
  · have hd := decide_eq_false (show ¬ a ≥ 0 from h0)
    have HE : Hid (letB m a = false) := decide_eq_false (by omega)
    go_enter Try.func40, Try.ntmps40
    go_wp2
    go_ret
    exact ⟨ret_b HE.out.symm, (Below.refl _ _).alloc (Nat.le_refl _) _⟩
end Mor
end Go.Proofs.Ytejbonnkgejngaa
