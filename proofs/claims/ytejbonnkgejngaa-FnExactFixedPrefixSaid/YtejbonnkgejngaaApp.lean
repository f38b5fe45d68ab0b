/- Contracts of ApplyMorphism and IterateMorphism, of the model and of the program. No conditions beyond those that each states. -/
import Derived.Test.YtejbonnkgejngaaMorI
import Derived.Test.YtejbonnkgejngaaLists2
import Derived.Test.YtejbonnkgejngaaSeqs3
import Derived.StillTailTactics
import Derived.Deep.DeepCutAuto
namespace Go.Proofs.Ytejbonnkgejngaa
open Go.ChangeShapes Go.WideShapes Go.ChangeAt Go.RowKit
open Go.PlainAid Plain
set_option linter.unusedVariables false
namespace Mor
open Seqs
theorem appK_no1 {m : List (List Int)} {w : List Int} (h : morB m = false) : appK m w = false := by simp [appK, h]
theorem appK_no2 {m : List (List Int)} {w : List Int} (h : wordB w m.length = false) : appK m w = false := by simp [appK, h]
theorem appK_no3 {m : List (List Int)} {w : List Int} (h : 400 < (appL m w).length) : appK m w = false := by simp [appK]; intros; omega
theorem appV_no {m : List (List Int)} {w : List Int} (h : appK m w = false) : appV m w = [] := by simp [appV, h]
theorem appV_yes {m : List (List Int)} {w : List Int} (h : appK m w = true) : appV m w = appL m w := by simp [appV, h]
/-- Both results of a call that says no. -/
theorem ik_no {m : List (List Int)} {w : List Int} {W : World} {e : Ending} {W' : World} (h : appK m w = false) (hg : GivesIK [] false W e W') : GivesIK (appV m w) (appK m w) W e W' := by rw [appV_no h, h]; exact hg
theorem ik_yes {m : List (List Int)} {w : List Int} {W : World} {e : Ending} {W' : World} (h : appK m w = true) (hg : GivesIK (appL m w) true W e W') : GivesIK (appV m w) (appK m w) W e W' := by rw [appV_yes h, h]; exact hg
theorem has_none (w : World) (base : Nat) : Has (Value.int .i64) 3 w base (.slice none 0 0) [] := World.ownsRow_nil _ _ _ _
theorem lies_el {w : World} {a : Option Addr} {n c : Nat} {xs : List Int} {i : Nat} {x : Int} (h : Lies (Value.int .i64) w (.slice a n c) xs) (hx : xs[i]? = some x) : ∃ b off, a = some ⟨b, off, none⟩ ∧ w.cell? ⟨b, off + i, none⟩ = some (.int .i64 x) := by
  obtain ⟨_, a', c', hv, _, hc⟩ := h
  injection hv with e1 e2 e3
  subst e1
  exact hc i x hx
/-- A letter of a word, its image. -/
theorem word_el {m : List (List Int)} {xs : List Int} {i : Nat} (hm : IsMor m) (hw : IsWd xs m.length) (hi : i < xs.length) : ∃ (xn : Nat) (r : List Int), xs[i]? = some (xn : Int) ∧ xn < m.length ∧ m[xn]? = some r ∧ r.length ≤ 8 ∧ appL m (xs.take (i + 1)) = appL m (xs.take i) ++ r := by
  obtain ⟨x, hx⟩ : ∃ x, xs[i]? = some x := ⟨_, List.getElem?_eq_getElem hi⟩
  have hxb := hw.2.2.2 x (List.mem_of_getElem? hx)
  obtain ⟨h1, h2, _⟩ := hm.img hxb.1 hxb.2
  have e : ((x.toNat : Nat) : Int) = x := by omega
  exact ⟨x.toNat, _, by rw [e]; exact hx, by omega, h1, h2, appL_take_succ hx⟩
theorem app_take_400 {m : List (List Int)} {xs : List Int} {i : Nat} (h : 400 < (appL m (xs.take i)).length) : 400 < (appL m xs).length := Nat.lt_of_lt_of_le h (appL_take_le m xs i)
set_option maxHeartbeats 1000000 in
theorem spec_app (v u : Value) (m : List (List Int)) (xs : List Int) (w : World) (h : LiesM w v m) (hx : Lies (Value.int .i64) w u xs) :
    Calls Try.prog 21 #[v, u] w (GivesIK (appV m xs) (appK m xs) w) := by
  obtain ⟨i0, hi, hz0, hz1, hz2⟩ := info_parts Ints.infoI
  obtain ⟨an, cn, rfl⟩ := h.form
  have HX := Lib.hid hx
  have HM := Lib.hid h
  obtain ⟨hxl, ax, cx, rfl, _, _⟩ := hx
  have hB : Below w.heap.size w ((w.alloc (Obj.cells #[Value.slice an m.length cn] 31)).alloc (Obj.cells #[] 3)) := ((Below.refl _ _).alloc (Nat.le_refl _) _).alloc (by simp) _
  have HB := Lib.hid hB
  have HC := Lib.hid ((Cells1.new w 31 (.slice an m.length cn)).alloc (Obj.cells #[] 3))
  have HO : Hid (Has (Value.int .i64) 3 ((w.alloc (Obj.cells #[Value.slice an m.length cn] 31)).alloc (Obj.cells #[] 3)) (w.heap.size + 1) (.slice (some ⟨w.heap.size + 1, 0, none⟩) 0 0) []) := has_lit0 (by simp) (by simp)
  have HZ : Hid (w.heap.size + 1 ≤ ((w.alloc (Obj.cells #[Value.slice an m.length cn] 31)).alloc (Obj.cells #[] 3)).heap.size) := by show _ ≤ _; simp
  clear h hB
  go_enter Try.func21, Try.ntmps21
  go_wp2_with fail
  refine (spec_mor _ m _ (HM.out.below HB.out)).mono ?_
  rintro e W1 ⟨rfl, hb⟩
  have HB1 := Lib.hid (HB.out.trans (hb.mono HB.out.size))
  have HC1 := Lib.hid (HC.out.below hb)
  have HO1 := Lib.hid (HO.out.below hb)
  have HZ1 := Lib.hid (Nat.le_trans HZ.out hb.size)
  have k0 := HC1.out.c0
  clear hb HC HB HO HZ
  obtain ⟨c, hc⟩ : ∃ c, morB m = c := ⟨_, rfl⟩
  rw [hc]
  have HMB := Lib.hid hc
  clear hc
  cases c with
  | false =>
    go_wp2
    go_ret2
    exact ik_no (appK_no1 HMB.out) ⟨_, rfl, HO1.out.mono (by omega), HB1.out⟩
  | true =>
    go_wp2_with fail
    refine (spec_word _ xs m.length _ (HX.out.below HB1.out)).mono ?_
    rintro e w' ⟨rfl, rfl⟩
    obtain ⟨c, hc⟩ : ∃ c, wordB xs m.length = c := ⟨_, rfl⟩
    rw [hc]
    have HWB := Lib.hid hc
    clear hc
    cases c with
    | false =>
      go_wp2
      go_ret2
      exact ik_no (appK_no2 HWB.out) ⟨_, rfl, HO1.out.mono (by omega), HB1.out⟩
    | true =>
      go_wp2
      clear k0
      go_loopw [6, 7] (fun o' i' wr => ∃ (i : Nat) (vo : Value), i ≤ xs.length ∧ i' = .int .i64 i ∧ vo = o' ∧ Hid (Has (Value.int .i64) 3 wr (w.heap.size + 1) vo (appL m (xs.take i))) ∧ Hid (Cells1 wr w.heap.size 31 (.slice an m.length cn)) ∧ Hid (Below w.heap.size w wr) ∧ Hid ((appL m (xs.take i)).length ≤ 400 ∧ w.heap.size + 1 ≤ wr.heap.size)) (fun _ i' _ => xs.length - (intOf i').toNat)
      case atStart => exact ⟨0, _, Nat.zero_le _, rfl, rfl, HO1, HC1, HB1, by simp [appL], HZ1.out⟩
      case round =>
        obtain ⟨i, vo, hi', rfl, rfl, HOr, HCr, HBr, HLr⟩ := hrel
        by_cases hlt : i < xs.length
        · obtain ⟨xn, r, hxi, hxn, hr, hr8, hT⟩ := word_el (morB_out HMB.out) (wordB_out HWB.out) hlt
          obtain ⟨oa, oc, rfl, _⟩ := HOr.out.form
          obtain ⟨q, s, rfl, hcx⟩ := lies_el (HX.out.below HBr.out) hxi
          obtain ⟨p, o, ua, uc, rfl, hcr, hlr⟩ := rows_at (HM.out.rows.below HBr.out) hr
          have k0 := HCr.out.c0
          have HT := Lib.hid hT
          have HLR := Lib.hid (hlr.below (below_drew' _))
          have HO2 := Lib.hid (HOr.out.below (below_drew' _))
          have HC2 := Lib.hid (HCr.out.below (below_drew' _))
          have HB2 := Lib.hid (HBr.out.trans ((below_drew' _).mono HBr.out.size))
          have HZ2 : Hid (w.heap.size + 1 ≤ wr.drew.heap.size) := HLr.out.2
          have hL4 := HLr.out.1
          clear hxi hr hT hlr HOr HBr HCr
          go_wp2
          go_still_tail 9, (by kernel_rfl)
          change wpList _ _ _ _ _ wr.drew
          generalize wr.drew = W2 at HLR HO2 HC2 HB2 HZ2 ⊢
          clear k0 hcx hcr
          obtain ⟨L, hL⟩ : ∃ L, L = appL m (xs.take i) := ⟨_, rfl⟩
          rw [← hL] at HO2 HT hL4 ⊢
          clear hL HLr
          by_cases h400 : L.length + r.length ≤ 400
          · have hd := decide_eq_false (show ¬ ((L ++ r).length : Int) > 400 by rw [List.length_append]; omega)
            go_wp2_with (refine append_lies (enc := (Value.int .i64)) (e := 3) _ rfl _ _ 22 rfl (w.heap.size + 1) i0 (.int .i64 0) 8 Try.underlying22 hi hz0 hz1 hz2 rfl (.slice oa L.length oc) L rfl HO2.out (.slice ua r.length uc) r rfl HLR.out (fun _ => rfl) (by omega) (by omega) HZ2.out ?_; intro v' w1 ho hg; obtain ⟨oa', oc', rfl, _⟩ := ho.form; have HO3 := Lib.hid ho; have HC3 := Lib.hid (HC2.out.grown hg (fun e => by have := HO2.out.lt _ e; omega)); have HB3 := Lib.hid (HO2.out.frame HB2.out (by omega) hg); have HZ3 := Lib.hid (Nat.le_trans HZ2.out hg.size); clear hg ho)
            have HO4 : Hid (Has (Value.int .i64) 3 w1 (w.heap.size + 1) (.slice oa' (L.length + r.length) oc') (appL m (xs.take (i + 1)))) := by
              show Has _ _ _ _ _ _
              rw [HT.out, ← List.length_append]
              exact HO3.out
            go_roundw
            case rel => exact ⟨i + 1, _, by omega, by go_num, rfl, HO4, HC3, HB3, by rw [HT.out, List.length_append]; exact h400, HZ3.out⟩
            case measure => simp [intOf]; omega
          · have hd := decide_eq_true (show ((L ++ r).length : Int) > 400 by rw [List.length_append]; omega)
            have HN : Hid (appK m xs = false) := appK_no3 (app_take_400 (i := i + 1) (by rw [HT.out, List.length_append]; omega))
            go_wp2_with (refine append_lies (enc := (Value.int .i64)) (e := 3) _ rfl _ _ 22 rfl (w.heap.size + 1) i0 (.int .i64 0) 8 Try.underlying22 hi hz0 hz1 hz2 rfl (.slice oa L.length oc) L rfl HO2.out (.slice ua r.length uc) r rfl HLR.out (fun _ => rfl) (by omega) (by omega) HZ2.out ?_; intro v' w1 ho hg; obtain ⟨oa', oc', rfl, _⟩ := ho.form; have HB3 := Lib.hid (HO2.out.frame HB2.out (by omega) hg); clear hg ho)
            go_ret2
            exact ik_no HN.out ⟨_, rfl, has_lit0 rfl HB3.out.size, HB3.out.alloc HB3.out.size _⟩
        · have HE : Hid (appK m xs = true ∧ Has (Value.int .i64) 3 wr (w.heap.size + 1) vo (appL m xs)) := by
            have h1 := HOr.out
            have h2 := HLr.out.1
            rw [List.take_of_length_le (by omega)] at h1 h2
            exact ⟨appK_yes (morB_out HMB.out) (wordB_out HWB.out) h2, h1⟩
          clear HOr
          go_wp2
          go_ret2
          exact ik_yes HE.out.1 ⟨_, rfl, HE.out.2.mono (by omega), HBr.out⟩
end Mor
end Go.Proofs.Ytejbonnkgejngaa
