/- Several texts of this proof, one behind the other: each says ahead of it what it shows and under which conditions. -/
import Derived.Test.YtpndclpmhelikaaMM3
import Derived.Test.YtpndclpmhelikaaMM7
import Derived.Deep.DeepCutAuto
import Derived.Deep.RegionHeld3
/- The walk of the law on minimal forms: it returns true for every code of bytes. No conditions beyond those that it states. -/
namespace Go.Proofs.Ytpndclpmhelikaa
open Go.ChangeShapes Go.WideShapes Go.ChangeAt Go.RowKit
open Go.PlainAid Plain
set_option linter.unusedVariables false
namespace Mins
open Seqs Digits Ints Cursor
def Since (w0 w : World) : Prop := Below w0.heap.size w0 w
theorem Since.below {w0 w w' : World} (h : Since w0 w) (hb : Below w.heap.size w w') : Since w0 w' := Below.trans h (hb.mono (Below.size h))
theorem few_size {rows : List (List Int)} {out : List Int} (h : SeqFew rows out) : rows.length + tot rows + out.length ≤ 1048576 := by
  have h1 := tot_le4 rows h.2.2
  have h2 := h.1
  have h3 := h.2.1
  omega
theorem valid_size {b : Int} {rows : List (List Int)} {out : List Int} (h : IsSeq b rows out) : rows.length + tot rows + out.length ≤ 1048576 := by
  have h1 := seq_rows4 (seqB_yes h)
  have h2 := tot_le4 rows h1.1
  omega
theorem equal_self (u v : Value) (b : Int) (rows : List (List Int)) (out : List Int) (w : World) (h1 : LiesS w u b rows out) (h2 : LiesS w v b rows out) :
    Calls Try.prog 8 #[u, v] w fun e w' => e = .returned (.bool true) ∧ Below w.heap.size w w' :=
  (spec_equal u v b b rows rows out out w h1 h2).mono fun _ _ ⟨he, hb⟩ => ⟨by rw [he]; simp [sameB], hb⟩
theorem form_sequence {b : Int} {rows : List (List Int)} {out : List Int} (h : formK b rows out = true) : seqB b rows out = true := by
  simp only [formK, steadyB, Bool.or_eq_true, Bool.and_eq_true] at h
  rcases h with h | h <;> exact h.1
theorem pref_min {b : Int} {rows : List (List Int)} {out : List Int} (h : formK b rows out = true) (n : Int) : prefV b (minRV b rows out) (minOV b rows out) n = prefV b rows out n := by
  have hm := min_valid h
  have hB : formB b rows out = b := by rw [formB, if_pos h]
  rw [hB] at hm
  unfold prefV prefB
  rw [seqB_yes hm, form_sequence h]
  have e : ∀ k, termsG b (minRV b rows out) (minOV b rows out) k = termsG b rows out k := fun k => by
    unfold termsG
    exact List.map_congr_left fun j _ => min_term h j
  simp only [e]
theorem same_no_diff {b b' : Int} {rows rows' : List (List Int)} {out out' : List Int} (h : sameT b b' rows rows' out out' = true) : diffK b b' rows rows' out out' = false := by
  simp only [sameT, sameB, Bool.and_eq_true, decide_eq_true_eq] at h
  obtain ⟨⟨hk, hk'⟩, ⟨h1, h2⟩, h3⟩ := h
  have e1 : b = b' := by
    rw [formB, if_pos hk, formB, if_pos hk'] at h1
    exact h1
  subst e1
  refine diff_same fun j _ => ?_
  rw [← min_term hk j, ← min_term hk' j, h2, h3]
set_option maxRecDepth 100000 in
set_option maxHeartbeats 8000000 in
theorem walk (w : World) (a : Option Addr) (len cap : Nat) (hlen : len ≤ 1048576) (hcode : Cursor.CodeIs w w.heap.size a len) :
    Calls Try.prog 3 #[.slice a len cap] w fun e w' => e = .returned (.bool true) ∧ Below w.heap.size w w' := by
  have HC := Lib.hid hcode
  clear hcode
  have HB_0 : Hid (Below w.heap.size w w) := Below.refl _ _
  go_enter Try.func3, Try.ntmps3
  go_wp2_with fail
  refine (Cursor.big_no w a len cap hlen).mono ?_
  rintro e W' ⟨rfl, rfl⟩
  go_wp2_with fail
  refine (Cursor.drawMinimal w a len cap hlen HC.out).mono ?_
  rintro e W1 ⟨vs, b0, rows0, out0, hok, rfl, h1, fb1⟩
  have HB_1 := Lib.hid (HB_0.out.trans (fb1.mono HB_0.out.size))
  have Z1 := Lib.hid (fb1.size)
  have Rs_1 := Lib.hid h1
  clear HB_0 fb1 h1
  have hz := few_size hok.few
  clear hok
  have HZ := Lib.hid hz
  have HMM := Lib.hid (fun h : formK b0 rows0 out0 = true => min_min h)
  have HPM := Lib.hid (fun h : formK b0 rows0 out0 = true => pref_min h 60)
  have HMV := Lib.hid (fun h : formK b0 rows0 out0 = true => valid_size (min_valid h))
  have HFB := Lib.hid (fun h : formK b0 rows0 out0 = true => show formB b0 rows0 out0 = b0 by rw [formB, if_pos h])
  have CI := Lib.hid (fun (W : World) (u : Value) (l : LiesS W u b0 rows0 out0) => impl_min u b0 rows0 out0 W l hz)
  have CS := Lib.hid (fun (W : World) (u : Value) (l : LiesS W u b0 rows0 out0) => spec_min u b0 rows0 out0 W l hz)
  have CII := Lib.hid (fun (W : World) (u : Value) (l : LiesS W u b0 rows0 out0) => impl_ismin u b0 rows0 out0 W l hz)
  have CIS := Lib.hid (fun (W : World) (u : Value) (l : LiesS W u b0 rows0 out0) => spec_ismin u b0 rows0 out0 W l hz)
  have CRI := Lib.hid (fun (W : World) (u : Value) (l : LiesS W u b0 rows0 out0) => impl_reach u b0 rows0 out0 W l)
  have CRS := Lib.hid (fun (W : World) (u : Value) (l : LiesS W u b0 rows0 out0) => spec_reach u b0 rows0 out0 W l)
  have CCI := Lib.hid (fun (W : World) (u : Value) (l : LiesS W u b0 rows0 out0) => impl_class u b0 rows0 out0 W l)
  have CCS := Lib.hid (fun (W : World) (u : Value) (l : LiesS W u b0 rows0 out0) => spec_class u b0 rows0 out0 W l)
  clear hz
  obtain ⟨yk, hyk⟩ : ∃ y, y = formK b0 rows0 out0 := ⟨_, rfl⟩
  obtain ⟨yr, hyr⟩ : ∃ y, y = minRV b0 rows0 out0 := ⟨_, rfl⟩
  obtain ⟨yo, hyo⟩ : ∃ y, y = minOV b0 rows0 out0 := ⟨_, rfl⟩
  obtain ⟨yb, hyb⟩ : ∃ y, y = formB b0 rows0 out0 := ⟨_, rfl⟩
  obtain ⟨im, him⟩ : ∃ y, y = isMinB b0 rows0 out0 := ⟨_, rfl⟩
  obtain ⟨rl, hrl⟩ : ∃ y, y = reachV b0 rows0 out0 := ⟨_, rfl⟩
  obtain ⟨cl, hcl⟩ : ∃ y, y = classV b0 rows0 out0 := ⟨_, rfl⟩
  rw [← hyk] at HMM HPM HMV HFB
  rw [← hyr, ← hyo] at HMM HPM HMV
  rw [← hyb] at HFB
  rw [← hyb, ← hyr, ← hyo, ← hyk] at CI CS
  rw [← him] at CII CIS
  rw [← hrl] at CRI CRS
  rw [← hcl] at CCI CCS
  have HYK := Lib.hid hyk
  have hkk : (yk != yk) = false := by simp
  have hii : (im != im) = false := by simp
  clear hyb hyr hyo hyk him hrl hcl
  obtain ⟨ans, cns, aos, cos, rfl⟩ := Rs_1.out.form
  go_wp2_with fail
  have bx2 : Below W1.heap.size W1 (W1.alloc (Obj.cells #[.int .i64 b0, .slice ans rows0.length cns, .slice aos out0.length cos] 27)) := (Below.refl _ _).alloc (Nat.le_refl _) _
  have cx2 := Cells3.new W1 27 (.int .i64 b0) (.slice ans rows0.length cns) (.slice aos out0.length cos)
  have hz2 : (W1.alloc (Obj.cells #[.int .i64 b0, .slice ans rows0.length cns, .slice aos out0.length cos] 27)).heap.size = W1.heap.size + 1 := size_alloc' _ _
  obtain ⟨W2, hW2⟩ : ∃ W, W = (W1.alloc (Obj.cells #[.int .i64 b0, .slice ans rows0.length cns, .slice aos out0.length cos] 27)) := ⟨_, rfl⟩
  rw [← hW2] at bx2 cx2 hz2 ⊢
  have HB_2 := Lib.hid (HB_1.out.trans (bx2.mono HB_1.out.size))
  have Rs_2 := Lib.hid (Rs_1.out.below bx2)
  have Z2 := Lib.hid (bx2.size)
  have CS_2 := Lib.hid cx2
  have Z3 := Lib.hid hz2
  clear Rs_1 HB_1 bx2 hW2 cx2
  clear hz2
  refine (CI.out _ _ Rs_2.out.lies).mono ?_
  rintro e W3 ⟨vx, rfl, h3, fb3⟩
  have HB_3 := Lib.hid (HB_2.out.trans (fb3.mono HB_2.out.size))
  have CS_3 := Lib.hid (CS_2.out.below fb3)
  have Rs_3 := Lib.hid (Rs_2.out.below fb3)
  have Z4 := Lib.hid (fb3.size)
  have Rx_3 := Lib.hid h3
  clear CS_2 Rs_2 HB_2 fb3 h3
  obtain ⟨anx, cnx, aox, cox, rfl⟩ := Rx_3.out.form
  have kS0 := (CS_3.out.alloc (Obj.cells #[.int .i64 yb, .slice anx yr.length cnx, .slice aox yo.length cox] 27)).c0
  have kS1 := (CS_3.out.alloc (Obj.cells #[.int .i64 yb, .slice anx yr.length cnx, .slice aox yo.length cox] 27)).c1
  have kS2 := (CS_3.out.alloc (Obj.cells #[.int .i64 yb, .slice anx yr.length cnx, .slice aox yo.length cox] 27)).c2
  go_wp2_with fail
  clear kS0 kS1 kS2
  have bx4 : Below W3.heap.size W3 (W3.alloc (Obj.cells #[.int .i64 yb, .slice anx yr.length cnx, .slice aox yo.length cox] 27)) := (Below.refl _ _).alloc (Nat.le_refl _) _
  have cx4 := Cells3.new W3 27 (.int .i64 yb) (.slice anx yr.length cnx) (.slice aox yo.length cox)
  have hz4 : (W3.alloc (Obj.cells #[.int .i64 yb, .slice anx yr.length cnx, .slice aox yo.length cox] 27)).heap.size = W3.heap.size + 1 := size_alloc' _ _
  obtain ⟨W4, hW4⟩ : ∃ W, W = (W3.alloc (Obj.cells #[.int .i64 yb, .slice anx yr.length cnx, .slice aox yo.length cox] 27)) := ⟨_, rfl⟩
  rw [← hW4] at bx4 cx4 hz4 ⊢
  have HB_4 := Lib.hid (HB_3.out.trans (bx4.mono HB_3.out.size))
  have CS_4 := Lib.hid (CS_3.out.below bx4)
  have Rs_4 := Lib.hid (Rs_3.out.below bx4)
  have Rx_4 := Lib.hid (Rx_3.out.below bx4)
  have Z5 := Lib.hid (bx4.size)
  have CX_4 := Lib.hid cx4
  have Z6 := Lib.hid hz4
  clear CS_3 Rs_3 Rx_3 HB_3 bx4 hW4 cx4
  clear hz4
  refine (CS.out _ _ Rs_4.out.lies).mono ?_
  rintro e W5 ⟨vy, rfl, h5, fb5⟩
  have HB_5 := Lib.hid (HB_4.out.trans (fb5.mono HB_4.out.size))
  have CS_5 := Lib.hid (CS_4.out.below fb5)
  have CX_5 := Lib.hid (CX_4.out.below fb5)
  have Rs_5 := Lib.hid (Rs_4.out.below fb5)
  have Rx_5 := Lib.hid (Rx_4.out.below fb5)
  have Z7 := Lib.hid (fb5.size)
  have Ry_5 := Lib.hid h5
  clear CS_4 CX_4 Rs_4 Rx_4 HB_4 fb5 h5
  obtain ⟨any, cny, aoy, coy, rfl⟩ := Ry_5.out.form
  have kS0 := (CS_5.out.alloc (Obj.cells #[.int .i64 yb, .slice any yr.length cny, .slice aoy yo.length coy] 27)).c0
  have kS1 := (CS_5.out.alloc (Obj.cells #[.int .i64 yb, .slice any yr.length cny, .slice aoy yo.length coy] 27)).c1
  have kS2 := (CS_5.out.alloc (Obj.cells #[.int .i64 yb, .slice any yr.length cny, .slice aoy yo.length coy] 27)).c2
  have kX0 := (CX_5.out.alloc (Obj.cells #[.int .i64 yb, .slice any yr.length cny, .slice aoy yo.length coy] 27)).c0
  have kX1 := (CX_5.out.alloc (Obj.cells #[.int .i64 yb, .slice any yr.length cny, .slice aoy yo.length coy] 27)).c1
  have kX2 := (CX_5.out.alloc (Obj.cells #[.int .i64 yb, .slice any yr.length cny, .slice aoy yo.length coy] 27)).c2
  go_wp2_with fail
  clear kS0 kS1 kS2 kX0 kX1 kX2
  have bx6 : Below W5.heap.size W5 (W5.alloc (Obj.cells #[.int .i64 yb, .slice any yr.length cny, .slice aoy yo.length coy] 27)) := (Below.refl _ _).alloc (Nat.le_refl _) _
  have cx6 := Cells3.new W5 27 (.int .i64 yb) (.slice any yr.length cny) (.slice aoy yo.length coy)
  have hz6 : (W5.alloc (Obj.cells #[.int .i64 yb, .slice any yr.length cny, .slice aoy yo.length coy] 27)).heap.size = W5.heap.size + 1 := size_alloc' _ _
  obtain ⟨W6, hW6⟩ : ∃ W, W = (W5.alloc (Obj.cells #[.int .i64 yb, .slice any yr.length cny, .slice aoy yo.length coy] 27)) := ⟨_, rfl⟩
  rw [← hW6] at bx6 cx6 hz6 ⊢
  have HB_6 := Lib.hid (HB_5.out.trans (bx6.mono HB_5.out.size))
  have CS_6 := Lib.hid (CS_5.out.below bx6)
  have CX_6 := Lib.hid (CX_5.out.below bx6)
  have Rs_6 := Lib.hid (Rs_5.out.below bx6)
  have Rx_6 := Lib.hid (Rx_5.out.below bx6)
  have Ry_6 := Lib.hid (Ry_5.out.below bx6)
  have Z8 := Lib.hid (bx6.size)
  have CY_6 := Lib.hid cx6
  have Z9 := Lib.hid hz6
  clear CS_5 CX_5 Rs_5 Rx_5 Ry_5 HB_5 bx6 hW6 cx6
  clear hz6
  go_cut [62] (fun s wx => s = .bool false ∧ Hid (Below W6.heap.size W6 wx))
  case first =>
    have fb := below_drew' W6
    obtain ⟨Wd, hWd⟩ : ∃ W, W = W6.drew := ⟨_, rfl⟩
    rw [← hWd] at fb
    go_region_held3 (fun w' => w'.cell? ⟨W1.heap.size, 0, none⟩ = some (.int .i64 b0) ∧ w'.cell? ⟨W1.heap.size, 1, none⟩ = some (.slice ans rows0.length cns) ∧ w'.cell? ⟨W1.heap.size, 2, none⟩ = some (.slice aos out0.length cos) ∧ w'.cell? ⟨W3.heap.size, 0, none⟩ = some (.int .i64 yb) ∧ w'.cell? ⟨W3.heap.size, 1, none⟩ = some (.slice anx yr.length cnx) ∧ w'.cell? ⟨W3.heap.size, 2, none⟩ = some (.slice aox yo.length cox) ∧ w'.cell? ⟨W5.heap.size, 0, none⟩ = some (.int .i64 yb) ∧ w'.cell? ⟨W5.heap.size, 1, none⟩ = some (.slice any yr.length cny) ∧ w'.cell? ⟨W5.heap.size, 2, none⟩ = some (.slice aoy yo.length coy))
      (first | (rw [← hWd]; exact ⟨(CS_6.out.below fb).c0, (CS_6.out.below fb).c1, (CS_6.out.below fb).c2, (CX_6.out.below fb).c0, (CX_6.out.below fb).c1, (CX_6.out.below fb).c2, (CY_6.out.below fb).c0, (CY_6.out.below fb).c1, (CY_6.out.below fb).c2⟩) | exact ⟨(CS_6.out.below fb).c0, (CS_6.out.below fb).c1, (CS_6.out.below fb).c2, (CX_6.out.below fb).c0, (CX_6.out.below fb).c1, (CX_6.out.below fb).c2, (CY_6.out.below fb).c0, (CY_6.out.below fb).c1, (CY_6.out.below fb).c2⟩)
      (first | (go_at_call 8; (try rw [← hWd]); refine (equal_self _ _ yb yr yo _ (Rx_6.out.below fb).lies (Ry_6.out.below fb).lies).mono ?_; rintro e Wn ⟨rfl, fbn⟩; replace fb := fb.trans (fbn.mono fb.size)) | (go_at_call 9; (try rw [← hWd]); refine (CII.out _ _ (Rs_6.out.below fb).lies).mono ?_; rintro e Wn ⟨rfl, fbn⟩; replace fb := fb.trans (fbn.mono fb.size)) | (go_at_call 10; (try rw [← hWd]); refine (CIS.out _ _ (Rs_6.out.below fb).lies).mono ?_; rintro e Wn ⟨rfl, fbn⟩; replace fb := fb.trans (fbn.mono fb.size)) | (go_at_call 12; (try rw [← hWd]); refine (CRI.out _ _ (Rs_6.out.below fb).lies).mono ?_; rintro e Wn ⟨vri, rfl, hri, fbn⟩; replace fb := fb.trans (fbn.mono fb.size); (try replace hrs := hrs.below fbn)) | (go_at_call 13; (try rw [← hWd]); refine (CRS.out _ _ (Rs_6.out.below fb).lies).mono ?_; rintro e Wn ⟨vrs, rfl, hrs, fbn⟩; replace fb := fb.trans (fbn.mono fb.size); (try replace hri := hri.below fbn)) | (go_at_call 11; (try rw [← hWd]); refine (Ints.same_yes _ _ rl _ hri.lies hrs.lies).mono ?_; rintro e Wn ⟨rfl, fbn⟩; replace fb := fb.trans (fbn.mono fb.size); clear hri hrs) | (go_at_call 14; (try rw [← hWd]); refine (CCI.out _ _ (Rs_6.out.below fb).lies).mono ?_; rintro e Wn ⟨vci, rfl, hci, fbn⟩; replace fb := fb.trans (fbn.mono fb.size); (try replace hcs := hcs.below fbn)) | (go_at_call 15; (try rw [← hWd]); refine (CCS.out _ _ (Rs_6.out.below fb).lies).mono ?_; rintro e Wn ⟨vcs, rfl, hcs, fbn⟩; replace fb := fb.trans (fbn.mono fb.size); (try replace hci := hci.below fbn)) | (go_at_call 11; (try rw [← hWd]); refine (Ints.same_yes _ _ cl _ hci.lies hcs.lies).mono ?_; rintro e Wn ⟨rfl, fbn⟩; replace fb := fb.trans (fbn.mono fb.size); clear hci hcs))
    all_goals
      go_wp2_with fail
      go_meet
      exact ⟨rfl, fb⟩
  case rest =>
    obtain ⟨rfl, bw7⟩ := hcut
    obtain ⟨W7, rfl⟩ : ∃ W, W = wc := ⟨_, rfl⟩
    have bw := bw7.out
    have HB_7 := Lib.hid (HB_6.out.trans (bw.mono HB_6.out.size))
    have CS_7 := Lib.hid (CS_6.out.below bw)
    have CX_7 := Lib.hid (CX_6.out.below bw)
    have CY_7 := Lib.hid (CY_6.out.below bw)
    have Rs_7 := Lib.hid (Rs_6.out.below bw)
    have Rx_7 := Lib.hid (Rx_6.out.below bw)
    have Ry_7 := Lib.hid (Ry_6.out.below bw)
    have Z10 := Lib.hid (bw.size)
    clear CS_6 CX_6 CY_6 Rs_6 Rx_6 Ry_6 HB_6 bw7 bw
    clear Rx_7 CX_7
    go_upto_if 63 with fail
    go_cut [] (fun wx => Hid (Below W7.heap.size W7 wx))
    case first =>
      cases yk with
      | false =>
        go_wp2_with fail
        go_meet
        exact Below.refl _ _
      | true =>
        have hmm := HMM.out rfl
        have hfb := HFB.out rfl
        have hmv := HMV.out rfl
        have hpm := HPM.out rfl
        subst hfb
        have hzz : formB yb yr yo = yb := by rw [formB, if_pos hmm.1]
        have CZ := Lib.hid (fun (W : World) (u : Value) (l : LiesS W u yb yr yo) => impl_min u yb yr yo W l hmv)
        rw [hzz, hmm.1, hmm.2.1, hmm.2.2.1] at CZ
        have CIY := Lib.hid (fun (W : World) (u : Value) (l : LiesS W u yb yr yo) => impl_ismin u yb yr yo W l hmv)
        rw [hmm.2.2.2] at CIY
        have CPI := Lib.hid (fun (W : World) (u : Value) (l : LiesS W u yb yr yo) => impl_pref u yb yr yo W l 60)
        have CPS := Lib.hid (fun (W : World) (u : Value) (l : LiesS W u yb rows0 out0) => spec_pref u yb rows0 out0 W l 60)
        rw [hpm] at CPI
        obtain ⟨pl, hpl⟩ : ∃ p, p = prefV yb rows0 out0 60 := ⟨_, rfl⟩
        rw [← hpl] at CPI CPS
        clear hmm hmv hpm hzz hpl
        have Rcut_7 : Hid (Since W7 W7) := Below.refl _ _
        have kS0 := CS_7.out.c0
        have kS1 := CS_7.out.c1
        have kS2 := CS_7.out.c2
        have kY0 := CY_7.out.c0
        have kY1 := CY_7.out.c1
        have kY2 := CY_7.out.c2
        go_wp2_with fail
        clear kS0 kS1 kS2 kY0 kY1 kY2
        refine (CZ.out _ _ Ry_7.out.lies).mono ?_
        rintro e W8 ⟨vz, rfl, h8, fb8⟩
        have HB_8 := Lib.hid (HB_7.out.trans (fb8.mono HB_7.out.size))
        have CS_8 := Lib.hid (CS_7.out.below fb8)
        have CY_8 := Lib.hid (CY_7.out.below fb8)
        have Rs_8 := Lib.hid (Rs_7.out.below fb8)
        have Ry_8 := Lib.hid (Ry_7.out.below fb8)
        have Rcut_8 := Lib.hid (Rcut_7.out.below fb8)
        have Z11 := Lib.hid (fb8.size)
        have Rz_8 := Lib.hid h8
        clear CS_7 CY_7 Rs_7 Ry_7 Rcut_7 HB_7 fb8 h8
        obtain ⟨anz, cnz, aoz, coz, rfl⟩ := Rz_8.out.form
        have kS0 := (CS_8.out.alloc (Obj.cells #[.int .i64 yb, .slice anz yr.length cnz, .slice aoz yo.length coz] 27)).c0
        have kS1 := (CS_8.out.alloc (Obj.cells #[.int .i64 yb, .slice anz yr.length cnz, .slice aoz yo.length coz] 27)).c1
        have kS2 := (CS_8.out.alloc (Obj.cells #[.int .i64 yb, .slice anz yr.length cnz, .slice aoz yo.length coz] 27)).c2
        have kY0 := (CY_8.out.alloc (Obj.cells #[.int .i64 yb, .slice anz yr.length cnz, .slice aoz yo.length coz] 27)).c0
        have kY1 := (CY_8.out.alloc (Obj.cells #[.int .i64 yb, .slice anz yr.length cnz, .slice aoz yo.length coz] 27)).c1
        have kY2 := (CY_8.out.alloc (Obj.cells #[.int .i64 yb, .slice anz yr.length cnz, .slice aoz yo.length coz] 27)).c2
        go_wp2_with fail
        clear kS0 kS1 kS2 kY0 kY1 kY2
        have bx9 : Below W8.heap.size W8 (W8.alloc (Obj.cells #[.int .i64 yb, .slice anz yr.length cnz, .slice aoz yo.length coz] 27)) := (Below.refl _ _).alloc (Nat.le_refl _) _
        have cx9 := Cells3.new W8 27 (.int .i64 yb) (.slice anz yr.length cnz) (.slice aoz yo.length coz)
        have hz9 : (W8.alloc (Obj.cells #[.int .i64 yb, .slice anz yr.length cnz, .slice aoz yo.length coz] 27)).heap.size = W8.heap.size + 1 := size_alloc' _ _
        obtain ⟨W9, hW9⟩ : ∃ W, W = (W8.alloc (Obj.cells #[.int .i64 yb, .slice anz yr.length cnz, .slice aoz yo.length coz] 27)) := ⟨_, rfl⟩
        rw [← hW9] at bx9 cx9 hz9 ⊢
        have HB_9 := Lib.hid (HB_8.out.trans (bx9.mono HB_8.out.size))
        have CS_9 := Lib.hid (CS_8.out.below bx9)
        have CY_9 := Lib.hid (CY_8.out.below bx9)
        have Rs_9 := Lib.hid (Rs_8.out.below bx9)
        have Ry_9 := Lib.hid (Ry_8.out.below bx9)
        have Rcut_9 := Lib.hid (Rcut_8.out.below bx9)
        have Rz_9 := Lib.hid (Rz_8.out.below bx9)
        have Z12 := Lib.hid (bx9.size)
        have CZ_9 := Lib.hid cx9
        have Z13 := Lib.hid hz9
        clear CS_8 CY_8 Rs_8 Ry_8 Rcut_8 Rz_8 HB_8 bx9 hW9 cx9
        clear hz9
        have fb := below_drew' W9
        obtain ⟨Wd, hWd⟩ : ∃ W, W = W9.drew := ⟨_, rfl⟩
        rw [← hWd] at fb
        go_region_held3 (fun w' => w'.cell? ⟨W1.heap.size, 0, none⟩ = some (.int .i64 yb) ∧ w'.cell? ⟨W1.heap.size, 1, none⟩ = some (.slice ans rows0.length cns) ∧ w'.cell? ⟨W1.heap.size, 2, none⟩ = some (.slice aos out0.length cos) ∧ w'.cell? ⟨W5.heap.size, 0, none⟩ = some (.int .i64 yb) ∧ w'.cell? ⟨W5.heap.size, 1, none⟩ = some (.slice any yr.length cny) ∧ w'.cell? ⟨W5.heap.size, 2, none⟩ = some (.slice aoy yo.length coy) ∧ w'.cell? ⟨W8.heap.size, 0, none⟩ = some (.int .i64 yb) ∧ w'.cell? ⟨W8.heap.size, 1, none⟩ = some (.slice anz yr.length cnz) ∧ w'.cell? ⟨W8.heap.size, 2, none⟩ = some (.slice aoz yo.length coz))
          (first | (rw [← hWd]; exact ⟨(CS_9.out.below fb).c0, (CS_9.out.below fb).c1, (CS_9.out.below fb).c2, (CY_9.out.below fb).c0, (CY_9.out.below fb).c1, (CY_9.out.below fb).c2, (CZ_9.out.below fb).c0, (CZ_9.out.below fb).c1, (CZ_9.out.below fb).c2⟩) | exact ⟨(CS_9.out.below fb).c0, (CS_9.out.below fb).c1, (CS_9.out.below fb).c2, (CY_9.out.below fb).c0, (CY_9.out.below fb).c1, (CY_9.out.below fb).c2, (CZ_9.out.below fb).c0, (CZ_9.out.below fb).c1, (CZ_9.out.below fb).c2⟩)
          (first | (go_at_call 8; (try rw [← hWd]); refine (equal_self _ _ yb yr yo _ (Rz_9.out.below fb).lies (Ry_9.out.below fb).lies).mono ?_; rintro e Wn ⟨rfl, fbn⟩; replace fb := fb.trans (fbn.mono fb.size)) | (go_at_call 9; (try rw [← hWd]); refine (CIY.out _ _ (Ry_9.out.below fb).lies).mono ?_; rintro e Wn ⟨rfl, fbn⟩; replace fb := fb.trans (fbn.mono fb.size)) | (go_at_call 16; (try rw [← hWd]); refine (CPI.out _ _ (Ry_9.out.below fb).lies).mono ?_; rintro e Wn ⟨vpi, rfl, hpi, fbn⟩; replace fb := fb.trans (fbn.mono fb.size); (try replace hps := hps.below fbn)) | (go_at_call 17; (try rw [← hWd]); refine (CPS.out _ _ (Rs_9.out.below fb).lies).mono ?_; rintro e Wn ⟨vps, rfl, hps, fbn⟩; replace fb := fb.trans (fbn.mono fb.size); (try replace hpi := hpi.below fbn)) | (go_at_call 11; (try rw [← hWd]); refine (Ints.same_yes _ _ pl _ hpi.lies hps.lies).mono ?_; rintro e Wn ⟨rfl, fbn⟩; replace fb := fb.trans (fbn.mono fb.size)))
        all_goals
          go_wp2_with fail
          go_meet
          exact Since.below Rcut_9.out fb
    case rest =>
      have bw8 := hcut
      obtain ⟨W8, rfl⟩ : ∃ W, W = wc := ⟨_, rfl⟩
      have bw := bw8.out
      have HB_8 := Lib.hid (HB_7.out.trans (bw.mono HB_7.out.size))
      have CS_8 := Lib.hid (CS_7.out.below bw)
      have CY_8 := Lib.hid (CY_7.out.below bw)
      have Rs_8 := Lib.hid (Rs_7.out.below bw)
      have Ry_8 := Lib.hid (Ry_7.out.below bw)
      have Z11 := Lib.hid (bw.size)
      clear CS_7 CY_7 Rs_7 Ry_7 HB_7 bw8 bw
      clear Rs_8 Ry_8 CS_8 CY_8
      have CV2 := Lib.hid (Cursor.code_next HC.out HB_8.out)
      go_wp2_with fail
      refine (Cursor.drawTwo W8 a len cap hlen CV2.out).mono ?_
      rintro e W9 ⟨va, b1, rows1, out1, vb, b2, rows2, out2, hf1, hf2, rfl, hva, hvb, fb9⟩
      have HB_9 := Lib.hid (HB_8.out.trans (fb9.mono HB_8.out.size))
      have Z12 := Lib.hid (fb9.size)
      clear HB_8 fb9
      have Ra_9 := Lib.hid hva
      have Rb_9 := Lib.hid hvb
      clear hva hvb
      have hz1 := few_size hf1
      have hz2 := few_size hf2
      clear hf1 hf2
      have CDI := Lib.hid (fun (W : World) (u v : Value) (l1 : LiesS W u b1 rows1 out1) (l2 : LiesS W v b2 rows2 out2) => impl_diff u v b1 b2 rows1 rows2 out1 out2 W l1 l2)
      have CDS := Lib.hid (fun (W : World) (u v : Value) (l1 : LiesS W u b1 rows1 out1) (l2 : LiesS W v b2 rows2 out2) => spec_diff u v b1 b2 rows1 rows2 out1 out2 W l1 l2)
      have CTI := Lib.hid (fun (W : World) (u v : Value) (l1 : LiesS W u b1 rows1 out1) (l2 : LiesS W v b2 rows2 out2) => impl_sameterms u v b1 b2 rows1 rows2 out1 out2 W l1 l2 hz1 hz2)
      have CTS := Lib.hid (fun (W : World) (u v : Value) (l1 : LiesS W u b1 rows1 out1) (l2 : LiesS W v b2 rows2 out2) => spec_sameterms u v b1 b2 rows1 rows2 out1 out2 W l1 l2 hz1 hz2)
      have HD1 := Lib.hid (fun h : sameT b1 b2 rows1 rows2 out1 out2 = true => same_no_diff h)
      have HD2 := Lib.hid (fun h : diffK b1 b2 rows1 rows2 out1 out2 = true => diff_differs h)
      clear hz1 hz2
      obtain ⟨dv, hdv⟩ : ∃ y, y = diffV b1 b2 rows1 rows2 out1 out2 := ⟨_, rfl⟩
      obtain ⟨dk, hdk⟩ : ∃ y, y = diffK b1 b2 rows1 rows2 out1 out2 := ⟨_, rfl⟩
      obtain ⟨st, hst⟩ : ∃ y, y = sameT b1 b2 rows1 rows2 out1 out2 := ⟨_, rfl⟩
      rw [← hdv, ← hdk] at CDI CDS
      rw [← hst] at CTI CTS
      rw [← hst, ← hdk] at HD1
      rw [← hdk, ← hdv] at HD2
      clear hdv hdk hst
      obtain ⟨ana, cna, aoa, coa, rfl⟩ := Ra_9.out.form
      obtain ⟨anb, cnb, aob, cob, rfl⟩ := Rb_9.out.form
      go_wp2_with fail
      have bx10 : Below W9.heap.size W9 (W9.alloc (Obj.cells #[.int .i64 b1, .slice ana rows1.length cna, .slice aoa out1.length coa] 27)) := (Below.refl _ _).alloc (Nat.le_refl _) _
      have cx10 := Cells3.new W9 27 (.int .i64 b1) (.slice ana rows1.length cna) (.slice aoa out1.length coa)
      have hz10 : (W9.alloc (Obj.cells #[.int .i64 b1, .slice ana rows1.length cna, .slice aoa out1.length coa] 27)).heap.size = W9.heap.size + 1 := size_alloc' _ _
      obtain ⟨W10, hW10⟩ : ∃ W, W = (W9.alloc (Obj.cells #[.int .i64 b1, .slice ana rows1.length cna, .slice aoa out1.length coa] 27)) := ⟨_, rfl⟩
      rw [← hW10] at bx10 cx10 hz10 ⊢
      have HB_10 := Lib.hid (HB_9.out.trans (bx10.mono HB_9.out.size))
      have Ra_10 := Lib.hid (Ra_9.out.below bx10)
      have Rb_10 := Lib.hid (Rb_9.out.below bx10)
      have Z13 := Lib.hid (bx10.size)
      have CA_10 := Lib.hid cx10
      have Z14 := Lib.hid hz10
      clear Ra_9 Rb_9 HB_9 bx10 hW10 cx10
      have bx11 : Below W10.heap.size W10 (W10.alloc (Obj.cells #[.int .i64 b2, .slice anb rows2.length cnb, .slice aob out2.length cob] 27)) := (Below.refl _ _).alloc (Nat.le_refl _) _
      have cx11 := Cells3.new W10 27 (.int .i64 b2) (.slice anb rows2.length cnb) (.slice aob out2.length cob)
      have hz11 : (W10.alloc (Obj.cells #[.int .i64 b2, .slice anb rows2.length cnb, .slice aob out2.length cob] 27)).heap.size = W10.heap.size + 1 := size_alloc' _ _
      obtain ⟨W11, hW11⟩ : ∃ W, W = (W10.alloc (Obj.cells #[.int .i64 b2, .slice anb rows2.length cnb, .slice aob out2.length cob] 27)) := ⟨_, rfl⟩
      rw [← hW11] at bx11 cx11 hz11 ⊢
      rw [hz10] at cx11
      have HB_11 := Lib.hid (HB_10.out.trans (bx11.mono HB_10.out.size))
      have CA_11 := Lib.hid (CA_10.out.below bx11)
      have Ra_11 := Lib.hid (Ra_10.out.below bx11)
      have Rb_11 := Lib.hid (Rb_10.out.below bx11)
      have Z15 := Lib.hid (bx11.size)
      have CB_11 := Lib.hid cx11
      have Z16 := Lib.hid hz11
      clear CA_10 Ra_10 Rb_10 HB_10 bx11 hW11 cx11
      clear hz11 hz10
      refine (CDI.out _ _ _ Ra_11.out.lies Rb_11.out.lies).mono ?_
      rintro e W12 ⟨rfl, fb12⟩
      have HB_12 := Lib.hid (HB_11.out.trans (fb12.mono HB_11.out.size))
      have CA_12 := Lib.hid (CA_11.out.below fb12)
      have CB_12 := Lib.hid (CB_11.out.below fb12)
      have Ra_12 := Lib.hid (Ra_11.out.below fb12)
      have Rb_12 := Lib.hid (Rb_11.out.below fb12)
      have Z17 := Lib.hid (fb12.size)
      clear CA_11 CB_11 Ra_11 Rb_11 HB_11 fb12
      have kA0 := CA_12.out.c0
      have kA1 := CA_12.out.c1
      have kA2 := CA_12.out.c2
      have kB0 := CB_12.out.c0
      have kB1 := CB_12.out.c1
      have kB2 := CB_12.out.c2
      go_wp2_with fail
      clear kA0 kA1 kA2 kB0 kB1 kB2
      refine (CDS.out _ _ _ Ra_12.out.lies Rb_12.out.lies).mono ?_
      rintro e W13 ⟨rfl, fb13⟩
      have HB_13 := Lib.hid (HB_12.out.trans (fb13.mono HB_12.out.size))
      have CA_13 := Lib.hid (CA_12.out.below fb13)
      have CB_13 := Lib.hid (CB_12.out.below fb13)
      have Ra_13 := Lib.hid (Ra_12.out.below fb13)
      have Rb_13 := Lib.hid (Rb_12.out.below fb13)
      have Z18 := Lib.hid (fb13.size)
      clear CA_12 CB_12 Ra_12 Rb_12 HB_12 fb13
      have kA0 := CA_13.out.c0
      have kA1 := CA_13.out.c1
      have kA2 := CA_13.out.c2
      have kB0 := CB_13.out.c0
      have kB1 := CB_13.out.c1
      have kB2 := CB_13.out.c2
      go_wp2_with fail
      clear kA0 kA1 kA2 kB0 kB1 kB2
      refine (CTI.out _ _ _ Ra_13.out.lies Rb_13.out.lies).mono ?_
      rintro e W14 ⟨rfl, fb14⟩
      have HB_14 := Lib.hid (HB_13.out.trans (fb14.mono HB_13.out.size))
      have CA_14 := Lib.hid (CA_13.out.below fb14)
      have CB_14 := Lib.hid (CB_13.out.below fb14)
      have Ra_14 := Lib.hid (Ra_13.out.below fb14)
      have Rb_14 := Lib.hid (Rb_13.out.below fb14)
      have Z19 := Lib.hid (fb14.size)
      clear CA_13 CB_13 Ra_13 Rb_13 HB_13 fb14
      have kA0 := CA_14.out.c0
      have kA1 := CA_14.out.c1
      have kA2 := CA_14.out.c2
      have kB0 := CB_14.out.c0
      have kB1 := CB_14.out.c1
      have kB2 := CB_14.out.c2
      go_wp2_with fail
      clear kA0 kA1 kA2 kB0 kB1 kB2
      go_cut [2] (fun s wx => s = .bool true ∧ Hid (Below W14.heap.size W14 wx))
      case first =>
        have hss : ∀ c : Bool, (c == c) = true := by intro c; simp
        have hss1 := hss st
        have hss2 := hss true
        have hss3 := hss false
        clear hss
        cases dk with
        | false =>
          have hvv : (dv == dv) = true := by simp
          cases st with
          | true =>
            have fb := below_drew' W14
            refine wp_region_held_drew (S := (fun w' => w'.cell? ⟨W9.heap.size, 0, none⟩ = some (.int .i64 b1) ∧ w'.cell? ⟨W9.heap.size, 1, none⟩ = some (.slice ana rows1.length cna) ∧ w'.cell? ⟨W9.heap.size, 2, none⟩ = some (.slice aoa out1.length coa) ∧ w'.cell? ⟨W9.heap.size + 1, 0, none⟩ = some (.int .i64 b2) ∧ w'.cell? ⟨W9.heap.size + 1, 1, none⟩ = some (.slice anb rows2.length cnb) ∧ w'.cell? ⟨W9.heap.size + 1, 2, none⟩ = some (.slice aob out2.length cob))) (by kernel_rfl) ?_ (fun hHeld => ?_)
            · exact ⟨(CA_14.out.below fb).c0, (CA_14.out.below fb).c1, (CA_14.out.below fb).c2, (CB_14.out.below fb).c0, (CB_14.out.below fb).c1, (CB_14.out.below fb).c2⟩
            refine wpAnyH_take (i := 0) (oi := { dst := some 110, op := Op.move (Operand.tmp 12), type := 3, pos := "laws.go:246", after := #[], guard := none }) (v := ?_) rfl (by kernel_rfl) (by kernel_rfl) (by kernel_rfl) (fun _ _ _ h => h) (Or.inl ⟨by rfl, ?_⟩) (by assumption) ?_
            rotate_left
            focus (intro w hSw; (try dsimp only at hSw); first | (go_simp; done) | (go_simp; with_reducible rfl))
            try simp only [Act.put, List.setIfInBounds_toArray, List.set_cons_zero, List.set_cons_succ]
            refine wpAnyH_take (i := 1) (oi := { dst := some 111, op := Op.move (Operand.tmp 14), type := 3, pos := "laws.go:246", after := #[], guard := none }) (v := ?_) rfl (by kernel_rfl) (by kernel_rfl) (by kernel_rfl) (fun _ _ _ h => h) (Or.inl ⟨by rfl, ?_⟩) (by assumption) ?_
            rotate_left
            focus (intro w hSw; (try dsimp only at hSw); first | (go_simp; done) | (go_simp; with_reducible rfl))
            try simp only [Act.put, List.setIfInBounds_toArray, List.set_cons_zero, List.set_cons_succ]
            refine wpAnyH_take (i := 2) (oi := { dst := some 112, op := Op.binOp BinOp.eql 3 (Operand.tmp 110) (Operand.tmp 111) 3, type := 4, pos := "laws.go:246", after := #[{ on := 0, ground := Ground.data }, { on := 1, ground := Ground.data }], guard := none }) (v := ?_) rfl (by kernel_rfl) (by kernel_rfl) (by kernel_rfl) (fun _ _ _ h => h) (Or.inl ⟨by rfl, ?_⟩) (by assumption) ?_
            rotate_left
            focus (intro w hSw; (try dsimp only at hSw); first | (go_simp; done) | (go_simp; with_reducible rfl))
            try simp only [Act.put, List.setIfInBounds_toArray, List.set_cons_zero, List.set_cons_succ]
            refine wpAnyH_take (i := 3) (oi := { dst := some 113, op := Op.move (Operand.tmp 112), type := 4, pos := "laws.go:246", after := #[{ on := 2, ground := Ground.data }], guard := none }) (v := ?_) rfl (by kernel_rfl) (by kernel_rfl) (by kernel_rfl) (fun _ _ _ h => h) (Or.inl ⟨by rfl, ?_⟩) (by assumption) ?_
            rotate_left
            focus (intro w hSw; (try dsimp only at hSw); first | (go_simp; done) | (go_simp; with_reducible rfl))
            try simp only [Act.put, List.setIfInBounds_toArray, List.set_cons_zero, List.set_cons_succ]
            refine wpAnyH_take (i := 4) (oi := { dst := some 114, op := Op.move (Operand.tmp 13), type := 4, pos := "laws.go:246", after := #[{ on := 3, ground := Ground.guard }], guard := some (3, true) }) (v := ?_) rfl (by kernel_rfl) (by kernel_rfl) (by kernel_rfl) (fun _ _ _ h => h) (Or.inl ⟨by rfl, ?_⟩) (by assumption) ?_
            rotate_left
            focus (intro w hSw; (try dsimp only at hSw); first | (go_simp; done) | (go_simp; with_reducible rfl))
            try simp only [Act.put, List.setIfInBounds_toArray, List.set_cons_zero, List.set_cons_succ]
            refine wpAnyH_take (i := 5) (oi := { dst := some 115, op := Op.move (Operand.tmp 15), type := 4, pos := "laws.go:246", after := #[{ on := 3, ground := Ground.guard }], guard := some (3, true) }) (v := ?_) rfl (by kernel_rfl) (by kernel_rfl) (by kernel_rfl) (fun _ _ _ h => h) (Or.inl ⟨by rfl, ?_⟩) (by assumption) ?_
            rotate_left
            focus (intro w hSw; (try dsimp only at hSw); first | (go_simp; done) | (go_simp; with_reducible rfl))
            try simp only [Act.put, List.setIfInBounds_toArray, List.set_cons_zero, List.set_cons_succ]
            refine wpAnyH_take (i := 6) (oi := { dst := some 116, op := Op.binOp BinOp.eql 4 (Operand.tmp 114) (Operand.tmp 115) 4, type := 4, pos := "laws.go:246", after := #[{ on := 4, ground := Ground.data }, { on := 5, ground := Ground.data }, { on := 3, ground := Ground.guard }], guard := some (3, true) }) (v := ?_) rfl (by kernel_rfl) (by kernel_rfl) (by kernel_rfl) (fun _ _ _ h => h) (Or.inl ⟨by rfl, ?_⟩) (by assumption) ?_
            rotate_left
            focus (intro w hSw; (try dsimp only at hSw); first | (go_simp; done) | (go_simp; with_reducible rfl))
            try simp only [Act.put, List.setIfInBounds_toArray, List.set_cons_zero, List.set_cons_succ]
            refine wpAnyH_take (i := 7) (oi := { dst := some 117, op := Op.pick (Operand.tmp 113) (Operand.tmp 116) (Operand.const (Value.bool false)), type := 4, pos := "laws.go:246", after := #[{ on := 3, ground := Ground.data }, { on := 6, ground := Ground.data }], guard := none }) (v := ?_) rfl (by kernel_rfl) (by kernel_rfl) (by kernel_rfl) (fun _ _ _ h => h) (Or.inl ⟨by rfl, ?_⟩) (by assumption) ?_
            rotate_left
            focus (intro w hSw; (try dsimp only at hSw); first | (go_simp; done) | (go_simp; with_reducible rfl))
            try simp only [Act.put, List.setIfInBounds_toArray, List.set_cons_zero, List.set_cons_succ]
            refine wpAnyH_take (i := 8) (oi := { dst := some 118, op := Op.move (Operand.tmp 117), type := 4, pos := "laws.go:246", after := #[{ on := 7, ground := Ground.data }, { on := 3, ground := Ground.chain }], guard := none }) (v := ?_) rfl (by kernel_rfl) (by kernel_rfl) (by kernel_rfl) (fun _ _ _ h => h) (Or.inl ⟨by rfl, ?_⟩) (by assumption) ?_
            rotate_left
            focus (intro w hSw; (try dsimp only at hSw); first | (go_simp; done) | (go_simp; with_reducible rfl))
            try simp only [Act.put, List.setIfInBounds_toArray, List.set_cons_zero, List.set_cons_succ]
            refine wpAnyH_take (i := 9) (oi := { dst := some 119, op := Op.move (Operand.tmp 16), type := 4, pos := "laws.go:246", after := #[{ on := 8, ground := Ground.guard }], guard := some (8, true) }) (v := ?_) rfl (by kernel_rfl) (by kernel_rfl) (by kernel_rfl) (fun _ _ _ h => h) (Or.inl ⟨by rfl, ?_⟩) (by assumption) ?_
            rotate_left
            focus (intro w hSw; (try dsimp only at hSw); first | (go_simp; done) | (go_simp; with_reducible rfl))
            try simp only [Act.put, List.setIfInBounds_toArray, List.set_cons_zero, List.set_cons_succ]
            refine wpAnyH_take (i := 10) (oi := { dst := some 120, op := Op.load 27 (Operand.tmp 10), type := 27, pos := "laws.go:246", after := #[{ on := 8, ground := Ground.guard }], guard := some (8, true) }) (v := ?_) rfl (by kernel_rfl) (by kernel_rfl) (by kernel_rfl) (fun _ _ _ h => h) (Or.inl ⟨by rfl, ?_⟩) (by assumption) ?_
            rotate_left
            focus (intro w hSw; (try dsimp only at hSw); first | (go_simp; done) | (go_simp; with_reducible rfl))
            try simp only [Act.put, List.setIfInBounds_toArray, List.set_cons_zero, List.set_cons_succ]
            refine wpAnyH_take (i := 11) (oi := { dst := some 121, op := Op.load 27 (Operand.tmp 11), type := 27, pos := "laws.go:246", after := #[{ on := 8, ground := Ground.guard }], guard := some (8, true) }) (v := ?_) rfl (by kernel_rfl) (by kernel_rfl) (by kernel_rfl) (fun _ _ _ h => h) (Or.inl ⟨by rfl, ?_⟩) (by assumption) ?_
            rotate_left
            focus (intro w hSw; (try dsimp only at hSw); first | (go_simp; done) | (go_simp; with_reducible rfl))
            try simp only [Act.put, List.setIfInBounds_toArray, List.set_cons_zero, List.set_cons_succ]
            refine wpAnyH_ready (rs := [12]) (by kernel_rfl) (by simp) ?_
            refine AllReadyH.cons (o := { dst := some 122, op := Op.call { callee := Callee.value (Operand.func 22), args := #[Operand.tmp 120, Operand.tmp 121], argTypes := #[27, 27] }, type := 4, pos := "laws.go:246", after := #[{ on := 10, ground := Ground.data }, { on := 11, ground := Ground.data }, { on := 8, ground := Ground.chain }, { on := 8, ground := Ground.guard }], guard := some (8, true) }) rfl (fun K hK => ?_) AllReadyH.nil
            go_simp
            go_at_call 22
            refine (CTS.out _ _ _ (Ra_14.out.below fb).lies (Rb_14.out.below fb).lies).mono ?_
            rintro e Wn ⟨rfl, fbn⟩
            replace fb := fb.trans (fbn.mono fb.size)
            refine hK.out _ _ ?_ (fun hHeld => ?_)
            · exact ⟨(CA_14.out.below fb).c0, (CA_14.out.below fb).c1, (CA_14.out.below fb).c2, (CB_14.out.below fb).c0, (CB_14.out.below fb).c1, (CB_14.out.below fb).c2⟩
            clear hK K
            try simp only [Act.put, List.setIfInBounds_toArray, List.set_cons_zero, List.set_cons_succ]
            refine wpAnyH_take (i := 13) (oi := { dst := some 123, op := Op.binOp BinOp.eql 4 (Operand.tmp 119) (Operand.tmp 122) 4, type := 4, pos := "laws.go:246", after := #[{ on := 9, ground := Ground.data }, { on := 12, ground := Ground.data }, { on := 8, ground := Ground.guard }], guard := some (8, true) }) (v := ?_) rfl (by kernel_rfl) (by kernel_rfl) (by kernel_rfl) (fun _ _ _ h => h) (Or.inl ⟨by rfl, ?_⟩) (by assumption) ?_
            rotate_left
            focus (intro w hSw; (try dsimp only at hSw); first | (go_simp; done) | (go_simp; with_reducible rfl))
            try simp only [Act.put, List.setIfInBounds_toArray, List.set_cons_zero, List.set_cons_succ]
            refine wpAnyH_take (i := 14) (oi := { dst := some 124, op := Op.pick (Operand.tmp 118) (Operand.tmp 123) (Operand.const (Value.bool false)), type := 4, pos := "laws.go:246", after := #[{ on := 8, ground := Ground.data }, { on := 13, ground := Ground.data }], guard := none }) (v := ?_) rfl (by kernel_rfl) (by kernel_rfl) (by kernel_rfl) (fun _ _ _ h => h) (Or.inl ⟨by rfl, ?_⟩) (by assumption) ?_
            rotate_left
            focus (intro w hSw; (try dsimp only at hSw); first | (go_simp; done) | (go_simp; with_reducible rfl))
            try simp only [Act.put, List.setIfInBounds_toArray, List.set_cons_zero, List.set_cons_succ]
            refine wpAnyH_take (i := 15) (oi := { dst := some 125, op := Op.move (Operand.tmp 124), type := 4, pos := "laws.go:246", after := #[{ on := 14, ground := Ground.data }, { on := 12, ground := Ground.chain }], guard := none }) (v := ?_) rfl (by kernel_rfl) (by kernel_rfl) (by kernel_rfl) (fun _ _ _ h => h) (Or.inl ⟨by rfl, ?_⟩) (by assumption) ?_
            rotate_left
            focus (intro w hSw; (try dsimp only at hSw); first | (go_simp; done) | (go_simp; with_reducible rfl))
            try simp only [Act.put, List.setIfInBounds_toArray, List.set_cons_zero, List.set_cons_succ]
            refine wpAnyH_take (i := 16) (oi := { dst := some 126, op := Op.move (Operand.tmp 16), type := 4, pos := "laws.go:246", after := #[{ on := 15, ground := Ground.guard }], guard := some (15, true) }) (v := ?_) rfl (by kernel_rfl) (by kernel_rfl) (by kernel_rfl) (fun _ _ _ h => h) (Or.inl ⟨by rfl, ?_⟩) (by assumption) ?_
            rotate_left
            focus (intro w hSw; (try dsimp only at hSw); first | (go_simp; done) | (go_simp; with_reducible rfl))
            try simp only [Act.put, List.setIfInBounds_toArray, List.set_cons_zero, List.set_cons_succ]
            refine wpAnyH_take (i := 17) (oi := { dst := some 127, op := Op.move (Operand.tmp 126), type := 4, pos := "laws.go:246", after := #[{ on := 16, ground := Ground.data }, { on := 15, ground := Ground.chain }, { on := 15, ground := Ground.guard }], guard := some (15, true) }) (v := ?_) rfl (by kernel_rfl) (by kernel_rfl) (by kernel_rfl) (fun _ _ _ h => h) (Or.inl ⟨by rfl, ?_⟩) (by assumption) ?_
            rotate_left
            focus (intro w hSw; (try dsimp only at hSw); first | (go_simp; done) | (go_simp; with_reducible rfl))
            try simp only [Act.put, List.setIfInBounds_toArray, List.set_cons_zero, List.set_cons_succ]
            refine wpAnyH_take (i := 18) (oi := { dst := some 128, op := Op.move (Operand.tmp 13), type := 4, pos := "laws.go:246", after := #[{ on := 17, ground := Ground.guard }], guard := some (17, true) }) (v := ?_) rfl (by kernel_rfl) (by kernel_rfl) (by kernel_rfl) (fun _ _ _ h => h) (Or.inl ⟨by rfl, ?_⟩) (by assumption) ?_
            rotate_left
            focus (intro w hSw; (try dsimp only at hSw); first | (go_simp; done) | (go_simp; with_reducible rfl))
            try simp only [Act.put, List.setIfInBounds_toArray, List.set_cons_zero, List.set_cons_succ]
            refine wpAnyH_take (i := 19) (oi := { dst := some 129, op := Op.pick (Operand.tmp 127) (Operand.tmp 128) (Operand.const (Value.bool false)), type := 4, pos := "laws.go:246", after := #[{ on := 17, ground := Ground.data }, { on := 18, ground := Ground.data }, { on := 15, ground := Ground.guard }], guard := some (15, true) }) (v := ?_) rfl (by kernel_rfl) (by kernel_rfl) (by kernel_rfl) (fun _ _ _ h => h) (Or.inl ⟨by rfl, ?_⟩) (by assumption) ?_
            rotate_left
            focus (intro w hSw; (try dsimp only at hSw); first | (go_simp; done) | (go_simp; with_reducible rfl))
            try simp only [Act.put, List.setIfInBounds_toArray, List.set_cons_zero, List.set_cons_succ]
            refine wpAnyH_take (i := 20) (oi := { dst := some 130, op := Op.unOp UnOp.not 4 (Operand.tmp 129), type := 4, pos := "laws.go:246", after := #[{ on := 19, ground := Ground.data }, { on := 15, ground := Ground.guard }], guard := some (15, true) }) (v := ?_) rfl (by kernel_rfl) (by kernel_rfl) (by kernel_rfl) (fun _ _ _ h => h) (Or.inl ⟨by rfl, ?_⟩) (by assumption) ?_
            rotate_left
            focus (intro w hSw; (try dsimp only at hSw); first | (go_simp; done) | (go_simp; with_reducible rfl))
            try simp only [Act.put, List.setIfInBounds_toArray, List.set_cons_zero, List.set_cons_succ]
            refine wpAnyH_take (i := 21) (oi := { dst := some 131, op := Op.pick (Operand.tmp 125) (Operand.tmp 130) (Operand.const (Value.bool false)), type := 4, pos := "laws.go:246", after := #[{ on := 15, ground := Ground.data }, { on := 20, ground := Ground.data }], guard := none }) (v := ?_) rfl (by kernel_rfl) (by kernel_rfl) (by kernel_rfl) (fun _ _ _ h => h) (Or.inl ⟨by rfl, ?_⟩) (by assumption) ?_
            rotate_left
            focus (intro w hSw; (try dsimp only at hSw); first | (go_simp; done) | (go_simp; with_reducible rfl))
            try simp only [Act.put, List.setIfInBounds_toArray, List.set_cons_zero, List.set_cons_succ]
            refine wpAnyH_take (i := 22) (oi := { dst := some 132, op := Op.move (Operand.tmp 131), type := 4, pos := "laws.go:246", after := #[{ on := 21, ground := Ground.data }, { on := 17, ground := Ground.chain }], guard := none }) (v := ?_) rfl (by kernel_rfl) (by kernel_rfl) (by kernel_rfl) (fun _ _ _ h => h) (Or.inl ⟨by rfl, ?_⟩) (by assumption) ?_
            rotate_left
            focus (intro w hSw; (try dsimp only at hSw); first | (go_simp; done) | (go_simp; with_reducible rfl))
            try simp only [Act.put, List.setIfInBounds_toArray, List.set_cons_zero, List.set_cons_succ]
            refine wpAnyH_take (i := 23) (oi := { dst := some 133, op := Op.move (Operand.tmp 13), type := 4, pos := "laws.go:246", after := #[{ on := 22, ground := Ground.guard }], guard := some (22, true) }) (v := ?_) rfl (by kernel_rfl) (by kernel_rfl) (by kernel_rfl) (fun _ _ _ h => h) (Or.inl ⟨by rfl, ?_⟩) (by assumption) ?_
            rotate_left
            focus (intro w hSw; (try dsimp only at hSw); first | (go_simp; done) | (go_simp; with_reducible rfl))
            try simp only [Act.put, List.setIfInBounds_toArray, List.set_cons_zero, List.set_cons_succ]
            refine wpAnyH_take (i := 24) (oi := { dst := some 134, op := Op.unOp UnOp.not 4 (Operand.tmp 133), type := 4, pos := "laws.go:246", after := #[{ on := 23, ground := Ground.data }, { on := 22, ground := Ground.guard }], guard := some (22, true) }) (v := ?_) rfl (by kernel_rfl) (by kernel_rfl) (by kernel_rfl) (fun _ _ _ h => h) (Or.inl ⟨by rfl, ?_⟩) (by assumption) ?_
            rotate_left
            focus (intro w hSw; (try dsimp only at hSw); first | (go_simp; done) | (go_simp; with_reducible rfl))
            try simp only [Act.put, List.setIfInBounds_toArray, List.set_cons_zero, List.set_cons_succ]
            refine wpAnyH_take (i := 25) (oi := { dst := some 135, op := Op.move (Operand.tmp 134), type := 4, pos := "laws.go:246", after := #[{ on := 24, ground := Ground.data }, { on := 22, ground := Ground.chain }, { on := 22, ground := Ground.guard }], guard := some (22, true) }) (v := ?_) rfl (by kernel_rfl) (by kernel_rfl) (by kernel_rfl) (fun _ _ _ h => h) (Or.inl ⟨by rfl, ?_⟩) (by assumption) ?_
            rotate_left
            focus (intro w hSw; (try dsimp only at hSw); first | (go_simp; done) | (go_simp; with_reducible rfl))
            try simp only [Act.put, List.setIfInBounds_toArray, List.set_cons_zero, List.set_cons_succ]
            refine wpAnyH_take (i := 26) (oi := { dst := some 136, op := Op.load 27 (Operand.tmp 10), type := 27, pos := "laws.go:246", after := #[{ on := 25, ground := Ground.guard }], guard := some (25, false) }) (v := undef) rfl (by kernel_rfl) (by kernel_rfl) (by kernel_rfl) (fun _ _ _ h => h) (Or.inr ⟨by rfl, rfl⟩) (by assumption) ?_
            try simp only [Act.put, List.setIfInBounds_toArray, List.set_cons_zero, List.set_cons_succ]
            refine wpAnyH_take (i := 27) (oi := { dst := some 137, op := Op.move (Operand.tmp 12), type := 3, pos := "laws.go:246", after := #[{ on := 25, ground := Ground.guard }], guard := some (25, false) }) (v := undef) rfl (by kernel_rfl) (by kernel_rfl) (by kernel_rfl) (fun _ _ _ h => h) (Or.inr ⟨by rfl, rfl⟩) (by assumption) ?_
            try simp only [Act.put, List.setIfInBounds_toArray, List.set_cons_zero, List.set_cons_succ]
            refine wpAnyH_take (i := 28) (oi := { dst := some 138, op := Op.call { callee := Callee.value (Operand.func 23), args := #[Operand.tmp 136, Operand.tmp 137], argTypes := #[27, 3] }, type := 3, pos := "laws.go:246", after := #[{ on := 26, ground := Ground.data }, { on := 27, ground := Ground.data }, { on := 25, ground := Ground.chain }, { on := 25, ground := Ground.guard }], guard := some (25, false) }) (v := undef) rfl (by kernel_rfl) (by kernel_rfl) (by kernel_rfl) (fun _ _ _ h => h) (Or.inr ⟨by rfl, rfl⟩) (by assumption) ?_
            try simp only [Act.put, List.setIfInBounds_toArray, List.set_cons_zero, List.set_cons_succ]
            refine wpAnyH_take (i := 29) (oi := { dst := some 139, op := Op.load 27 (Operand.tmp 11), type := 27, pos := "laws.go:246", after := #[{ on := 25, ground := Ground.guard }], guard := some (25, false) }) (v := undef) rfl (by kernel_rfl) (by kernel_rfl) (by kernel_rfl) (fun _ _ _ h => h) (Or.inr ⟨by rfl, rfl⟩) (by assumption) ?_
            try simp only [Act.put, List.setIfInBounds_toArray, List.set_cons_zero, List.set_cons_succ]
            refine wpAnyH_take (i := 30) (oi := { dst := some 140, op := Op.move (Operand.tmp 12), type := 3, pos := "laws.go:246", after := #[{ on := 25, ground := Ground.guard }], guard := some (25, false) }) (v := undef) rfl (by kernel_rfl) (by kernel_rfl) (by kernel_rfl) (fun _ _ _ h => h) (Or.inr ⟨by rfl, rfl⟩) (by assumption) ?_
            try simp only [Act.put, List.setIfInBounds_toArray, List.set_cons_zero, List.set_cons_succ]
            refine wpAnyH_take (i := 31) (oi := { dst := some 141, op := Op.call { callee := Callee.value (Operand.func 23), args := #[Operand.tmp 139, Operand.tmp 140], argTypes := #[27, 3] }, type := 3, pos := "laws.go:246", after := #[{ on := 29, ground := Ground.data }, { on := 30, ground := Ground.data }, { on := 28, ground := Ground.chain }, { on := 25, ground := Ground.guard }], guard := some (25, false) }) (v := undef) rfl (by kernel_rfl) (by kernel_rfl) (by kernel_rfl) (fun _ _ _ h => h) (Or.inr ⟨by rfl, rfl⟩) (by assumption) ?_
            try simp only [Act.put, List.setIfInBounds_toArray, List.set_cons_zero, List.set_cons_succ]
            refine wpAnyH_take (i := 32) (oi := { dst := some 142, op := Op.binOp BinOp.neq 3 (Operand.tmp 138) (Operand.tmp 141) 3, type := 4, pos := "laws.go:246", after := #[{ on := 28, ground := Ground.data }, { on := 31, ground := Ground.data }, { on := 25, ground := Ground.guard }], guard := some (25, false) }) (v := undef) rfl (by kernel_rfl) (by kernel_rfl) (by kernel_rfl) (fun _ _ _ h => h) (Or.inr ⟨by rfl, rfl⟩) (by assumption) ?_
            try simp only [Act.put, List.setIfInBounds_toArray, List.set_cons_zero, List.set_cons_succ]
            refine wpAnyH_take (i := 33) (oi := { dst := some 143, op := Op.pick (Operand.tmp 135) (Operand.const (Value.bool true)) (Operand.tmp 142), type := 4, pos := "laws.go:246", after := #[{ on := 25, ground := Ground.data }, { on := 32, ground := Ground.data }, { on := 22, ground := Ground.guard }], guard := some (22, true) }) (v := ?_) rfl (by kernel_rfl) (by kernel_rfl) (by kernel_rfl) (fun _ _ _ h => h) (Or.inl ⟨by rfl, ?_⟩) (by assumption) ?_
            rotate_left
            focus (intro w hSw; (try dsimp only at hSw); first | (go_simp; done) | (go_simp; with_reducible rfl))
            try simp only [Act.put, List.setIfInBounds_toArray, List.set_cons_zero, List.set_cons_succ]
            refine wpAnyH_take (i := 34) (oi := { dst := some 144, op := Op.pick (Operand.tmp 132) (Operand.tmp 143) (Operand.const (Value.bool false)), type := 4, pos := "laws.go:246", after := #[{ on := 22, ground := Ground.data }, { on := 33, ground := Ground.data }], guard := none }) (v := ?_) rfl (by kernel_rfl) (by kernel_rfl) (by kernel_rfl) (fun _ _ _ h => h) (Or.inl ⟨by rfl, ?_⟩) (by assumption) ?_
            rotate_left
            focus (intro w hSw; (try dsimp only at hSw); first | (go_simp; done) | (go_simp; with_reducible rfl))
            try simp only [Act.put, List.setIfInBounds_toArray, List.set_cons_zero, List.set_cons_succ]
            refine wpAnyH_take (i := 35) (oi := { dst := some 2, op := Op.assign (Operand.tmp 144), type := 4, pos := "laws.go:246", after := #[{ on := 34, ground := Ground.data }, { on := 31, ground := Ground.chain }, { on := 0, ground := Ground.phase }, { on := 1, ground := Ground.phase }, { on := 2, ground := Ground.phase }, { on := 3, ground := Ground.phase }, { on := 4, ground := Ground.phase }, { on := 5, ground := Ground.phase }, { on := 6, ground := Ground.phase }, { on := 7, ground := Ground.phase }, { on := 8, ground := Ground.phase }, { on := 9, ground := Ground.phase }, { on := 10, ground := Ground.phase }, { on := 11, ground := Ground.phase }, { on := 12, ground := Ground.phase }, { on := 13, ground := Ground.phase }, { on := 14, ground := Ground.phase }, { on := 15, ground := Ground.phase }, { on := 16, ground := Ground.phase }, { on := 17, ground := Ground.phase }, { on := 18, ground := Ground.phase }, { on := 19, ground := Ground.phase }, { on := 20, ground := Ground.phase }, { on := 21, ground := Ground.phase }, { on := 22, ground := Ground.phase }, { on := 23, ground := Ground.phase }, { on := 24, ground := Ground.phase }, { on := 25, ground := Ground.phase }, { on := 26, ground := Ground.phase }, { on := 27, ground := Ground.phase }, { on := 28, ground := Ground.phase }, { on := 29, ground := Ground.phase }, { on := 30, ground := Ground.phase }, { on := 31, ground := Ground.phase }, { on := 32, ground := Ground.phase }, { on := 33, ground := Ground.phase }, { on := 34, ground := Ground.phase }], guard := none }) (v := ?_) rfl (by kernel_rfl) (by kernel_rfl) (by kernel_rfl) (fun _ _ _ h => h) (Or.inl ⟨by rfl, ?_⟩) (by assumption) ?_
            rotate_left
            focus (intro w hSw; (try dsimp only at hSw); first | (go_simp; done) | (go_simp; with_reducible rfl))
            try simp only [Act.put, List.setIfInBounds_toArray, List.set_cons_zero, List.set_cons_succ]
            refine wpAnyH_done (by kernel_rfl) ?_ _
            go_wp2_with fail
            go_meet
            exact ⟨rfl, fb⟩
          | false =>
            have fb := below_drew' W14
            refine wp_region_held_drew (S := (fun w' => w'.cell? ⟨W9.heap.size, 0, none⟩ = some (.int .i64 b1) ∧ w'.cell? ⟨W9.heap.size, 1, none⟩ = some (.slice ana rows1.length cna) ∧ w'.cell? ⟨W9.heap.size, 2, none⟩ = some (.slice aoa out1.length coa) ∧ w'.cell? ⟨W9.heap.size + 1, 0, none⟩ = some (.int .i64 b2) ∧ w'.cell? ⟨W9.heap.size + 1, 1, none⟩ = some (.slice anb rows2.length cnb) ∧ w'.cell? ⟨W9.heap.size + 1, 2, none⟩ = some (.slice aob out2.length cob))) (by kernel_rfl) ?_ (fun hHeld => ?_)
            · exact ⟨(CA_14.out.below fb).c0, (CA_14.out.below fb).c1, (CA_14.out.below fb).c2, (CB_14.out.below fb).c0, (CB_14.out.below fb).c1, (CB_14.out.below fb).c2⟩
            refine wpAnyH_take (i := 0) (oi := { dst := some 110, op := Op.move (Operand.tmp 12), type := 3, pos := "laws.go:246", after := #[], guard := none }) (v := ?_) rfl (by kernel_rfl) (by kernel_rfl) (by kernel_rfl) (fun _ _ _ h => h) (Or.inl ⟨by rfl, ?_⟩) (by assumption) ?_
            rotate_left
            focus (intro w hSw; (try dsimp only at hSw); first | (go_simp; done) | (go_simp; with_reducible rfl))
            try simp only [Act.put, List.setIfInBounds_toArray, List.set_cons_zero, List.set_cons_succ]
            refine wpAnyH_take (i := 1) (oi := { dst := some 111, op := Op.move (Operand.tmp 14), type := 3, pos := "laws.go:246", after := #[], guard := none }) (v := ?_) rfl (by kernel_rfl) (by kernel_rfl) (by kernel_rfl) (fun _ _ _ h => h) (Or.inl ⟨by rfl, ?_⟩) (by assumption) ?_
            rotate_left
            focus (intro w hSw; (try dsimp only at hSw); first | (go_simp; done) | (go_simp; with_reducible rfl))
            try simp only [Act.put, List.setIfInBounds_toArray, List.set_cons_zero, List.set_cons_succ]
            refine wpAnyH_take (i := 2) (oi := { dst := some 112, op := Op.binOp BinOp.eql 3 (Operand.tmp 110) (Operand.tmp 111) 3, type := 4, pos := "laws.go:246", after := #[{ on := 0, ground := Ground.data }, { on := 1, ground := Ground.data }], guard := none }) (v := ?_) rfl (by kernel_rfl) (by kernel_rfl) (by kernel_rfl) (fun _ _ _ h => h) (Or.inl ⟨by rfl, ?_⟩) (by assumption) ?_
            rotate_left
            focus (intro w hSw; (try dsimp only at hSw); first | (go_simp; done) | (go_simp; with_reducible rfl))
            try simp only [Act.put, List.setIfInBounds_toArray, List.set_cons_zero, List.set_cons_succ]
            refine wpAnyH_take (i := 3) (oi := { dst := some 113, op := Op.move (Operand.tmp 112), type := 4, pos := "laws.go:246", after := #[{ on := 2, ground := Ground.data }], guard := none }) (v := ?_) rfl (by kernel_rfl) (by kernel_rfl) (by kernel_rfl) (fun _ _ _ h => h) (Or.inl ⟨by rfl, ?_⟩) (by assumption) ?_
            rotate_left
            focus (intro w hSw; (try dsimp only at hSw); first | (go_simp; done) | (go_simp; with_reducible rfl))
            try simp only [Act.put, List.setIfInBounds_toArray, List.set_cons_zero, List.set_cons_succ]
            refine wpAnyH_take (i := 4) (oi := { dst := some 114, op := Op.move (Operand.tmp 13), type := 4, pos := "laws.go:246", after := #[{ on := 3, ground := Ground.guard }], guard := some (3, true) }) (v := ?_) rfl (by kernel_rfl) (by kernel_rfl) (by kernel_rfl) (fun _ _ _ h => h) (Or.inl ⟨by rfl, ?_⟩) (by assumption) ?_
            rotate_left
            focus (intro w hSw; (try dsimp only at hSw); first | (go_simp; done) | (go_simp; with_reducible rfl))
            try simp only [Act.put, List.setIfInBounds_toArray, List.set_cons_zero, List.set_cons_succ]
            refine wpAnyH_take (i := 5) (oi := { dst := some 115, op := Op.move (Operand.tmp 15), type := 4, pos := "laws.go:246", after := #[{ on := 3, ground := Ground.guard }], guard := some (3, true) }) (v := ?_) rfl (by kernel_rfl) (by kernel_rfl) (by kernel_rfl) (fun _ _ _ h => h) (Or.inl ⟨by rfl, ?_⟩) (by assumption) ?_
            rotate_left
            focus (intro w hSw; (try dsimp only at hSw); first | (go_simp; done) | (go_simp; with_reducible rfl))
            try simp only [Act.put, List.setIfInBounds_toArray, List.set_cons_zero, List.set_cons_succ]
            refine wpAnyH_take (i := 6) (oi := { dst := some 116, op := Op.binOp BinOp.eql 4 (Operand.tmp 114) (Operand.tmp 115) 4, type := 4, pos := "laws.go:246", after := #[{ on := 4, ground := Ground.data }, { on := 5, ground := Ground.data }, { on := 3, ground := Ground.guard }], guard := some (3, true) }) (v := ?_) rfl (by kernel_rfl) (by kernel_rfl) (by kernel_rfl) (fun _ _ _ h => h) (Or.inl ⟨by rfl, ?_⟩) (by assumption) ?_
            rotate_left
            focus (intro w hSw; (try dsimp only at hSw); first | (go_simp; done) | (go_simp; with_reducible rfl))
            try simp only [Act.put, List.setIfInBounds_toArray, List.set_cons_zero, List.set_cons_succ]
            refine wpAnyH_take (i := 7) (oi := { dst := some 117, op := Op.pick (Operand.tmp 113) (Operand.tmp 116) (Operand.const (Value.bool false)), type := 4, pos := "laws.go:246", after := #[{ on := 3, ground := Ground.data }, { on := 6, ground := Ground.data }], guard := none }) (v := ?_) rfl (by kernel_rfl) (by kernel_rfl) (by kernel_rfl) (fun _ _ _ h => h) (Or.inl ⟨by rfl, ?_⟩) (by assumption) ?_
            rotate_left
            focus (intro w hSw; (try dsimp only at hSw); first | (go_simp; done) | (go_simp; with_reducible rfl))
            try simp only [Act.put, List.setIfInBounds_toArray, List.set_cons_zero, List.set_cons_succ]
            refine wpAnyH_take (i := 8) (oi := { dst := some 118, op := Op.move (Operand.tmp 117), type := 4, pos := "laws.go:246", after := #[{ on := 7, ground := Ground.data }, { on := 3, ground := Ground.chain }], guard := none }) (v := ?_) rfl (by kernel_rfl) (by kernel_rfl) (by kernel_rfl) (fun _ _ _ h => h) (Or.inl ⟨by rfl, ?_⟩) (by assumption) ?_
            rotate_left
            focus (intro w hSw; (try dsimp only at hSw); first | (go_simp; done) | (go_simp; with_reducible rfl))
            try simp only [Act.put, List.setIfInBounds_toArray, List.set_cons_zero, List.set_cons_succ]
            refine wpAnyH_take (i := 9) (oi := { dst := some 119, op := Op.move (Operand.tmp 16), type := 4, pos := "laws.go:246", after := #[{ on := 8, ground := Ground.guard }], guard := some (8, true) }) (v := ?_) rfl (by kernel_rfl) (by kernel_rfl) (by kernel_rfl) (fun _ _ _ h => h) (Or.inl ⟨by rfl, ?_⟩) (by assumption) ?_
            rotate_left
            focus (intro w hSw; (try dsimp only at hSw); first | (go_simp; done) | (go_simp; with_reducible rfl))
            try simp only [Act.put, List.setIfInBounds_toArray, List.set_cons_zero, List.set_cons_succ]
            refine wpAnyH_take (i := 10) (oi := { dst := some 120, op := Op.load 27 (Operand.tmp 10), type := 27, pos := "laws.go:246", after := #[{ on := 8, ground := Ground.guard }], guard := some (8, true) }) (v := ?_) rfl (by kernel_rfl) (by kernel_rfl) (by kernel_rfl) (fun _ _ _ h => h) (Or.inl ⟨by rfl, ?_⟩) (by assumption) ?_
            rotate_left
            focus (intro w hSw; (try dsimp only at hSw); first | (go_simp; done) | (go_simp; with_reducible rfl))
            try simp only [Act.put, List.setIfInBounds_toArray, List.set_cons_zero, List.set_cons_succ]
            refine wpAnyH_take (i := 11) (oi := { dst := some 121, op := Op.load 27 (Operand.tmp 11), type := 27, pos := "laws.go:246", after := #[{ on := 8, ground := Ground.guard }], guard := some (8, true) }) (v := ?_) rfl (by kernel_rfl) (by kernel_rfl) (by kernel_rfl) (fun _ _ _ h => h) (Or.inl ⟨by rfl, ?_⟩) (by assumption) ?_
            rotate_left
            focus (intro w hSw; (try dsimp only at hSw); first | (go_simp; done) | (go_simp; with_reducible rfl))
            try simp only [Act.put, List.setIfInBounds_toArray, List.set_cons_zero, List.set_cons_succ]
            refine wpAnyH_ready (rs := [12]) (by kernel_rfl) (by simp) ?_
            refine AllReadyH.cons (o := { dst := some 122, op := Op.call { callee := Callee.value (Operand.func 22), args := #[Operand.tmp 120, Operand.tmp 121], argTypes := #[27, 27] }, type := 4, pos := "laws.go:246", after := #[{ on := 10, ground := Ground.data }, { on := 11, ground := Ground.data }, { on := 8, ground := Ground.chain }, { on := 8, ground := Ground.guard }], guard := some (8, true) }) rfl (fun K hK => ?_) AllReadyH.nil
            go_simp
            go_at_call 22
            refine (CTS.out _ _ _ (Ra_14.out.below fb).lies (Rb_14.out.below fb).lies).mono ?_
            rintro e Wn ⟨rfl, fbn⟩
            replace fb := fb.trans (fbn.mono fb.size)
            refine hK.out _ _ ?_ (fun hHeld => ?_)
            · exact ⟨(CA_14.out.below fb).c0, (CA_14.out.below fb).c1, (CA_14.out.below fb).c2, (CB_14.out.below fb).c0, (CB_14.out.below fb).c1, (CB_14.out.below fb).c2⟩
            clear hK K
            try simp only [Act.put, List.setIfInBounds_toArray, List.set_cons_zero, List.set_cons_succ]
            refine wpAnyH_take (i := 13) (oi := { dst := some 123, op := Op.binOp BinOp.eql 4 (Operand.tmp 119) (Operand.tmp 122) 4, type := 4, pos := "laws.go:246", after := #[{ on := 9, ground := Ground.data }, { on := 12, ground := Ground.data }, { on := 8, ground := Ground.guard }], guard := some (8, true) }) (v := ?_) rfl (by kernel_rfl) (by kernel_rfl) (by kernel_rfl) (fun _ _ _ h => h) (Or.inl ⟨by rfl, ?_⟩) (by assumption) ?_
            rotate_left
            focus (intro w hSw; (try dsimp only at hSw); first | (go_simp; done) | (go_simp; with_reducible rfl))
            try simp only [Act.put, List.setIfInBounds_toArray, List.set_cons_zero, List.set_cons_succ]
            refine wpAnyH_take (i := 14) (oi := { dst := some 124, op := Op.pick (Operand.tmp 118) (Operand.tmp 123) (Operand.const (Value.bool false)), type := 4, pos := "laws.go:246", after := #[{ on := 8, ground := Ground.data }, { on := 13, ground := Ground.data }], guard := none }) (v := ?_) rfl (by kernel_rfl) (by kernel_rfl) (by kernel_rfl) (fun _ _ _ h => h) (Or.inl ⟨by rfl, ?_⟩) (by assumption) ?_
            rotate_left
            focus (intro w hSw; (try dsimp only at hSw); first | (go_simp; done) | (go_simp; with_reducible rfl))
            try simp only [Act.put, List.setIfInBounds_toArray, List.set_cons_zero, List.set_cons_succ]
            refine wpAnyH_take (i := 15) (oi := { dst := some 125, op := Op.move (Operand.tmp 124), type := 4, pos := "laws.go:246", after := #[{ on := 14, ground := Ground.data }, { on := 12, ground := Ground.chain }], guard := none }) (v := ?_) rfl (by kernel_rfl) (by kernel_rfl) (by kernel_rfl) (fun _ _ _ h => h) (Or.inl ⟨by rfl, ?_⟩) (by assumption) ?_
            rotate_left
            focus (intro w hSw; (try dsimp only at hSw); first | (go_simp; done) | (go_simp; with_reducible rfl))
            try simp only [Act.put, List.setIfInBounds_toArray, List.set_cons_zero, List.set_cons_succ]
            refine wpAnyH_take (i := 16) (oi := { dst := some 126, op := Op.move (Operand.tmp 16), type := 4, pos := "laws.go:246", after := #[{ on := 15, ground := Ground.guard }], guard := some (15, true) }) (v := ?_) rfl (by kernel_rfl) (by kernel_rfl) (by kernel_rfl) (fun _ _ _ h => h) (Or.inl ⟨by rfl, ?_⟩) (by assumption) ?_
            rotate_left
            focus (intro w hSw; (try dsimp only at hSw); first | (go_simp; done) | (go_simp; with_reducible rfl))
            try simp only [Act.put, List.setIfInBounds_toArray, List.set_cons_zero, List.set_cons_succ]
            refine wpAnyH_take (i := 17) (oi := { dst := some 127, op := Op.move (Operand.tmp 126), type := 4, pos := "laws.go:246", after := #[{ on := 16, ground := Ground.data }, { on := 15, ground := Ground.chain }, { on := 15, ground := Ground.guard }], guard := some (15, true) }) (v := ?_) rfl (by kernel_rfl) (by kernel_rfl) (by kernel_rfl) (fun _ _ _ h => h) (Or.inl ⟨by rfl, ?_⟩) (by assumption) ?_
            rotate_left
            focus (intro w hSw; (try dsimp only at hSw); first | (go_simp; done) | (go_simp; with_reducible rfl))
            try simp only [Act.put, List.setIfInBounds_toArray, List.set_cons_zero, List.set_cons_succ]
            refine wpAnyH_take (i := 18) (oi := { dst := some 128, op := Op.move (Operand.tmp 13), type := 4, pos := "laws.go:246", after := #[{ on := 17, ground := Ground.guard }], guard := some (17, true) }) (v := undef) rfl (by kernel_rfl) (by kernel_rfl) (by kernel_rfl) (fun _ _ _ h => h) (Or.inr ⟨by rfl, rfl⟩) (by assumption) ?_
            try simp only [Act.put, List.setIfInBounds_toArray, List.set_cons_zero, List.set_cons_succ]
            refine wpAnyH_take (i := 19) (oi := { dst := some 129, op := Op.pick (Operand.tmp 127) (Operand.tmp 128) (Operand.const (Value.bool false)), type := 4, pos := "laws.go:246", after := #[{ on := 17, ground := Ground.data }, { on := 18, ground := Ground.data }, { on := 15, ground := Ground.guard }], guard := some (15, true) }) (v := ?_) rfl (by kernel_rfl) (by kernel_rfl) (by kernel_rfl) (fun _ _ _ h => h) (Or.inl ⟨by rfl, ?_⟩) (by assumption) ?_
            rotate_left
            focus (intro w hSw; (try dsimp only at hSw); first | (go_simp; done) | (go_simp; with_reducible rfl))
            try simp only [Act.put, List.setIfInBounds_toArray, List.set_cons_zero, List.set_cons_succ]
            refine wpAnyH_take (i := 20) (oi := { dst := some 130, op := Op.unOp UnOp.not 4 (Operand.tmp 129), type := 4, pos := "laws.go:246", after := #[{ on := 19, ground := Ground.data }, { on := 15, ground := Ground.guard }], guard := some (15, true) }) (v := ?_) rfl (by kernel_rfl) (by kernel_rfl) (by kernel_rfl) (fun _ _ _ h => h) (Or.inl ⟨by rfl, ?_⟩) (by assumption) ?_
            rotate_left
            focus (intro w hSw; (try dsimp only at hSw); first | (go_simp; done) | (go_simp; with_reducible rfl))
            try simp only [Act.put, List.setIfInBounds_toArray, List.set_cons_zero, List.set_cons_succ]
            refine wpAnyH_take (i := 21) (oi := { dst := some 131, op := Op.pick (Operand.tmp 125) (Operand.tmp 130) (Operand.const (Value.bool false)), type := 4, pos := "laws.go:246", after := #[{ on := 15, ground := Ground.data }, { on := 20, ground := Ground.data }], guard := none }) (v := ?_) rfl (by kernel_rfl) (by kernel_rfl) (by kernel_rfl) (fun _ _ _ h => h) (Or.inl ⟨by rfl, ?_⟩) (by assumption) ?_
            rotate_left
            focus (intro w hSw; (try dsimp only at hSw); first | (go_simp; done) | (go_simp; with_reducible rfl))
            try simp only [Act.put, List.setIfInBounds_toArray, List.set_cons_zero, List.set_cons_succ]
            refine wpAnyH_take (i := 22) (oi := { dst := some 132, op := Op.move (Operand.tmp 131), type := 4, pos := "laws.go:246", after := #[{ on := 21, ground := Ground.data }, { on := 17, ground := Ground.chain }], guard := none }) (v := ?_) rfl (by kernel_rfl) (by kernel_rfl) (by kernel_rfl) (fun _ _ _ h => h) (Or.inl ⟨by rfl, ?_⟩) (by assumption) ?_
            rotate_left
            focus (intro w hSw; (try dsimp only at hSw); first | (go_simp; done) | (go_simp; with_reducible rfl))
            try simp only [Act.put, List.setIfInBounds_toArray, List.set_cons_zero, List.set_cons_succ]
            refine wpAnyH_take (i := 23) (oi := { dst := some 133, op := Op.move (Operand.tmp 13), type := 4, pos := "laws.go:246", after := #[{ on := 22, ground := Ground.guard }], guard := some (22, true) }) (v := ?_) rfl (by kernel_rfl) (by kernel_rfl) (by kernel_rfl) (fun _ _ _ h => h) (Or.inl ⟨by rfl, ?_⟩) (by assumption) ?_
            rotate_left
            focus (intro w hSw; (try dsimp only at hSw); first | (go_simp; done) | (go_simp; with_reducible rfl))
            try simp only [Act.put, List.setIfInBounds_toArray, List.set_cons_zero, List.set_cons_succ]
            refine wpAnyH_take (i := 24) (oi := { dst := some 134, op := Op.unOp UnOp.not 4 (Operand.tmp 133), type := 4, pos := "laws.go:246", after := #[{ on := 23, ground := Ground.data }, { on := 22, ground := Ground.guard }], guard := some (22, true) }) (v := ?_) rfl (by kernel_rfl) (by kernel_rfl) (by kernel_rfl) (fun _ _ _ h => h) (Or.inl ⟨by rfl, ?_⟩) (by assumption) ?_
            rotate_left
            focus (intro w hSw; (try dsimp only at hSw); first | (go_simp; done) | (go_simp; with_reducible rfl))
            try simp only [Act.put, List.setIfInBounds_toArray, List.set_cons_zero, List.set_cons_succ]
            refine wpAnyH_take (i := 25) (oi := { dst := some 135, op := Op.move (Operand.tmp 134), type := 4, pos := "laws.go:246", after := #[{ on := 24, ground := Ground.data }, { on := 22, ground := Ground.chain }, { on := 22, ground := Ground.guard }], guard := some (22, true) }) (v := ?_) rfl (by kernel_rfl) (by kernel_rfl) (by kernel_rfl) (fun _ _ _ h => h) (Or.inl ⟨by rfl, ?_⟩) (by assumption) ?_
            rotate_left
            focus (intro w hSw; (try dsimp only at hSw); first | (go_simp; done) | (go_simp; with_reducible rfl))
            try simp only [Act.put, List.setIfInBounds_toArray, List.set_cons_zero, List.set_cons_succ]
            refine wpAnyH_take (i := 26) (oi := { dst := some 136, op := Op.load 27 (Operand.tmp 10), type := 27, pos := "laws.go:246", after := #[{ on := 25, ground := Ground.guard }], guard := some (25, false) }) (v := undef) rfl (by kernel_rfl) (by kernel_rfl) (by kernel_rfl) (fun _ _ _ h => h) (Or.inr ⟨by rfl, rfl⟩) (by assumption) ?_
            try simp only [Act.put, List.setIfInBounds_toArray, List.set_cons_zero, List.set_cons_succ]
            refine wpAnyH_take (i := 27) (oi := { dst := some 137, op := Op.move (Operand.tmp 12), type := 3, pos := "laws.go:246", after := #[{ on := 25, ground := Ground.guard }], guard := some (25, false) }) (v := undef) rfl (by kernel_rfl) (by kernel_rfl) (by kernel_rfl) (fun _ _ _ h => h) (Or.inr ⟨by rfl, rfl⟩) (by assumption) ?_
            try simp only [Act.put, List.setIfInBounds_toArray, List.set_cons_zero, List.set_cons_succ]
            refine wpAnyH_take (i := 28) (oi := { dst := some 138, op := Op.call { callee := Callee.value (Operand.func 23), args := #[Operand.tmp 136, Operand.tmp 137], argTypes := #[27, 3] }, type := 3, pos := "laws.go:246", after := #[{ on := 26, ground := Ground.data }, { on := 27, ground := Ground.data }, { on := 25, ground := Ground.chain }, { on := 25, ground := Ground.guard }], guard := some (25, false) }) (v := undef) rfl (by kernel_rfl) (by kernel_rfl) (by kernel_rfl) (fun _ _ _ h => h) (Or.inr ⟨by rfl, rfl⟩) (by assumption) ?_
            try simp only [Act.put, List.setIfInBounds_toArray, List.set_cons_zero, List.set_cons_succ]
            refine wpAnyH_take (i := 29) (oi := { dst := some 139, op := Op.load 27 (Operand.tmp 11), type := 27, pos := "laws.go:246", after := #[{ on := 25, ground := Ground.guard }], guard := some (25, false) }) (v := undef) rfl (by kernel_rfl) (by kernel_rfl) (by kernel_rfl) (fun _ _ _ h => h) (Or.inr ⟨by rfl, rfl⟩) (by assumption) ?_
            try simp only [Act.put, List.setIfInBounds_toArray, List.set_cons_zero, List.set_cons_succ]
            refine wpAnyH_take (i := 30) (oi := { dst := some 140, op := Op.move (Operand.tmp 12), type := 3, pos := "laws.go:246", after := #[{ on := 25, ground := Ground.guard }], guard := some (25, false) }) (v := undef) rfl (by kernel_rfl) (by kernel_rfl) (by kernel_rfl) (fun _ _ _ h => h) (Or.inr ⟨by rfl, rfl⟩) (by assumption) ?_
            try simp only [Act.put, List.setIfInBounds_toArray, List.set_cons_zero, List.set_cons_succ]
            refine wpAnyH_take (i := 31) (oi := { dst := some 141, op := Op.call { callee := Callee.value (Operand.func 23), args := #[Operand.tmp 139, Operand.tmp 140], argTypes := #[27, 3] }, type := 3, pos := "laws.go:246", after := #[{ on := 29, ground := Ground.data }, { on := 30, ground := Ground.data }, { on := 28, ground := Ground.chain }, { on := 25, ground := Ground.guard }], guard := some (25, false) }) (v := undef) rfl (by kernel_rfl) (by kernel_rfl) (by kernel_rfl) (fun _ _ _ h => h) (Or.inr ⟨by rfl, rfl⟩) (by assumption) ?_
            try simp only [Act.put, List.setIfInBounds_toArray, List.set_cons_zero, List.set_cons_succ]
            refine wpAnyH_take (i := 32) (oi := { dst := some 142, op := Op.binOp BinOp.neq 3 (Operand.tmp 138) (Operand.tmp 141) 3, type := 4, pos := "laws.go:246", after := #[{ on := 28, ground := Ground.data }, { on := 31, ground := Ground.data }, { on := 25, ground := Ground.guard }], guard := some (25, false) }) (v := undef) rfl (by kernel_rfl) (by kernel_rfl) (by kernel_rfl) (fun _ _ _ h => h) (Or.inr ⟨by rfl, rfl⟩) (by assumption) ?_
            try simp only [Act.put, List.setIfInBounds_toArray, List.set_cons_zero, List.set_cons_succ]
            refine wpAnyH_take (i := 33) (oi := { dst := some 143, op := Op.pick (Operand.tmp 135) (Operand.const (Value.bool true)) (Operand.tmp 142), type := 4, pos := "laws.go:246", after := #[{ on := 25, ground := Ground.data }, { on := 32, ground := Ground.data }, { on := 22, ground := Ground.guard }], guard := some (22, true) }) (v := ?_) rfl (by kernel_rfl) (by kernel_rfl) (by kernel_rfl) (fun _ _ _ h => h) (Or.inl ⟨by rfl, ?_⟩) (by assumption) ?_
            rotate_left
            focus (intro w hSw; (try dsimp only at hSw); first | (go_simp; done) | (go_simp; with_reducible rfl))
            try simp only [Act.put, List.setIfInBounds_toArray, List.set_cons_zero, List.set_cons_succ]
            refine wpAnyH_take (i := 34) (oi := { dst := some 144, op := Op.pick (Operand.tmp 132) (Operand.tmp 143) (Operand.const (Value.bool false)), type := 4, pos := "laws.go:246", after := #[{ on := 22, ground := Ground.data }, { on := 33, ground := Ground.data }], guard := none }) (v := ?_) rfl (by kernel_rfl) (by kernel_rfl) (by kernel_rfl) (fun _ _ _ h => h) (Or.inl ⟨by rfl, ?_⟩) (by assumption) ?_
            rotate_left
            focus (intro w hSw; (try dsimp only at hSw); first | (go_simp; done) | (go_simp; with_reducible rfl))
            try simp only [Act.put, List.setIfInBounds_toArray, List.set_cons_zero, List.set_cons_succ]
            refine wpAnyH_take (i := 35) (oi := { dst := some 2, op := Op.assign (Operand.tmp 144), type := 4, pos := "laws.go:246", after := #[{ on := 34, ground := Ground.data }, { on := 31, ground := Ground.chain }, { on := 0, ground := Ground.phase }, { on := 1, ground := Ground.phase }, { on := 2, ground := Ground.phase }, { on := 3, ground := Ground.phase }, { on := 4, ground := Ground.phase }, { on := 5, ground := Ground.phase }, { on := 6, ground := Ground.phase }, { on := 7, ground := Ground.phase }, { on := 8, ground := Ground.phase }, { on := 9, ground := Ground.phase }, { on := 10, ground := Ground.phase }, { on := 11, ground := Ground.phase }, { on := 12, ground := Ground.phase }, { on := 13, ground := Ground.phase }, { on := 14, ground := Ground.phase }, { on := 15, ground := Ground.phase }, { on := 16, ground := Ground.phase }, { on := 17, ground := Ground.phase }, { on := 18, ground := Ground.phase }, { on := 19, ground := Ground.phase }, { on := 20, ground := Ground.phase }, { on := 21, ground := Ground.phase }, { on := 22, ground := Ground.phase }, { on := 23, ground := Ground.phase }, { on := 24, ground := Ground.phase }, { on := 25, ground := Ground.phase }, { on := 26, ground := Ground.phase }, { on := 27, ground := Ground.phase }, { on := 28, ground := Ground.phase }, { on := 29, ground := Ground.phase }, { on := 30, ground := Ground.phase }, { on := 31, ground := Ground.phase }, { on := 32, ground := Ground.phase }, { on := 33, ground := Ground.phase }, { on := 34, ground := Ground.phase }], guard := none }) (v := ?_) rfl (by kernel_rfl) (by kernel_rfl) (by kernel_rfl) (fun _ _ _ h => h) (Or.inl ⟨by rfl, ?_⟩) (by assumption) ?_
            rotate_left
            focus (intro w hSw; (try dsimp only at hSw); first | (go_simp; done) | (go_simp; with_reducible rfl))
            try simp only [Act.put, List.setIfInBounds_toArray, List.set_cons_zero, List.set_cons_succ]
            refine wpAnyH_done (by kernel_rfl) ?_ _
            go_wp2_with fail
            go_meet
            exact ⟨rfl, fb⟩
        | true =>
          have hst : st = false := by
            cases hs : st with
            | false => rfl
            | true => exact absurd (HD1.out hs) (by simp)
          subst hst
          obtain ⟨dn, _, hdn, hne⟩ := HD2.out rfl
          subst hdn
          have CA1 := Lib.hid (fun (W : World) (u : Value) (l : LiesS W u b1 rows1 out1) => impl_termat u b1 rows1 out1 W l (dn : Int))
          have CA2 := Lib.hid (fun (W : World) (u : Value) (l : LiesS W u b2 rows2 out2) => impl_termat u b2 rows2 out2 W l (dn : Int))
          obtain ⟨t1, ht1⟩ : ∃ t, t = termV b1 rows1 out1 (dn : Int) := ⟨_, rfl⟩
          obtain ⟨t2, ht2⟩ : ∃ t, t = termV b2 rows2 out2 (dn : Int) := ⟨_, rfl⟩
          rw [← ht1, ← ht2] at hne
          rw [← ht1] at CA1
          rw [← ht2] at CA2
          have hb : (t1 != t2) = true := by simpa using hne
          have hvv : ((dn : Int) == (dn : Int)) = true := by simp
          clear ht1 ht2 hne
          have fb := below_drew' W14
          refine wp_region_held_drew (S := (fun w' => w'.cell? ⟨W9.heap.size, 0, none⟩ = some (.int .i64 b1) ∧ w'.cell? ⟨W9.heap.size, 1, none⟩ = some (.slice ana rows1.length cna) ∧ w'.cell? ⟨W9.heap.size, 2, none⟩ = some (.slice aoa out1.length coa) ∧ w'.cell? ⟨W9.heap.size + 1, 0, none⟩ = some (.int .i64 b2) ∧ w'.cell? ⟨W9.heap.size + 1, 1, none⟩ = some (.slice anb rows2.length cnb) ∧ w'.cell? ⟨W9.heap.size + 1, 2, none⟩ = some (.slice aob out2.length cob))) (by kernel_rfl) ?_ (fun hHeld => ?_)
          · exact ⟨(CA_14.out.below fb).c0, (CA_14.out.below fb).c1, (CA_14.out.below fb).c2, (CB_14.out.below fb).c0, (CB_14.out.below fb).c1, (CB_14.out.below fb).c2⟩
          refine wpAnyH_take (i := 0) (oi := { dst := some 110, op := Op.move (Operand.tmp 12), type := 3, pos := "laws.go:246", after := #[], guard := none }) (v := ?_) rfl (by kernel_rfl) (by kernel_rfl) (by kernel_rfl) (fun _ _ _ h => h) (Or.inl ⟨by rfl, ?_⟩) (by assumption) ?_
          rotate_left
          focus (intro w hSw; (try dsimp only at hSw); first | (go_simp; done) | (go_simp; with_reducible rfl))
          try simp only [Act.put, List.setIfInBounds_toArray, List.set_cons_zero, List.set_cons_succ]
          refine wpAnyH_take (i := 1) (oi := { dst := some 111, op := Op.move (Operand.tmp 14), type := 3, pos := "laws.go:246", after := #[], guard := none }) (v := ?_) rfl (by kernel_rfl) (by kernel_rfl) (by kernel_rfl) (fun _ _ _ h => h) (Or.inl ⟨by rfl, ?_⟩) (by assumption) ?_
          rotate_left
          focus (intro w hSw; (try dsimp only at hSw); first | (go_simp; done) | (go_simp; with_reducible rfl))
          try simp only [Act.put, List.setIfInBounds_toArray, List.set_cons_zero, List.set_cons_succ]
          refine wpAnyH_take (i := 2) (oi := { dst := some 112, op := Op.binOp BinOp.eql 3 (Operand.tmp 110) (Operand.tmp 111) 3, type := 4, pos := "laws.go:246", after := #[{ on := 0, ground := Ground.data }, { on := 1, ground := Ground.data }], guard := none }) (v := ?_) rfl (by kernel_rfl) (by kernel_rfl) (by kernel_rfl) (fun _ _ _ h => h) (Or.inl ⟨by rfl, ?_⟩) (by assumption) ?_
          rotate_left
          focus (intro w hSw; (try dsimp only at hSw); first | (go_simp; done) | (go_simp; with_reducible rfl))
          try simp only [Act.put, List.setIfInBounds_toArray, List.set_cons_zero, List.set_cons_succ]
          refine wpAnyH_take (i := 3) (oi := { dst := some 113, op := Op.move (Operand.tmp 112), type := 4, pos := "laws.go:246", after := #[{ on := 2, ground := Ground.data }], guard := none }) (v := ?_) rfl (by kernel_rfl) (by kernel_rfl) (by kernel_rfl) (fun _ _ _ h => h) (Or.inl ⟨by rfl, ?_⟩) (by assumption) ?_
          rotate_left
          focus (intro w hSw; (try dsimp only at hSw); first | (go_simp; done) | (go_simp; with_reducible rfl))
          try simp only [Act.put, List.setIfInBounds_toArray, List.set_cons_zero, List.set_cons_succ]
          refine wpAnyH_take (i := 4) (oi := { dst := some 114, op := Op.move (Operand.tmp 13), type := 4, pos := "laws.go:246", after := #[{ on := 3, ground := Ground.guard }], guard := some (3, true) }) (v := ?_) rfl (by kernel_rfl) (by kernel_rfl) (by kernel_rfl) (fun _ _ _ h => h) (Or.inl ⟨by rfl, ?_⟩) (by assumption) ?_
          rotate_left
          focus (intro w hSw; (try dsimp only at hSw); first | (go_simp; done) | (go_simp; with_reducible rfl))
          try simp only [Act.put, List.setIfInBounds_toArray, List.set_cons_zero, List.set_cons_succ]
          refine wpAnyH_take (i := 5) (oi := { dst := some 115, op := Op.move (Operand.tmp 15), type := 4, pos := "laws.go:246", after := #[{ on := 3, ground := Ground.guard }], guard := some (3, true) }) (v := ?_) rfl (by kernel_rfl) (by kernel_rfl) (by kernel_rfl) (fun _ _ _ h => h) (Or.inl ⟨by rfl, ?_⟩) (by assumption) ?_
          rotate_left
          focus (intro w hSw; (try dsimp only at hSw); first | (go_simp; done) | (go_simp; with_reducible rfl))
          try simp only [Act.put, List.setIfInBounds_toArray, List.set_cons_zero, List.set_cons_succ]
          refine wpAnyH_take (i := 6) (oi := { dst := some 116, op := Op.binOp BinOp.eql 4 (Operand.tmp 114) (Operand.tmp 115) 4, type := 4, pos := "laws.go:246", after := #[{ on := 4, ground := Ground.data }, { on := 5, ground := Ground.data }, { on := 3, ground := Ground.guard }], guard := some (3, true) }) (v := ?_) rfl (by kernel_rfl) (by kernel_rfl) (by kernel_rfl) (fun _ _ _ h => h) (Or.inl ⟨by rfl, ?_⟩) (by assumption) ?_
          rotate_left
          focus (intro w hSw; (try dsimp only at hSw); first | (go_simp; done) | (go_simp; with_reducible rfl))
          try simp only [Act.put, List.setIfInBounds_toArray, List.set_cons_zero, List.set_cons_succ]
          refine wpAnyH_take (i := 7) (oi := { dst := some 117, op := Op.pick (Operand.tmp 113) (Operand.tmp 116) (Operand.const (Value.bool false)), type := 4, pos := "laws.go:246", after := #[{ on := 3, ground := Ground.data }, { on := 6, ground := Ground.data }], guard := none }) (v := ?_) rfl (by kernel_rfl) (by kernel_rfl) (by kernel_rfl) (fun _ _ _ h => h) (Or.inl ⟨by rfl, ?_⟩) (by assumption) ?_
          rotate_left
          focus (intro w hSw; (try dsimp only at hSw); first | (go_simp; done) | (go_simp; with_reducible rfl))
          try simp only [Act.put, List.setIfInBounds_toArray, List.set_cons_zero, List.set_cons_succ]
          refine wpAnyH_take (i := 8) (oi := { dst := some 118, op := Op.move (Operand.tmp 117), type := 4, pos := "laws.go:246", after := #[{ on := 7, ground := Ground.data }, { on := 3, ground := Ground.chain }], guard := none }) (v := ?_) rfl (by kernel_rfl) (by kernel_rfl) (by kernel_rfl) (fun _ _ _ h => h) (Or.inl ⟨by rfl, ?_⟩) (by assumption) ?_
          rotate_left
          focus (intro w hSw; (try dsimp only at hSw); first | (go_simp; done) | (go_simp; with_reducible rfl))
          try simp only [Act.put, List.setIfInBounds_toArray, List.set_cons_zero, List.set_cons_succ]
          refine wpAnyH_take (i := 9) (oi := { dst := some 119, op := Op.move (Operand.tmp 16), type := 4, pos := "laws.go:246", after := #[{ on := 8, ground := Ground.guard }], guard := some (8, true) }) (v := ?_) rfl (by kernel_rfl) (by kernel_rfl) (by kernel_rfl) (fun _ _ _ h => h) (Or.inl ⟨by rfl, ?_⟩) (by assumption) ?_
          rotate_left
          focus (intro w hSw; (try dsimp only at hSw); first | (go_simp; done) | (go_simp; with_reducible rfl))
          try simp only [Act.put, List.setIfInBounds_toArray, List.set_cons_zero, List.set_cons_succ]
          refine wpAnyH_take (i := 10) (oi := { dst := some 120, op := Op.load 27 (Operand.tmp 10), type := 27, pos := "laws.go:246", after := #[{ on := 8, ground := Ground.guard }], guard := some (8, true) }) (v := ?_) rfl (by kernel_rfl) (by kernel_rfl) (by kernel_rfl) (fun _ _ _ h => h) (Or.inl ⟨by rfl, ?_⟩) (by assumption) ?_
          rotate_left
          focus (intro w hSw; (try dsimp only at hSw); first | (go_simp; done) | (go_simp; with_reducible rfl))
          try simp only [Act.put, List.setIfInBounds_toArray, List.set_cons_zero, List.set_cons_succ]
          refine wpAnyH_take (i := 11) (oi := { dst := some 121, op := Op.load 27 (Operand.tmp 11), type := 27, pos := "laws.go:246", after := #[{ on := 8, ground := Ground.guard }], guard := some (8, true) }) (v := ?_) rfl (by kernel_rfl) (by kernel_rfl) (by kernel_rfl) (fun _ _ _ h => h) (Or.inl ⟨by rfl, ?_⟩) (by assumption) ?_
          rotate_left
          focus (intro w hSw; (try dsimp only at hSw); first | (go_simp; done) | (go_simp; with_reducible rfl))
          try simp only [Act.put, List.setIfInBounds_toArray, List.set_cons_zero, List.set_cons_succ]
          refine wpAnyH_ready (rs := [12]) (by kernel_rfl) (by simp) ?_
          refine AllReadyH.cons (o := { dst := some 122, op := Op.call { callee := Callee.value (Operand.func 22), args := #[Operand.tmp 120, Operand.tmp 121], argTypes := #[27, 27] }, type := 4, pos := "laws.go:246", after := #[{ on := 10, ground := Ground.data }, { on := 11, ground := Ground.data }, { on := 8, ground := Ground.chain }, { on := 8, ground := Ground.guard }], guard := some (8, true) }) rfl (fun K hK => ?_) AllReadyH.nil
          go_simp
          go_at_call 22
          refine (CTS.out _ _ _ (Ra_14.out.below fb).lies (Rb_14.out.below fb).lies).mono ?_
          rintro e Wn ⟨rfl, fbn⟩
          replace fb := fb.trans (fbn.mono fb.size)
          refine hK.out _ _ ?_ (fun hHeld => ?_)
          · exact ⟨(CA_14.out.below fb).c0, (CA_14.out.below fb).c1, (CA_14.out.below fb).c2, (CB_14.out.below fb).c0, (CB_14.out.below fb).c1, (CB_14.out.below fb).c2⟩
          clear hK K
          try simp only [Act.put, List.setIfInBounds_toArray, List.set_cons_zero, List.set_cons_succ]
          refine wpAnyH_take (i := 13) (oi := { dst := some 123, op := Op.binOp BinOp.eql 4 (Operand.tmp 119) (Operand.tmp 122) 4, type := 4, pos := "laws.go:246", after := #[{ on := 9, ground := Ground.data }, { on := 12, ground := Ground.data }, { on := 8, ground := Ground.guard }], guard := some (8, true) }) (v := ?_) rfl (by kernel_rfl) (by kernel_rfl) (by kernel_rfl) (fun _ _ _ h => h) (Or.inl ⟨by rfl, ?_⟩) (by assumption) ?_
          rotate_left
          focus (intro w hSw; (try dsimp only at hSw); first | (go_simp; done) | (go_simp; with_reducible rfl))
          try simp only [Act.put, List.setIfInBounds_toArray, List.set_cons_zero, List.set_cons_succ]
          refine wpAnyH_take (i := 14) (oi := { dst := some 124, op := Op.pick (Operand.tmp 118) (Operand.tmp 123) (Operand.const (Value.bool false)), type := 4, pos := "laws.go:246", after := #[{ on := 8, ground := Ground.data }, { on := 13, ground := Ground.data }], guard := none }) (v := ?_) rfl (by kernel_rfl) (by kernel_rfl) (by kernel_rfl) (fun _ _ _ h => h) (Or.inl ⟨by rfl, ?_⟩) (by assumption) ?_
          rotate_left
          focus (intro w hSw; (try dsimp only at hSw); first | (go_simp; done) | (go_simp; with_reducible rfl))
          try simp only [Act.put, List.setIfInBounds_toArray, List.set_cons_zero, List.set_cons_succ]
          refine wpAnyH_take (i := 15) (oi := { dst := some 125, op := Op.move (Operand.tmp 124), type := 4, pos := "laws.go:246", after := #[{ on := 14, ground := Ground.data }, { on := 12, ground := Ground.chain }], guard := none }) (v := ?_) rfl (by kernel_rfl) (by kernel_rfl) (by kernel_rfl) (fun _ _ _ h => h) (Or.inl ⟨by rfl, ?_⟩) (by assumption) ?_
          rotate_left
          focus (intro w hSw; (try dsimp only at hSw); first | (go_simp; done) | (go_simp; with_reducible rfl))
          try simp only [Act.put, List.setIfInBounds_toArray, List.set_cons_zero, List.set_cons_succ]
          refine wpAnyH_take (i := 16) (oi := { dst := some 126, op := Op.move (Operand.tmp 16), type := 4, pos := "laws.go:246", after := #[{ on := 15, ground := Ground.guard }], guard := some (15, true) }) (v := ?_) rfl (by kernel_rfl) (by kernel_rfl) (by kernel_rfl) (fun _ _ _ h => h) (Or.inl ⟨by rfl, ?_⟩) (by assumption) ?_
          rotate_left
          focus (intro w hSw; (try dsimp only at hSw); first | (go_simp; done) | (go_simp; with_reducible rfl))
          try simp only [Act.put, List.setIfInBounds_toArray, List.set_cons_zero, List.set_cons_succ]
          refine wpAnyH_take (i := 17) (oi := { dst := some 127, op := Op.move (Operand.tmp 126), type := 4, pos := "laws.go:246", after := #[{ on := 16, ground := Ground.data }, { on := 15, ground := Ground.chain }, { on := 15, ground := Ground.guard }], guard := some (15, true) }) (v := ?_) rfl (by kernel_rfl) (by kernel_rfl) (by kernel_rfl) (fun _ _ _ h => h) (Or.inl ⟨by rfl, ?_⟩) (by assumption) ?_
          rotate_left
          focus (intro w hSw; (try dsimp only at hSw); first | (go_simp; done) | (go_simp; with_reducible rfl))
          try simp only [Act.put, List.setIfInBounds_toArray, List.set_cons_zero, List.set_cons_succ]
          refine wpAnyH_take (i := 18) (oi := { dst := some 128, op := Op.move (Operand.tmp 13), type := 4, pos := "laws.go:246", after := #[{ on := 17, ground := Ground.guard }], guard := some (17, true) }) (v := undef) rfl (by kernel_rfl) (by kernel_rfl) (by kernel_rfl) (fun _ _ _ h => h) (Or.inr ⟨by rfl, rfl⟩) (by assumption) ?_
          try simp only [Act.put, List.setIfInBounds_toArray, List.set_cons_zero, List.set_cons_succ]
          refine wpAnyH_take (i := 19) (oi := { dst := some 129, op := Op.pick (Operand.tmp 127) (Operand.tmp 128) (Operand.const (Value.bool false)), type := 4, pos := "laws.go:246", after := #[{ on := 17, ground := Ground.data }, { on := 18, ground := Ground.data }, { on := 15, ground := Ground.guard }], guard := some (15, true) }) (v := ?_) rfl (by kernel_rfl) (by kernel_rfl) (by kernel_rfl) (fun _ _ _ h => h) (Or.inl ⟨by rfl, ?_⟩) (by assumption) ?_
          rotate_left
          focus (intro w hSw; (try dsimp only at hSw); first | (go_simp; done) | (go_simp; with_reducible rfl))
          try simp only [Act.put, List.setIfInBounds_toArray, List.set_cons_zero, List.set_cons_succ]
          refine wpAnyH_take (i := 20) (oi := { dst := some 130, op := Op.unOp UnOp.not 4 (Operand.tmp 129), type := 4, pos := "laws.go:246", after := #[{ on := 19, ground := Ground.data }, { on := 15, ground := Ground.guard }], guard := some (15, true) }) (v := ?_) rfl (by kernel_rfl) (by kernel_rfl) (by kernel_rfl) (fun _ _ _ h => h) (Or.inl ⟨by rfl, ?_⟩) (by assumption) ?_
          rotate_left
          focus (intro w hSw; (try dsimp only at hSw); first | (go_simp; done) | (go_simp; with_reducible rfl))
          try simp only [Act.put, List.setIfInBounds_toArray, List.set_cons_zero, List.set_cons_succ]
          refine wpAnyH_take (i := 21) (oi := { dst := some 131, op := Op.pick (Operand.tmp 125) (Operand.tmp 130) (Operand.const (Value.bool false)), type := 4, pos := "laws.go:246", after := #[{ on := 15, ground := Ground.data }, { on := 20, ground := Ground.data }], guard := none }) (v := ?_) rfl (by kernel_rfl) (by kernel_rfl) (by kernel_rfl) (fun _ _ _ h => h) (Or.inl ⟨by rfl, ?_⟩) (by assumption) ?_
          rotate_left
          focus (intro w hSw; (try dsimp only at hSw); first | (go_simp; done) | (go_simp; with_reducible rfl))
          try simp only [Act.put, List.setIfInBounds_toArray, List.set_cons_zero, List.set_cons_succ]
          refine wpAnyH_take (i := 22) (oi := { dst := some 132, op := Op.move (Operand.tmp 131), type := 4, pos := "laws.go:246", after := #[{ on := 21, ground := Ground.data }, { on := 17, ground := Ground.chain }], guard := none }) (v := ?_) rfl (by kernel_rfl) (by kernel_rfl) (by kernel_rfl) (fun _ _ _ h => h) (Or.inl ⟨by rfl, ?_⟩) (by assumption) ?_
          rotate_left
          focus (intro w hSw; (try dsimp only at hSw); first | (go_simp; done) | (go_simp; with_reducible rfl))
          try simp only [Act.put, List.setIfInBounds_toArray, List.set_cons_zero, List.set_cons_succ]
          refine wpAnyH_take (i := 23) (oi := { dst := some 133, op := Op.move (Operand.tmp 13), type := 4, pos := "laws.go:246", after := #[{ on := 22, ground := Ground.guard }], guard := some (22, true) }) (v := ?_) rfl (by kernel_rfl) (by kernel_rfl) (by kernel_rfl) (fun _ _ _ h => h) (Or.inl ⟨by rfl, ?_⟩) (by assumption) ?_
          rotate_left
          focus (intro w hSw; (try dsimp only at hSw); first | (go_simp; done) | (go_simp; with_reducible rfl))
          try simp only [Act.put, List.setIfInBounds_toArray, List.set_cons_zero, List.set_cons_succ]
          refine wpAnyH_take (i := 24) (oi := { dst := some 134, op := Op.unOp UnOp.not 4 (Operand.tmp 133), type := 4, pos := "laws.go:246", after := #[{ on := 23, ground := Ground.data }, { on := 22, ground := Ground.guard }], guard := some (22, true) }) (v := ?_) rfl (by kernel_rfl) (by kernel_rfl) (by kernel_rfl) (fun _ _ _ h => h) (Or.inl ⟨by rfl, ?_⟩) (by assumption) ?_
          rotate_left
          focus (intro w hSw; (try dsimp only at hSw); first | (go_simp; done) | (go_simp; with_reducible rfl))
          try simp only [Act.put, List.setIfInBounds_toArray, List.set_cons_zero, List.set_cons_succ]
          refine wpAnyH_take (i := 25) (oi := { dst := some 135, op := Op.move (Operand.tmp 134), type := 4, pos := "laws.go:246", after := #[{ on := 24, ground := Ground.data }, { on := 22, ground := Ground.chain }, { on := 22, ground := Ground.guard }], guard := some (22, true) }) (v := ?_) rfl (by kernel_rfl) (by kernel_rfl) (by kernel_rfl) (fun _ _ _ h => h) (Or.inl ⟨by rfl, ?_⟩) (by assumption) ?_
          rotate_left
          focus (intro w hSw; (try dsimp only at hSw); first | (go_simp; done) | (go_simp; with_reducible rfl))
          try simp only [Act.put, List.setIfInBounds_toArray, List.set_cons_zero, List.set_cons_succ]
          refine wpAnyH_take (i := 26) (oi := { dst := some 136, op := Op.load 27 (Operand.tmp 10), type := 27, pos := "laws.go:246", after := #[{ on := 25, ground := Ground.guard }], guard := some (25, false) }) (v := ?_) rfl (by kernel_rfl) (by kernel_rfl) (by kernel_rfl) (fun _ _ _ h => h) (Or.inl ⟨by rfl, ?_⟩) (by assumption) ?_
          rotate_left
          focus (intro w hSw; (try dsimp only at hSw); first | (go_simp; done) | (go_simp; with_reducible rfl))
          try simp only [Act.put, List.setIfInBounds_toArray, List.set_cons_zero, List.set_cons_succ]
          refine wpAnyH_take (i := 27) (oi := { dst := some 137, op := Op.move (Operand.tmp 12), type := 3, pos := "laws.go:246", after := #[{ on := 25, ground := Ground.guard }], guard := some (25, false) }) (v := ?_) rfl (by kernel_rfl) (by kernel_rfl) (by kernel_rfl) (fun _ _ _ h => h) (Or.inl ⟨by rfl, ?_⟩) (by assumption) ?_
          rotate_left
          focus (intro w hSw; (try dsimp only at hSw); first | (go_simp; done) | (go_simp; with_reducible rfl))
          try simp only [Act.put, List.setIfInBounds_toArray, List.set_cons_zero, List.set_cons_succ]
          refine wpAnyH_take (i := 29) (oi := { dst := some 139, op := Op.load 27 (Operand.tmp 11), type := 27, pos := "laws.go:246", after := #[{ on := 25, ground := Ground.guard }], guard := some (25, false) }) (v := ?_) rfl (by kernel_rfl) (by kernel_rfl) (by kernel_rfl) (fun _ _ _ h => h) (Or.inl ⟨by rfl, ?_⟩) (by assumption) ?_
          rotate_left
          focus (intro w hSw; (try dsimp only at hSw); first | (go_simp; done) | (go_simp; with_reducible rfl))
          try simp only [Act.put, List.setIfInBounds_toArray, List.set_cons_zero, List.set_cons_succ]
          refine wpAnyH_take (i := 30) (oi := { dst := some 140, op := Op.move (Operand.tmp 12), type := 3, pos := "laws.go:246", after := #[{ on := 25, ground := Ground.guard }], guard := some (25, false) }) (v := ?_) rfl (by kernel_rfl) (by kernel_rfl) (by kernel_rfl) (fun _ _ _ h => h) (Or.inl ⟨by rfl, ?_⟩) (by assumption) ?_
          rotate_left
          focus (intro w hSw; (try dsimp only at hSw); first | (go_simp; done) | (go_simp; with_reducible rfl))
          try simp only [Act.put, List.setIfInBounds_toArray, List.set_cons_zero, List.set_cons_succ]
          refine wpAnyH_ready (rs := [28]) (by kernel_rfl) (by simp) ?_
          refine AllReadyH.cons (o := { dst := some 138, op := Op.call { callee := Callee.value (Operand.func 23), args := #[Operand.tmp 136, Operand.tmp 137], argTypes := #[27, 3] }, type := 3, pos := "laws.go:246", after := #[{ on := 26, ground := Ground.data }, { on := 27, ground := Ground.data }, { on := 25, ground := Ground.chain }, { on := 25, ground := Ground.guard }], guard := some (25, false) }) rfl (fun K hK => ?_) AllReadyH.nil
          go_simp
          go_at_call 23
          refine (CA1.out _ _ (Ra_14.out.below fb).lies).mono ?_
          rintro e Wn ⟨rfl, fbn⟩
          replace fb := fb.trans (fbn.mono fb.size)
          refine hK.out _ _ ?_ (fun hHeld => ?_)
          · exact ⟨(CA_14.out.below fb).c0, (CA_14.out.below fb).c1, (CA_14.out.below fb).c2, (CB_14.out.below fb).c0, (CB_14.out.below fb).c1, (CB_14.out.below fb).c2⟩
          clear hK K
          try simp only [Act.put, List.setIfInBounds_toArray, List.set_cons_zero, List.set_cons_succ]
          refine wpAnyH_ready (rs := [31]) (by kernel_rfl) (by simp) ?_
          refine AllReadyH.cons (o := { dst := some 141, op := Op.call { callee := Callee.value (Operand.func 23), args := #[Operand.tmp 139, Operand.tmp 140], argTypes := #[27, 3] }, type := 3, pos := "laws.go:246", after := #[{ on := 29, ground := Ground.data }, { on := 30, ground := Ground.data }, { on := 28, ground := Ground.chain }, { on := 25, ground := Ground.guard }], guard := some (25, false) }) rfl (fun K hK => ?_) AllReadyH.nil
          go_simp
          go_at_call 23
          refine (CA2.out _ _ (Rb_14.out.below fb).lies).mono ?_
          rintro e Wn ⟨rfl, fbn⟩
          replace fb := fb.trans (fbn.mono fb.size)
          refine hK.out _ _ ?_ (fun hHeld => ?_)
          · exact ⟨(CA_14.out.below fb).c0, (CA_14.out.below fb).c1, (CA_14.out.below fb).c2, (CB_14.out.below fb).c0, (CB_14.out.below fb).c1, (CB_14.out.below fb).c2⟩
          clear hK K
          try simp only [Act.put, List.setIfInBounds_toArray, List.set_cons_zero, List.set_cons_succ]
          refine wpAnyH_take (i := 32) (oi := { dst := some 142, op := Op.binOp BinOp.neq 3 (Operand.tmp 138) (Operand.tmp 141) 3, type := 4, pos := "laws.go:246", after := #[{ on := 28, ground := Ground.data }, { on := 31, ground := Ground.data }, { on := 25, ground := Ground.guard }], guard := some (25, false) }) (v := ?_) rfl (by kernel_rfl) (by kernel_rfl) (by kernel_rfl) (fun _ _ _ h => h) (Or.inl ⟨by rfl, ?_⟩) (by assumption) ?_
          rotate_left
          focus (intro w hSw; (try dsimp only at hSw); first | (go_simp; done) | (go_simp; with_reducible rfl))
          try simp only [Act.put, List.setIfInBounds_toArray, List.set_cons_zero, List.set_cons_succ]
          refine wpAnyH_take (i := 33) (oi := { dst := some 143, op := Op.pick (Operand.tmp 135) (Operand.const (Value.bool true)) (Operand.tmp 142), type := 4, pos := "laws.go:246", after := #[{ on := 25, ground := Ground.data }, { on := 32, ground := Ground.data }, { on := 22, ground := Ground.guard }], guard := some (22, true) }) (v := ?_) rfl (by kernel_rfl) (by kernel_rfl) (by kernel_rfl) (fun _ _ _ h => h) (Or.inl ⟨by rfl, ?_⟩) (by assumption) ?_
          rotate_left
          focus (intro w hSw; (try dsimp only at hSw); first | (go_simp; done) | (go_simp; with_reducible rfl))
          try simp only [Act.put, List.setIfInBounds_toArray, List.set_cons_zero, List.set_cons_succ]
          refine wpAnyH_take (i := 34) (oi := { dst := some 144, op := Op.pick (Operand.tmp 132) (Operand.tmp 143) (Operand.const (Value.bool false)), type := 4, pos := "laws.go:246", after := #[{ on := 22, ground := Ground.data }, { on := 33, ground := Ground.data }], guard := none }) (v := ?_) rfl (by kernel_rfl) (by kernel_rfl) (by kernel_rfl) (fun _ _ _ h => h) (Or.inl ⟨by rfl, ?_⟩) (by assumption) ?_
          rotate_left
          focus (intro w hSw; (try dsimp only at hSw); first | (go_simp; done) | (go_simp; with_reducible rfl))
          try simp only [Act.put, List.setIfInBounds_toArray, List.set_cons_zero, List.set_cons_succ]
          refine wpAnyH_take (i := 35) (oi := { dst := some 2, op := Op.assign (Operand.tmp 144), type := 4, pos := "laws.go:246", after := #[{ on := 34, ground := Ground.data }, { on := 31, ground := Ground.chain }, { on := 0, ground := Ground.phase }, { on := 1, ground := Ground.phase }, { on := 2, ground := Ground.phase }, { on := 3, ground := Ground.phase }, { on := 4, ground := Ground.phase }, { on := 5, ground := Ground.phase }, { on := 6, ground := Ground.phase }, { on := 7, ground := Ground.phase }, { on := 8, ground := Ground.phase }, { on := 9, ground := Ground.phase }, { on := 10, ground := Ground.phase }, { on := 11, ground := Ground.phase }, { on := 12, ground := Ground.phase }, { on := 13, ground := Ground.phase }, { on := 14, ground := Ground.phase }, { on := 15, ground := Ground.phase }, { on := 16, ground := Ground.phase }, { on := 17, ground := Ground.phase }, { on := 18, ground := Ground.phase }, { on := 19, ground := Ground.phase }, { on := 20, ground := Ground.phase }, { on := 21, ground := Ground.phase }, { on := 22, ground := Ground.phase }, { on := 23, ground := Ground.phase }, { on := 24, ground := Ground.phase }, { on := 25, ground := Ground.phase }, { on := 26, ground := Ground.phase }, { on := 27, ground := Ground.phase }, { on := 28, ground := Ground.phase }, { on := 29, ground := Ground.phase }, { on := 30, ground := Ground.phase }, { on := 31, ground := Ground.phase }, { on := 32, ground := Ground.phase }, { on := 33, ground := Ground.phase }, { on := 34, ground := Ground.phase }], guard := none }) (v := ?_) rfl (by kernel_rfl) (by kernel_rfl) (by kernel_rfl) (fun _ _ _ h => h) (Or.inl ⟨by rfl, ?_⟩) (by assumption) ?_
          rotate_left
          focus (intro w hSw; (try dsimp only at hSw); first | (go_simp; done) | (go_simp; with_reducible rfl))
          try simp only [Act.put, List.setIfInBounds_toArray, List.set_cons_zero, List.set_cons_succ]
          refine wpAnyH_done (by kernel_rfl) ?_ _
          go_wp2_with fail
          go_meet
          exact ⟨rfl, fb⟩
      case rest =>
        obtain ⟨rfl, bw15⟩ := hcut
        obtain ⟨W15, rfl⟩ : ∃ W, W = wc := ⟨_, rfl⟩
        have bw := bw15.out
        have HB_15 := Lib.hid (HB_14.out.trans (bw.mono HB_14.out.size))
        have CA_15 := Lib.hid (CA_14.out.below bw)
        have CB_15 := Lib.hid (CB_14.out.below bw)
        have Ra_15 := Lib.hid (Ra_14.out.below bw)
        have Rb_15 := Lib.hid (Rb_14.out.below bw)
        have Z20 := Lib.hid (bw.size)
        clear CA_14 CB_14 Ra_14 Rb_14 HB_14 bw15 bw
        clear Ra_15 Rb_15 CA_15 CB_15
        go_wp2
        go_ret
        exact ⟨rfl, HB_15.out⟩
end Mins
end Go.Proofs.Ytpndclpmhelikaa
