/- The walk of the law on kernels: it returns true for every code of bytes. No conditions beyond those that it states. -/
import Derived.Test.YtdgfecjakmdheaaKM8
import Derived.Test.YtdgfecjakmdheaaKM6
import Derived.Test.YtdgfecjakmdheaaKM7
import Derived.Deep.DeepCutAuto
import Derived.Deep.RegionHeld3
namespace Go.Proofs.Ytdgfecjakmdheaa
open Go.ChangeShapes Go.WideShapes Go.ChangeAt Go.RowKit
open Go.PlainAid Plain
set_option linter.unusedVariables false
namespace Kern
open Seqs Digits Ints Cursor Mins
def Since (w0 w : World) : Prop := Below w0.heap.size w0 w
theorem Since.below {w0 w w' : World} (h : Since w0 w) (hb : Below w.heap.size w w') : Since w0 w' := Below.trans h (hb.mono (Below.size h))
theorem ok_size {rows : List (List Int)} {out : List Int} (h : Cursor.SeqOk rows out) : rows.length + tot rows + out.length ≤ 1048576 := by
  have h1 := tot_four (rows := rows) fun r hr => (h.2.2.2 r hr).2
  have h2 := h.2.1
  have h3 := h.2.2.1
  omega
set_option maxRecDepth 100000 in
set_option maxHeartbeats 8000000 in
theorem walk (w : World) (a : Option Addr) (len cap : Nat) (hlen : len ≤ 1048576) (hcode : Cursor.CodeIs w w.heap.size a len) :
    Calls Try.prog 3 #[.slice a len cap] w fun e w' => e = .returned (.bool true) ∧ Below w.heap.size w w' := by
  have HC := Lib.hid hcode
  clear hcode
  have HB_0 : Hid (Below w.heap.size w w) := Below.refl _ _
  go_enter Try.func3, Try.ntmps3
  go_wp2_with fail
  refine (Cursor.big_no w a len cap hlen).mono ?_
  rintro e W' ⟨rfl, rfl⟩
  go_wp2_with fail
  refine (Cursor.drawKernel w a len cap hlen HC.out).mono ?_
  rintro e W1 ⟨vs, b0, rows0, out0, hok, rfl, h1, fb1⟩
  have HB_1 := Lib.hid (HB_0.out.trans (fb1.mono HB_0.out.size))
  have Z1 := Lib.hid (fb1.size)
  have Rs_1 := Lib.hid h1
  clear HB_0 fb1 h1
  have hz := ok_size hok
  clear hok
  have CI := Lib.hid (fun (W : World) (u : Value) (l : LiesS W u b0 rows0 out0) => impl_kq u b0 rows0 out0 W l hz)
  have CS := Lib.hid (fun (W : World) (u : Value) (l : LiesS W u b0 rows0 out0) => spec_kq u b0 rows0 out0 W l hz)
  have CZI := Lib.hid (fun (W : World) (u : Value) (l : LiesS W u b0 rows0 out0) => impl_ks u b0 rows0 out0 W l hz)
  have CZS := Lib.hid (fun (W : World) (u : Value) (l : LiesS W u b0 rows0 out0) => spec_ks u b0 rows0 out0 W l hz)
  have CFI := Lib.hid (fun (W : World) (u : Value) (l : LiesS W u b0 rows0 out0) => impl_fl u b0 rows0 out0 W l hz)
  have CFS := Lib.hid (fun (W : World) (u : Value) (l : LiesS W u b0 rows0 out0) => spec_fl u b0 rows0 out0 W l hz)
  have HFL := Lib.hid (fun h : flK b0 rows0 out0 = true => fl_law h)
  clear hz
  obtain ⟨kl, hkl⟩ : ∃ y, y = kerV b0 rows0 out0 := ⟨_, rfl⟩
  obtain ⟨kk, hkk⟩ : ∃ y, y = kerK b0 rows0 out0 := ⟨_, rfl⟩
  obtain ⟨zk, hzk⟩ : ∃ y, y = flK b0 rows0 out0 := ⟨_, rfl⟩
  obtain ⟨zr, hzr⟩ : ∃ y, y = flR b0 rows0 out0 := ⟨_, rfl⟩
  obtain ⟨zo, hzo⟩ : ∃ y, y = flO b0 rows0 out0 := ⟨_, rfl⟩
  obtain ⟨zb, hzb⟩ : ∃ y, y = flB b0 rows0 out0 := ⟨_, rfl⟩
  rw [← hkl, ← hkk] at CI CS
  rw [← hzb, ← hzr, ← hzo, ← hzk] at CFI CFS
  rw [← hzb, ← hzr, ← hzo, ← hzk] at HFL
  obtain ⟨sz, hsz⟩ : ∃ y : Int, y = ksV b0 rows0 out0 := ⟨_, rfl⟩
  rw [← hsz] at CZI CZS
  have hkk2 : (kk != kk) = false := by simp
  have hff2 : (zk != zk) = false := by simp
  have hss2 : (sz != sz) = false := by simp
  clear hsz hkl hkk hzb hzr hzo hzk
  obtain ⟨ans, cns, aos, cos, rfl⟩ := Rs_1.out.form
  go_wp2_with fail
  have bx2 : Below W1.heap.size W1 (W1.alloc (Obj.cells #[.int .i64 b0, .slice ans rows0.length cns, .slice aos out0.length cos] 27)) := (Below.refl _ _).alloc (Nat.le_refl _) _
  have cx2 := Cells3.new W1 27 (.int .i64 b0) (.slice ans rows0.length cns) (.slice aos out0.length cos)
  have hz2 : (W1.alloc (Obj.cells #[.int .i64 b0, .slice ans rows0.length cns, .slice aos out0.length cos] 27)).heap.size = W1.heap.size + 1 := size_alloc' _ _
  obtain ⟨W2, hW2⟩ : ∃ W, W = (W1.alloc (Obj.cells #[.int .i64 b0, .slice ans rows0.length cns, .slice aos out0.length cos] 27)) := ⟨_, rfl⟩
  rw [← hW2] at bx2 cx2 hz2 ⊢
  have HB_2 := Lib.hid (HB_1.out.trans (bx2.mono HB_1.out.size))
  have Rs_2 := Lib.hid (Rs_1.out.below bx2)
  have Z2 := Lib.hid (bx2.size)
  have CS_2 := Lib.hid cx2
  have Z3 := Lib.hid hz2
  clear Rs_1 HB_1 bx2 hW2 cx2
  clear hz2
  refine (CI.out _ _ Rs_2.out.lies).mono ?_
  rintro e W3 ⟨vl, rfl, h3, fb3⟩
  have HB_3 := Lib.hid (HB_2.out.trans (fb3.mono HB_2.out.size))
  have CS_3 := Lib.hid (CS_2.out.below fb3)
  have Rs_3 := Lib.hid (Rs_2.out.below fb3)
  have Z4 := Lib.hid (fb3.size)
  have Rl_3 := Lib.hid h3
  clear CS_2 Rs_2 HB_2 fb3 h3
  have kS0 := CS_3.out.c0
  have kS1 := CS_3.out.c1
  have kS2 := CS_3.out.c2
  go_wp2_with fail
  clear kS0 kS1 kS2
  refine (CS.out _ _ Rs_3.out.lies).mono ?_
  rintro e W4 ⟨vm, rfl, h4, fb4⟩
  have HB_4 := Lib.hid (HB_3.out.trans (fb4.mono HB_3.out.size))
  have CS_4 := Lib.hid (CS_3.out.below fb4)
  have Rs_4 := Lib.hid (Rs_3.out.below fb4)
  have Rl_4 := Lib.hid (Rl_3.out.below fb4)
  have Z5 := Lib.hid (fb4.size)
  have Rm_4 := Lib.hid h4
  clear CS_3 Rs_3 Rl_3 HB_3 fb4 h4
  have kS0 := CS_4.out.c0
  have kS1 := CS_4.out.c1
  have kS2 := CS_4.out.c2
  go_wp2_with fail
  clear kS0 kS1 kS2
  go_cut [50] (fun s wx => s = .bool false ∧ Hid (Below W4.heap.size W4 wx))
  case first =>
    have fb := below_drew' W4
    obtain ⟨Wd, hWd⟩ : ∃ W, W = W4.drew := ⟨_, rfl⟩
    rw [← hWd] at fb
    go_region_held3 (fun w' => w'.cell? ⟨W1.heap.size, 0, none⟩ = some (.int .i64 b0) ∧ w'.cell? ⟨W1.heap.size, 1, none⟩ = some (.slice ans rows0.length cns) ∧ w'.cell? ⟨W1.heap.size, 2, none⟩ = some (.slice aos out0.length cos))
      (first | (rw [← hWd]; exact ⟨(CS_4.out.below fb).c0, (CS_4.out.below fb).c1, (CS_4.out.below fb).c2⟩) | exact ⟨(CS_4.out.below fb).c0, (CS_4.out.below fb).c1, (CS_4.out.below fb).c2⟩)
      (first | (go_at_call 8; (try rw [← hWd]); refine (sameQS _ _ kl _ (Rl_4.out.below fb).lies (Rm_4.out.below fb).lies).mono ?_; rintro e Wn ⟨rfl, fbn⟩; replace fb := fb.trans (fbn.mono fb.size)) | (go_at_call 9; (try rw [← hWd]); refine (CZI.out _ _ (Rs_4.out.below fb).lies).mono ?_; rintro e Wn ⟨rfl, fbn⟩; replace fb := fb.trans (fbn.mono fb.size)) | (go_at_call 10; (try rw [← hWd]); refine (CZS.out _ _ (Rs_4.out.below fb).lies).mono ?_; rintro e Wn ⟨rfl, fbn⟩; replace fb := fb.trans (fbn.mono fb.size)))
    all_goals
      go_wp2_with fail
      go_meet
      exact ⟨rfl, fb⟩
  case rest =>
    obtain ⟨rfl, bw5⟩ := hcut
    obtain ⟨W5, rfl⟩ : ∃ W, W = wc := ⟨_, rfl⟩
    have bw := bw5.out
    have HB_5 := Lib.hid (HB_4.out.trans (bw.mono HB_4.out.size))
    have CS_5 := Lib.hid (CS_4.out.below bw)
    have Rs_5 := Lib.hid (Rs_4.out.below bw)
    have Rl_5 := Lib.hid (Rl_4.out.below bw)
    have Rm_5 := Lib.hid (Rm_4.out.below bw)
    have Z6 := Lib.hid (bw.size)
    clear CS_4 Rs_4 Rl_4 Rm_4 HB_4 bw5 bw
    clear Rl_5 Rm_5
    have kS0 := CS_5.out.c0
    have kS1 := CS_5.out.c1
    have kS2 := CS_5.out.c2
    go_wp2_with fail
    clear kS0 kS1 kS2
    refine (CFI.out _ _ Rs_5.out.lies).mono ?_
    rintro e W6 ⟨vx, rfl, h6, fb6⟩
    have HB_6 := Lib.hid (HB_5.out.trans (fb6.mono HB_5.out.size))
    have CS_6 := Lib.hid (CS_5.out.below fb6)
    have Rs_6 := Lib.hid (Rs_5.out.below fb6)
    have Z7 := Lib.hid (fb6.size)
    have Rx_6 := Lib.hid h6
    clear CS_5 Rs_5 HB_5 fb6 h6
    obtain ⟨anx, cnx, aox, cox, rfl⟩ := Rx_6.out.form
    have kS0 := (CS_6.out.alloc (Obj.cells #[.int .i64 zb, .slice anx zr.length cnx, .slice aox zo.length cox] 27)).c0
    have kS1 := (CS_6.out.alloc (Obj.cells #[.int .i64 zb, .slice anx zr.length cnx, .slice aox zo.length cox] 27)).c1
    have kS2 := (CS_6.out.alloc (Obj.cells #[.int .i64 zb, .slice anx zr.length cnx, .slice aox zo.length cox] 27)).c2
    go_wp2_with fail
    clear kS0 kS1 kS2
    have bx7 : Below W6.heap.size W6 (W6.alloc (Obj.cells #[.int .i64 zb, .slice anx zr.length cnx, .slice aox zo.length cox] 27)) := (Below.refl _ _).alloc (Nat.le_refl _) _
    have cx7 := Cells3.new W6 27 (.int .i64 zb) (.slice anx zr.length cnx) (.slice aox zo.length cox)
    have hz7 : (W6.alloc (Obj.cells #[.int .i64 zb, .slice anx zr.length cnx, .slice aox zo.length cox] 27)).heap.size = W6.heap.size + 1 := size_alloc' _ _
    obtain ⟨W7, hW7⟩ : ∃ W, W = (W6.alloc (Obj.cells #[.int .i64 zb, .slice anx zr.length cnx, .slice aox zo.length cox] 27)) := ⟨_, rfl⟩
    rw [← hW7] at bx7 cx7 hz7 ⊢
    have HB_7 := Lib.hid (HB_6.out.trans (bx7.mono HB_6.out.size))
    have CS_7 := Lib.hid (CS_6.out.below bx7)
    have Rs_7 := Lib.hid (Rs_6.out.below bx7)
    have Rx_7 := Lib.hid (Rx_6.out.below bx7)
    have Z8 := Lib.hid (bx7.size)
    have CX_7 := Lib.hid cx7
    have Z9 := Lib.hid hz7
    clear CS_6 Rs_6 Rx_6 HB_6 bx7 hW7 cx7
    clear hz7
    refine (CFS.out _ _ Rs_7.out.lies).mono ?_
    rintro e W8 ⟨vy, rfl, h8, fb8⟩
    have HB_8 := Lib.hid (HB_7.out.trans (fb8.mono HB_7.out.size))
    have CS_8 := Lib.hid (CS_7.out.below fb8)
    have CX_8 := Lib.hid (CX_7.out.below fb8)
    have Rs_8 := Lib.hid (Rs_7.out.below fb8)
    have Rx_8 := Lib.hid (Rx_7.out.below fb8)
    have Z10 := Lib.hid (fb8.size)
    have Ry_8 := Lib.hid h8
    clear CS_7 CX_7 Rs_7 Rx_7 HB_7 fb8 h8
    obtain ⟨any, cny, aoy, coy, rfl⟩ := Ry_8.out.form
    have kS0 := (CS_8.out.alloc (Obj.cells #[.int .i64 zb, .slice any zr.length cny, .slice aoy zo.length coy] 27)).c0
    have kS1 := (CS_8.out.alloc (Obj.cells #[.int .i64 zb, .slice any zr.length cny, .slice aoy zo.length coy] 27)).c1
    have kS2 := (CS_8.out.alloc (Obj.cells #[.int .i64 zb, .slice any zr.length cny, .slice aoy zo.length coy] 27)).c2
    have kX0 := (CX_8.out.alloc (Obj.cells #[.int .i64 zb, .slice any zr.length cny, .slice aoy zo.length coy] 27)).c0
    have kX1 := (CX_8.out.alloc (Obj.cells #[.int .i64 zb, .slice any zr.length cny, .slice aoy zo.length coy] 27)).c1
    have kX2 := (CX_8.out.alloc (Obj.cells #[.int .i64 zb, .slice any zr.length cny, .slice aoy zo.length coy] 27)).c2
    go_wp2_with fail
    clear kS0 kS1 kS2 kX0 kX1 kX2
    have bx9 : Below W8.heap.size W8 (W8.alloc (Obj.cells #[.int .i64 zb, .slice any zr.length cny, .slice aoy zo.length coy] 27)) := (Below.refl _ _).alloc (Nat.le_refl _) _
    have cx9 := Cells3.new W8 27 (.int .i64 zb) (.slice any zr.length cny) (.slice aoy zo.length coy)
    have hz9 : (W8.alloc (Obj.cells #[.int .i64 zb, .slice any zr.length cny, .slice aoy zo.length coy] 27)).heap.size = W8.heap.size + 1 := size_alloc' _ _
    obtain ⟨W9, hW9⟩ : ∃ W, W = (W8.alloc (Obj.cells #[.int .i64 zb, .slice any zr.length cny, .slice aoy zo.length coy] 27)) := ⟨_, rfl⟩
    rw [← hW9] at bx9 cx9 hz9 ⊢
    have HB_9 := Lib.hid (HB_8.out.trans (bx9.mono HB_8.out.size))
    have CS_9 := Lib.hid (CS_8.out.below bx9)
    have CX_9 := Lib.hid (CX_8.out.below bx9)
    have Rs_9 := Lib.hid (Rs_8.out.below bx9)
    have Rx_9 := Lib.hid (Rx_8.out.below bx9)
    have Ry_9 := Lib.hid (Ry_8.out.below bx9)
    have Z11 := Lib.hid (bx9.size)
    have CY_9 := Lib.hid cx9
    have Z12 := Lib.hid hz9
    clear CS_8 CX_8 Rs_8 Rx_8 Ry_8 HB_8 bx9 hW9 cx9
    clear hz9
    refine (Cursor.at_byte _ a len cap 3 (by decide) hlen (Cursor.code_next HC.out HB_9.out)).mono ?_
    rintro e W' ⟨⟨n3, ⟨hn30, hn31⟩, rfl⟩, rfl⟩
    have kS0 := CS_9.out.c0
    have kS1 := CS_9.out.c1
    have kS2 := CS_9.out.c2
    have kX0 := CX_9.out.c0
    have kX1 := CX_9.out.c1
    have kX2 := CX_9.out.c2
    have kY0 := CY_9.out.c0
    have kY1 := CY_9.out.c1
    have kY2 := CY_9.out.c2
    go_wp2_with fail
    clear kS0 kS1 kS2 kX0 kX1 kX2 kY0 kY1 kY2
    refine (Cursor.at_byte _ a len cap 4 (by decide) hlen (Cursor.code_next HC.out HB_9.out)).mono ?_
    rintro e W' ⟨⟨n4, ⟨hn40, hn41⟩, rfl⟩, rfl⟩
    have kS0 := CS_9.out.c0
    have kS1 := CS_9.out.c1
    have kS2 := CS_9.out.c2
    have kX0 := CX_9.out.c0
    have kX1 := CX_9.out.c1
    have kX2 := CX_9.out.c2
    have kY0 := CY_9.out.c0
    have kY1 := CY_9.out.c1
    have kY2 := CY_9.out.c2
    go_wp2_with fail
    clear kS0 kS1 kS2 kX0 kX1 kX2 kY0 kY1 kY2
    generalize hn : n3 + 10 * n4 = n
    have HN := Lib.hid (show 0 ≤ n ∧ n ≤ 65535 by omega)
    clear hn
    go_cut [87] (fun s wx => s = .bool false ∧ Hid (Below W9.heap.size W9 wx))
    case first =>
      cases zk with
      | false =>
        have fb := below_drew' W9
        refine wp_region_held_drew (S := (fun w' => w'.cell? ⟨W1.heap.size, 0, none⟩ = some (.int .i64 b0) ∧ w'.cell? ⟨W1.heap.size, 1, none⟩ = some (.slice ans rows0.length cns) ∧ w'.cell? ⟨W1.heap.size, 2, none⟩ = some (.slice aos out0.length cos) ∧ w'.cell? ⟨W6.heap.size, 0, none⟩ = some (.int .i64 zb) ∧ w'.cell? ⟨W6.heap.size, 1, none⟩ = some (.slice anx zr.length cnx) ∧ w'.cell? ⟨W6.heap.size, 2, none⟩ = some (.slice aox zo.length cox) ∧ w'.cell? ⟨W8.heap.size, 0, none⟩ = some (.int .i64 zb) ∧ w'.cell? ⟨W8.heap.size, 1, none⟩ = some (.slice any zr.length cny) ∧ w'.cell? ⟨W8.heap.size, 2, none⟩ = some (.slice aoy zo.length coy))) (by kernel_rfl) ?_ (fun hHeld => ?_)
        · exact ⟨(CS_9.out.below fb).c0, (CS_9.out.below fb).c1, (CS_9.out.below fb).c2, (CX_9.out.below fb).c0, (CX_9.out.below fb).c1, (CX_9.out.below fb).c2, (CY_9.out.below fb).c0, (CY_9.out.below fb).c1, (CY_9.out.below fb).c2⟩
        refine wpAnyH_take (i := 0) (oi := { dst := some 67, op := Op.move (Operand.tmp 9), type := 4, pos := "laws.go:300", after := #[], guard := none }) (v := ?_) rfl (by kernel_rfl) (by kernel_rfl) (by kernel_rfl) (fun _ _ _ h => h) (Or.inl ⟨by rfl, ?_⟩) (by assumption) ?_
        rotate_left
        focus (intro w hSw; (try dsimp only at hSw); first | (go_simp; done) | (go_simp; with_reducible rfl))
        try simp only [Act.put, List.setIfInBounds_toArray, List.set_cons_zero, List.set_cons_succ]
        refine wpAnyH_take (i := 1) (oi := { dst := some 68, op := Op.move (Operand.tmp 11), type := 4, pos := "laws.go:300", after := #[], guard := none }) (v := ?_) rfl (by kernel_rfl) (by kernel_rfl) (by kernel_rfl) (fun _ _ _ h => h) (Or.inl ⟨by rfl, ?_⟩) (by assumption) ?_
        rotate_left
        focus (intro w hSw; (try dsimp only at hSw); first | (go_simp; done) | (go_simp; with_reducible rfl))
        try simp only [Act.put, List.setIfInBounds_toArray, List.set_cons_zero, List.set_cons_succ]
        refine wpAnyH_take (i := 2) (oi := { dst := some 69, op := Op.binOp BinOp.neq 4 (Operand.tmp 67) (Operand.tmp 68) 4, type := 4, pos := "laws.go:300", after := #[{ on := 0, ground := Ground.data }, { on := 1, ground := Ground.data }], guard := none }) (v := ?_) rfl (by kernel_rfl) (by kernel_rfl) (by kernel_rfl) (fun _ _ _ h => h) (Or.inl ⟨by rfl, ?_⟩) (by assumption) ?_
        rotate_left
        focus (intro w hSw; (try dsimp only at hSw); first | (go_simp; done) | (go_simp; with_reducible rfl))
        try simp only [Act.put, List.setIfInBounds_toArray, List.set_cons_zero, List.set_cons_succ]
        refine wpAnyH_take (i := 3) (oi := { dst := some 70, op := Op.move (Operand.tmp 69), type := 4, pos := "laws.go:300", after := #[{ on := 2, ground := Ground.data }], guard := none }) (v := ?_) rfl (by kernel_rfl) (by kernel_rfl) (by kernel_rfl) (fun _ _ _ h => h) (Or.inl ⟨by rfl, ?_⟩) (by assumption) ?_
        rotate_left
        focus (intro w hSw; (try dsimp only at hSw); first | (go_simp; done) | (go_simp; with_reducible rfl))
        try simp only [Act.put, List.setIfInBounds_toArray, List.set_cons_zero, List.set_cons_succ]
        refine wpAnyH_take (i := 4) (oi := { dst := some 71, op := Op.load 27 (Operand.tmp 8), type := 27, pos := "laws.go:300", after := #[{ on := 3, ground := Ground.guard }], guard := some (3, false) }) (v := ?_) rfl (by kernel_rfl) (by kernel_rfl) (by kernel_rfl) (fun _ _ _ h => h) (Or.inl ⟨by rfl, ?_⟩) (by assumption) ?_
        rotate_left
        focus (intro w hSw; (try dsimp only at hSw); first | (go_simp; done) | (go_simp; with_reducible rfl))
        try simp only [Act.put, List.setIfInBounds_toArray, List.set_cons_zero, List.set_cons_succ]
        refine wpAnyH_take (i := 5) (oi := { dst := some 72, op := Op.load 27 (Operand.tmp 10), type := 27, pos := "laws.go:300", after := #[{ on := 3, ground := Ground.guard }], guard := some (3, false) }) (v := ?_) rfl (by kernel_rfl) (by kernel_rfl) (by kernel_rfl) (fun _ _ _ h => h) (Or.inl ⟨by rfl, ?_⟩) (by assumption) ?_
        rotate_left
        focus (intro w hSw; (try dsimp only at hSw); first | (go_simp; done) | (go_simp; with_reducible rfl))
        try simp only [Act.put, List.setIfInBounds_toArray, List.set_cons_zero, List.set_cons_succ]
        refine wpAnyH_ready (rs := [6]) (by kernel_rfl) (by simp) ?_
        refine AllReadyH.cons (o := { dst := some 73, op := Op.call { callee := Callee.value (Operand.func 14), args := #[Operand.tmp 71, Operand.tmp 72], argTypes := #[27, 27] }, type := 4, pos := "laws.go:300", after := #[{ on := 4, ground := Ground.data }, { on := 5, ground := Ground.data }, { on := 3, ground := Ground.chain }, { on := 3, ground := Ground.guard }], guard := some (3, false) }) rfl (fun K hK => ?_) AllReadyH.nil
        go_simp
        go_at_call 14
        refine (equal_own _ _ zb zr zo _ (Rx_9.out.below fb).lies (Ry_9.out.below fb).lies).mono ?_
        rintro e Wn ⟨rfl, fbn⟩
        replace fb := fb.trans (fbn.mono fb.size)
        refine hK.out _ _ ?_ (fun hHeld => ?_)
        · exact ⟨(CS_9.out.below fb).c0, (CS_9.out.below fb).c1, (CS_9.out.below fb).c2, (CX_9.out.below fb).c0, (CX_9.out.below fb).c1, (CX_9.out.below fb).c2, (CY_9.out.below fb).c0, (CY_9.out.below fb).c1, (CY_9.out.below fb).c2⟩
        clear hK K
        try simp only [Act.put, List.setIfInBounds_toArray, List.set_cons_zero, List.set_cons_succ]
        refine wpAnyH_take (i := 7) (oi := { dst := some 74, op := Op.unOp UnOp.not 4 (Operand.tmp 73), type := 4, pos := "laws.go:300", after := #[{ on := 6, ground := Ground.data }, { on := 3, ground := Ground.guard }], guard := some (3, false) }) (v := ?_) rfl (by kernel_rfl) (by kernel_rfl) (by kernel_rfl) (fun _ _ _ h => h) (Or.inl ⟨by rfl, ?_⟩) (by assumption) ?_
        rotate_left
        focus (intro w hSw; (try dsimp only at hSw); first | (go_simp; done) | (go_simp; with_reducible rfl))
        try simp only [Act.put, List.setIfInBounds_toArray, List.set_cons_zero, List.set_cons_succ]
        refine wpAnyH_take (i := 8) (oi := { dst := some 75, op := Op.pick (Operand.tmp 70) (Operand.const (Value.bool true)) (Operand.tmp 74), type := 4, pos := "laws.go:300", after := #[{ on := 3, ground := Ground.data }, { on := 7, ground := Ground.data }], guard := none }) (v := ?_) rfl (by kernel_rfl) (by kernel_rfl) (by kernel_rfl) (fun _ _ _ h => h) (Or.inl ⟨by rfl, ?_⟩) (by assumption) ?_
        rotate_left
        focus (intro w hSw; (try dsimp only at hSw); first | (go_simp; done) | (go_simp; with_reducible rfl))
        try simp only [Act.put, List.setIfInBounds_toArray, List.set_cons_zero, List.set_cons_succ]
        refine wpAnyH_take (i := 9) (oi := { dst := some 76, op := Op.move (Operand.tmp 75), type := 4, pos := "laws.go:300", after := #[{ on := 8, ground := Ground.data }, { on := 6, ground := Ground.chain }], guard := none }) (v := ?_) rfl (by kernel_rfl) (by kernel_rfl) (by kernel_rfl) (fun _ _ _ h => h) (Or.inl ⟨by rfl, ?_⟩) (by assumption) ?_
        rotate_left
        focus (intro w hSw; (try dsimp only at hSw); first | (go_simp; done) | (go_simp; with_reducible rfl))
        try simp only [Act.put, List.setIfInBounds_toArray, List.set_cons_zero, List.set_cons_succ]
        refine wpAnyH_take (i := 10) (oi := { dst := some 77, op := Op.move (Operand.tmp 9), type := 4, pos := "laws.go:300", after := #[{ on := 9, ground := Ground.guard }], guard := some (9, false) }) (v := ?_) rfl (by kernel_rfl) (by kernel_rfl) (by kernel_rfl) (fun _ _ _ h => h) (Or.inl ⟨by rfl, ?_⟩) (by assumption) ?_
        rotate_left
        focus (intro w hSw; (try dsimp only at hSw); first | (go_simp; done) | (go_simp; with_reducible rfl))
        try simp only [Act.put, List.setIfInBounds_toArray, List.set_cons_zero, List.set_cons_succ]
        refine wpAnyH_take (i := 11) (oi := { dst := some 78, op := Op.move (Operand.tmp 77), type := 4, pos := "laws.go:300", after := #[{ on := 10, ground := Ground.data }, { on := 9, ground := Ground.chain }, { on := 9, ground := Ground.guard }], guard := some (9, false) }) (v := ?_) rfl (by kernel_rfl) (by kernel_rfl) (by kernel_rfl) (fun _ _ _ h => h) (Or.inl ⟨by rfl, ?_⟩) (by assumption) ?_
        rotate_left
        focus (intro w hSw; (try dsimp only at hSw); first | (go_simp; done) | (go_simp; with_reducible rfl))
        try simp only [Act.put, List.setIfInBounds_toArray, List.set_cons_zero, List.set_cons_succ]
        refine wpAnyH_take (i := 12) (oi := { dst := some 79, op := Op.load 27 (Operand.tmp 10), type := 27, pos := "laws.go:300", after := #[{ on := 11, ground := Ground.guard }], guard := some (11, true) }) (v := undef) rfl (by kernel_rfl) (by kernel_rfl) (by kernel_rfl) (fun _ _ _ h => h) (Or.inr ⟨by rfl, rfl⟩) (by assumption) ?_
        try simp only [Act.put, List.setIfInBounds_toArray, List.set_cons_zero, List.set_cons_succ]
        refine wpAnyH_take (i := 13) (oi := { dst := some 80, op := Op.move (Operand.tmp 12), type := 3, pos := "laws.go:300", after := #[{ on := 11, ground := Ground.guard }], guard := some (11, true) }) (v := undef) rfl (by kernel_rfl) (by kernel_rfl) (by kernel_rfl) (fun _ _ _ h => h) (Or.inr ⟨by rfl, rfl⟩) (by assumption) ?_
        try simp only [Act.put, List.setIfInBounds_toArray, List.set_cons_zero, List.set_cons_succ]
        refine wpAnyH_take (i := 14) (oi := { dst := some 81, op := Op.call { callee := Callee.value (Operand.func 15), args := #[Operand.tmp 79, Operand.tmp 80], argTypes := #[27, 3] }, type := 3, pos := "laws.go:300", after := #[{ on := 12, ground := Ground.data }, { on := 13, ground := Ground.data }, { on := 11, ground := Ground.chain }, { on := 11, ground := Ground.guard }], guard := some (11, true) }) (v := undef) rfl (by kernel_rfl) (by kernel_rfl) (by kernel_rfl) (fun _ _ _ h => h) (Or.inr ⟨by rfl, rfl⟩) (by assumption) ?_
        try simp only [Act.put, List.setIfInBounds_toArray, List.set_cons_zero, List.set_cons_succ]
        refine wpAnyH_take (i := 15) (oi := { dst := some 82, op := Op.load 27 (Operand.tmp 3), type := 27, pos := "laws.go:300", after := #[{ on := 11, ground := Ground.guard }], guard := some (11, true) }) (v := undef) rfl (by kernel_rfl) (by kernel_rfl) (by kernel_rfl) (fun _ _ _ h => h) (Or.inr ⟨by rfl, rfl⟩) (by assumption) ?_
        try simp only [Act.put, List.setIfInBounds_toArray, List.set_cons_zero, List.set_cons_succ]
        refine wpAnyH_take (i := 16) (oi := { dst := some 83, op := Op.move (Operand.tmp 12), type := 3, pos := "laws.go:300", after := #[{ on := 11, ground := Ground.guard }], guard := some (11, true) }) (v := undef) rfl (by kernel_rfl) (by kernel_rfl) (by kernel_rfl) (fun _ _ _ h => h) (Or.inr ⟨by rfl, rfl⟩) (by assumption) ?_
        try simp only [Act.put, List.setIfInBounds_toArray, List.set_cons_zero, List.set_cons_succ]
        refine wpAnyH_take (i := 17) (oi := { dst := some 84, op := Op.call { callee := Callee.value (Operand.func 16), args := #[Operand.tmp 82, Operand.tmp 83], argTypes := #[27, 3] }, type := 3, pos := "laws.go:300", after := #[{ on := 15, ground := Ground.data }, { on := 16, ground := Ground.data }, { on := 14, ground := Ground.chain }, { on := 11, ground := Ground.guard }], guard := some (11, true) }) (v := undef) rfl (by kernel_rfl) (by kernel_rfl) (by kernel_rfl) (fun _ _ _ h => h) (Or.inr ⟨by rfl, rfl⟩) (by assumption) ?_
        try simp only [Act.put, List.setIfInBounds_toArray, List.set_cons_zero, List.set_cons_succ]
        refine wpAnyH_take (i := 18) (oi := { dst := some 85, op := Op.binOp BinOp.neq 3 (Operand.tmp 81) (Operand.tmp 84) 3, type := 4, pos := "laws.go:300", after := #[{ on := 14, ground := Ground.data }, { on := 17, ground := Ground.data }, { on := 11, ground := Ground.guard }], guard := some (11, true) }) (v := undef) rfl (by kernel_rfl) (by kernel_rfl) (by kernel_rfl) (fun _ _ _ h => h) (Or.inr ⟨by rfl, rfl⟩) (by assumption) ?_
        try simp only [Act.put, List.setIfInBounds_toArray, List.set_cons_zero, List.set_cons_succ]
        refine wpAnyH_take (i := 19) (oi := { dst := some 86, op := Op.pick (Operand.tmp 78) (Operand.tmp 85) (Operand.const (Value.bool false)), type := 4, pos := "laws.go:300", after := #[{ on := 11, ground := Ground.data }, { on := 18, ground := Ground.data }, { on := 9, ground := Ground.guard }], guard := some (9, false) }) (v := ?_) rfl (by kernel_rfl) (by kernel_rfl) (by kernel_rfl) (fun _ _ _ h => h) (Or.inl ⟨by rfl, ?_⟩) (by assumption) ?_
        rotate_left
        focus (intro w hSw; (try dsimp only at hSw); first | (go_simp; done) | (go_simp; with_reducible rfl))
        try simp only [Act.put, List.setIfInBounds_toArray, List.set_cons_zero, List.set_cons_succ]
        refine wpAnyH_take (i := 20) (oi := { dst := some 87, op := Op.pick (Operand.tmp 76) (Operand.const (Value.bool true)) (Operand.tmp 86), type := 4, pos := "laws.go:300", after := #[{ on := 9, ground := Ground.data }, { on := 19, ground := Ground.data }], guard := none }) (v := ?_) rfl (by kernel_rfl) (by kernel_rfl) (by kernel_rfl) (fun _ _ _ h => h) (Or.inl ⟨by rfl, ?_⟩) (by assumption) ?_
        rotate_left
        focus (intro w hSw; (try dsimp only at hSw); first | (go_simp; done) | (go_simp; with_reducible rfl))
        try simp only [Act.put, List.setIfInBounds_toArray, List.set_cons_zero, List.set_cons_succ]
        refine wpAnyH_done (by kernel_rfl) ?_ _
        go_wp2_with fail
        go_meet
        exact ⟨rfl, fb⟩
      | true =>
        have hfl := HFL.out rfl n HN.out.1 HN.out.2
        have CTL := Lib.hid (fun (W : World) (u : Value) (l : LiesS W u zb zr zo) => impl_least u zb zr zo W l n)
        have CTA := Lib.hid (fun (W : World) (u : Value) (l : LiesS W u b0 rows0 out0) => spec_termat u b0 rows0 out0 W l n)
        rw [hfl] at CTL
        obtain ⟨tv, htv⟩ : ∃ t, t = termV b0 rows0 out0 n := ⟨_, rfl⟩
        rw [← htv] at CTL CTA
        clear hfl htv
        have htt : (tv != tv) = false := by simp
        have fb := below_drew' W9
        refine wp_region_held_drew (S := (fun w' => w'.cell? ⟨W1.heap.size, 0, none⟩ = some (.int .i64 b0) ∧ w'.cell? ⟨W1.heap.size, 1, none⟩ = some (.slice ans rows0.length cns) ∧ w'.cell? ⟨W1.heap.size, 2, none⟩ = some (.slice aos out0.length cos) ∧ w'.cell? ⟨W6.heap.size, 0, none⟩ = some (.int .i64 zb) ∧ w'.cell? ⟨W6.heap.size, 1, none⟩ = some (.slice anx zr.length cnx) ∧ w'.cell? ⟨W6.heap.size, 2, none⟩ = some (.slice aox zo.length cox) ∧ w'.cell? ⟨W8.heap.size, 0, none⟩ = some (.int .i64 zb) ∧ w'.cell? ⟨W8.heap.size, 1, none⟩ = some (.slice any zr.length cny) ∧ w'.cell? ⟨W8.heap.size, 2, none⟩ = some (.slice aoy zo.length coy))) (by kernel_rfl) ?_ (fun hHeld => ?_)
        · exact ⟨(CS_9.out.below fb).c0, (CS_9.out.below fb).c1, (CS_9.out.below fb).c2, (CX_9.out.below fb).c0, (CX_9.out.below fb).c1, (CX_9.out.below fb).c2, (CY_9.out.below fb).c0, (CY_9.out.below fb).c1, (CY_9.out.below fb).c2⟩
        refine wpAnyH_take (i := 0) (oi := { dst := some 67, op := Op.move (Operand.tmp 9), type := 4, pos := "laws.go:300", after := #[], guard := none }) (v := ?_) rfl (by kernel_rfl) (by kernel_rfl) (by kernel_rfl) (fun _ _ _ h => h) (Or.inl ⟨by rfl, ?_⟩) (by assumption) ?_
        rotate_left
        focus (intro w hSw; (try dsimp only at hSw); first | (go_simp; done) | (go_simp; with_reducible rfl))
        try simp only [Act.put, List.setIfInBounds_toArray, List.set_cons_zero, List.set_cons_succ]
        refine wpAnyH_take (i := 1) (oi := { dst := some 68, op := Op.move (Operand.tmp 11), type := 4, pos := "laws.go:300", after := #[], guard := none }) (v := ?_) rfl (by kernel_rfl) (by kernel_rfl) (by kernel_rfl) (fun _ _ _ h => h) (Or.inl ⟨by rfl, ?_⟩) (by assumption) ?_
        rotate_left
        focus (intro w hSw; (try dsimp only at hSw); first | (go_simp; done) | (go_simp; with_reducible rfl))
        try simp only [Act.put, List.setIfInBounds_toArray, List.set_cons_zero, List.set_cons_succ]
        refine wpAnyH_take (i := 2) (oi := { dst := some 69, op := Op.binOp BinOp.neq 4 (Operand.tmp 67) (Operand.tmp 68) 4, type := 4, pos := "laws.go:300", after := #[{ on := 0, ground := Ground.data }, { on := 1, ground := Ground.data }], guard := none }) (v := ?_) rfl (by kernel_rfl) (by kernel_rfl) (by kernel_rfl) (fun _ _ _ h => h) (Or.inl ⟨by rfl, ?_⟩) (by assumption) ?_
        rotate_left
        focus (intro w hSw; (try dsimp only at hSw); first | (go_simp; done) | (go_simp; with_reducible rfl))
        try simp only [Act.put, List.setIfInBounds_toArray, List.set_cons_zero, List.set_cons_succ]
        refine wpAnyH_take (i := 3) (oi := { dst := some 70, op := Op.move (Operand.tmp 69), type := 4, pos := "laws.go:300", after := #[{ on := 2, ground := Ground.data }], guard := none }) (v := ?_) rfl (by kernel_rfl) (by kernel_rfl) (by kernel_rfl) (fun _ _ _ h => h) (Or.inl ⟨by rfl, ?_⟩) (by assumption) ?_
        rotate_left
        focus (intro w hSw; (try dsimp only at hSw); first | (go_simp; done) | (go_simp; with_reducible rfl))
        try simp only [Act.put, List.setIfInBounds_toArray, List.set_cons_zero, List.set_cons_succ]
        refine wpAnyH_take (i := 4) (oi := { dst := some 71, op := Op.load 27 (Operand.tmp 8), type := 27, pos := "laws.go:300", after := #[{ on := 3, ground := Ground.guard }], guard := some (3, false) }) (v := ?_) rfl (by kernel_rfl) (by kernel_rfl) (by kernel_rfl) (fun _ _ _ h => h) (Or.inl ⟨by rfl, ?_⟩) (by assumption) ?_
        rotate_left
        focus (intro w hSw; (try dsimp only at hSw); first | (go_simp; done) | (go_simp; with_reducible rfl))
        try simp only [Act.put, List.setIfInBounds_toArray, List.set_cons_zero, List.set_cons_succ]
        refine wpAnyH_take (i := 5) (oi := { dst := some 72, op := Op.load 27 (Operand.tmp 10), type := 27, pos := "laws.go:300", after := #[{ on := 3, ground := Ground.guard }], guard := some (3, false) }) (v := ?_) rfl (by kernel_rfl) (by kernel_rfl) (by kernel_rfl) (fun _ _ _ h => h) (Or.inl ⟨by rfl, ?_⟩) (by assumption) ?_
        rotate_left
        focus (intro w hSw; (try dsimp only at hSw); first | (go_simp; done) | (go_simp; with_reducible rfl))
        try simp only [Act.put, List.setIfInBounds_toArray, List.set_cons_zero, List.set_cons_succ]
        refine wpAnyH_ready (rs := [6]) (by kernel_rfl) (by simp) ?_
        refine AllReadyH.cons (o := { dst := some 73, op := Op.call { callee := Callee.value (Operand.func 14), args := #[Operand.tmp 71, Operand.tmp 72], argTypes := #[27, 27] }, type := 4, pos := "laws.go:300", after := #[{ on := 4, ground := Ground.data }, { on := 5, ground := Ground.data }, { on := 3, ground := Ground.chain }, { on := 3, ground := Ground.guard }], guard := some (3, false) }) rfl (fun K hK => ?_) AllReadyH.nil
        go_simp
        go_at_call 14
        refine (equal_own _ _ zb zr zo _ (Rx_9.out.below fb).lies (Ry_9.out.below fb).lies).mono ?_
        rintro e Wn ⟨rfl, fbn⟩
        replace fb := fb.trans (fbn.mono fb.size)
        refine hK.out _ _ ?_ (fun hHeld => ?_)
        · exact ⟨(CS_9.out.below fb).c0, (CS_9.out.below fb).c1, (CS_9.out.below fb).c2, (CX_9.out.below fb).c0, (CX_9.out.below fb).c1, (CX_9.out.below fb).c2, (CY_9.out.below fb).c0, (CY_9.out.below fb).c1, (CY_9.out.below fb).c2⟩
        clear hK K
        try simp only [Act.put, List.setIfInBounds_toArray, List.set_cons_zero, List.set_cons_succ]
        refine wpAnyH_take (i := 7) (oi := { dst := some 74, op := Op.unOp UnOp.not 4 (Operand.tmp 73), type := 4, pos := "laws.go:300", after := #[{ on := 6, ground := Ground.data }, { on := 3, ground := Ground.guard }], guard := some (3, false) }) (v := ?_) rfl (by kernel_rfl) (by kernel_rfl) (by kernel_rfl) (fun _ _ _ h => h) (Or.inl ⟨by rfl, ?_⟩) (by assumption) ?_
        rotate_left
        focus (intro w hSw; (try dsimp only at hSw); first | (go_simp; done) | (go_simp; with_reducible rfl))
        try simp only [Act.put, List.setIfInBounds_toArray, List.set_cons_zero, List.set_cons_succ]
        refine wpAnyH_take (i := 8) (oi := { dst := some 75, op := Op.pick (Operand.tmp 70) (Operand.const (Value.bool true)) (Operand.tmp 74), type := 4, pos := "laws.go:300", after := #[{ on := 3, ground := Ground.data }, { on := 7, ground := Ground.data }], guard := none }) (v := ?_) rfl (by kernel_rfl) (by kernel_rfl) (by kernel_rfl) (fun _ _ _ h => h) (Or.inl ⟨by rfl, ?_⟩) (by assumption) ?_
        rotate_left
        focus (intro w hSw; (try dsimp only at hSw); first | (go_simp; done) | (go_simp; with_reducible rfl))
        try simp only [Act.put, List.setIfInBounds_toArray, List.set_cons_zero, List.set_cons_succ]
        refine wpAnyH_take (i := 9) (oi := { dst := some 76, op := Op.move (Operand.tmp 75), type := 4, pos := "laws.go:300", after := #[{ on := 8, ground := Ground.data }, { on := 6, ground := Ground.chain }], guard := none }) (v := ?_) rfl (by kernel_rfl) (by kernel_rfl) (by kernel_rfl) (fun _ _ _ h => h) (Or.inl ⟨by rfl, ?_⟩) (by assumption) ?_
        rotate_left
        focus (intro w hSw; (try dsimp only at hSw); first | (go_simp; done) | (go_simp; with_reducible rfl))
        try simp only [Act.put, List.setIfInBounds_toArray, List.set_cons_zero, List.set_cons_succ]
        refine wpAnyH_take (i := 10) (oi := { dst := some 77, op := Op.move (Operand.tmp 9), type := 4, pos := "laws.go:300", after := #[{ on := 9, ground := Ground.guard }], guard := some (9, false) }) (v := ?_) rfl (by kernel_rfl) (by kernel_rfl) (by kernel_rfl) (fun _ _ _ h => h) (Or.inl ⟨by rfl, ?_⟩) (by assumption) ?_
        rotate_left
        focus (intro w hSw; (try dsimp only at hSw); first | (go_simp; done) | (go_simp; with_reducible rfl))
        try simp only [Act.put, List.setIfInBounds_toArray, List.set_cons_zero, List.set_cons_succ]
        refine wpAnyH_take (i := 11) (oi := { dst := some 78, op := Op.move (Operand.tmp 77), type := 4, pos := "laws.go:300", after := #[{ on := 10, ground := Ground.data }, { on := 9, ground := Ground.chain }, { on := 9, ground := Ground.guard }], guard := some (9, false) }) (v := ?_) rfl (by kernel_rfl) (by kernel_rfl) (by kernel_rfl) (fun _ _ _ h => h) (Or.inl ⟨by rfl, ?_⟩) (by assumption) ?_
        rotate_left
        focus (intro w hSw; (try dsimp only at hSw); first | (go_simp; done) | (go_simp; with_reducible rfl))
        try simp only [Act.put, List.setIfInBounds_toArray, List.set_cons_zero, List.set_cons_succ]
        refine wpAnyH_take (i := 12) (oi := { dst := some 79, op := Op.load 27 (Operand.tmp 10), type := 27, pos := "laws.go:300", after := #[{ on := 11, ground := Ground.guard }], guard := some (11, true) }) (v := ?_) rfl (by kernel_rfl) (by kernel_rfl) (by kernel_rfl) (fun _ _ _ h => h) (Or.inl ⟨by rfl, ?_⟩) (by assumption) ?_
        rotate_left
        focus (intro w hSw; (try dsimp only at hSw); first | (go_simp; done) | (go_simp; with_reducible rfl))
        try simp only [Act.put, List.setIfInBounds_toArray, List.set_cons_zero, List.set_cons_succ]
        refine wpAnyH_take (i := 13) (oi := { dst := some 80, op := Op.move (Operand.tmp 12), type := 3, pos := "laws.go:300", after := #[{ on := 11, ground := Ground.guard }], guard := some (11, true) }) (v := ?_) rfl (by kernel_rfl) (by kernel_rfl) (by kernel_rfl) (fun _ _ _ h => h) (Or.inl ⟨by rfl, ?_⟩) (by assumption) ?_
        rotate_left
        focus (intro w hSw; (try dsimp only at hSw); first | (go_simp; done) | (go_simp; with_reducible rfl))
        try simp only [Act.put, List.setIfInBounds_toArray, List.set_cons_zero, List.set_cons_succ]
        refine wpAnyH_take (i := 15) (oi := { dst := some 82, op := Op.load 27 (Operand.tmp 3), type := 27, pos := "laws.go:300", after := #[{ on := 11, ground := Ground.guard }], guard := some (11, true) }) (v := ?_) rfl (by kernel_rfl) (by kernel_rfl) (by kernel_rfl) (fun _ _ _ h => h) (Or.inl ⟨by rfl, ?_⟩) (by assumption) ?_
        rotate_left
        focus (intro w hSw; (try dsimp only at hSw); first | (go_simp; done) | (go_simp; with_reducible rfl))
        try simp only [Act.put, List.setIfInBounds_toArray, List.set_cons_zero, List.set_cons_succ]
        refine wpAnyH_take (i := 16) (oi := { dst := some 83, op := Op.move (Operand.tmp 12), type := 3, pos := "laws.go:300", after := #[{ on := 11, ground := Ground.guard }], guard := some (11, true) }) (v := ?_) rfl (by kernel_rfl) (by kernel_rfl) (by kernel_rfl) (fun _ _ _ h => h) (Or.inl ⟨by rfl, ?_⟩) (by assumption) ?_
        rotate_left
        focus (intro w hSw; (try dsimp only at hSw); first | (go_simp; done) | (go_simp; with_reducible rfl))
        try simp only [Act.put, List.setIfInBounds_toArray, List.set_cons_zero, List.set_cons_succ]
        refine wpAnyH_ready (rs := [14]) (by kernel_rfl) (by simp) ?_
        refine AllReadyH.cons (o := { dst := some 81, op := Op.call { callee := Callee.value (Operand.func 15), args := #[Operand.tmp 79, Operand.tmp 80], argTypes := #[27, 3] }, type := 3, pos := "laws.go:300", after := #[{ on := 12, ground := Ground.data }, { on := 13, ground := Ground.data }, { on := 11, ground := Ground.chain }, { on := 11, ground := Ground.guard }], guard := some (11, true) }) rfl (fun K hK => ?_) AllReadyH.nil
        go_simp
        go_at_call 15
        refine (CTL.out _ _ (Ry_9.out.below fb).lies).mono ?_
        rintro e Wn ⟨rfl, fbn⟩
        replace fb := fb.trans (fbn.mono fb.size)
        refine hK.out _ _ ?_ (fun hHeld => ?_)
        · exact ⟨(CS_9.out.below fb).c0, (CS_9.out.below fb).c1, (CS_9.out.below fb).c2, (CX_9.out.below fb).c0, (CX_9.out.below fb).c1, (CX_9.out.below fb).c2, (CY_9.out.below fb).c0, (CY_9.out.below fb).c1, (CY_9.out.below fb).c2⟩
        clear hK K
        try simp only [Act.put, List.setIfInBounds_toArray, List.set_cons_zero, List.set_cons_succ]
        refine wpAnyH_ready (rs := [17]) (by kernel_rfl) (by simp) ?_
        refine AllReadyH.cons (o := { dst := some 84, op := Op.call { callee := Callee.value (Operand.func 16), args := #[Operand.tmp 82, Operand.tmp 83], argTypes := #[27, 3] }, type := 3, pos := "laws.go:300", after := #[{ on := 15, ground := Ground.data }, { on := 16, ground := Ground.data }, { on := 14, ground := Ground.chain }, { on := 11, ground := Ground.guard }], guard := some (11, true) }) rfl (fun K hK => ?_) AllReadyH.nil
        go_simp
        go_at_call 16
        refine (CTA.out _ _ (Rs_9.out.below fb).lies).mono ?_
        rintro e Wn ⟨rfl, fbn⟩
        replace fb := fb.trans (fbn.mono fb.size)
        refine hK.out _ _ ?_ (fun hHeld => ?_)
        · exact ⟨(CS_9.out.below fb).c0, (CS_9.out.below fb).c1, (CS_9.out.below fb).c2, (CX_9.out.below fb).c0, (CX_9.out.below fb).c1, (CX_9.out.below fb).c2, (CY_9.out.below fb).c0, (CY_9.out.below fb).c1, (CY_9.out.below fb).c2⟩
        clear hK K
        try simp only [Act.put, List.setIfInBounds_toArray, List.set_cons_zero, List.set_cons_succ]
        refine wpAnyH_take (i := 18) (oi := { dst := some 85, op := Op.binOp BinOp.neq 3 (Operand.tmp 81) (Operand.tmp 84) 3, type := 4, pos := "laws.go:300", after := #[{ on := 14, ground := Ground.data }, { on := 17, ground := Ground.data }, { on := 11, ground := Ground.guard }], guard := some (11, true) }) (v := ?_) rfl (by kernel_rfl) (by kernel_rfl) (by kernel_rfl) (fun _ _ _ h => h) (Or.inl ⟨by rfl, ?_⟩) (by assumption) ?_
        rotate_left
        focus (intro w hSw; (try dsimp only at hSw); first | (go_simp; done) | (go_simp; with_reducible rfl))
        try simp only [Act.put, List.setIfInBounds_toArray, List.set_cons_zero, List.set_cons_succ]
        refine wpAnyH_take (i := 19) (oi := { dst := some 86, op := Op.pick (Operand.tmp 78) (Operand.tmp 85) (Operand.const (Value.bool false)), type := 4, pos := "laws.go:300", after := #[{ on := 11, ground := Ground.data }, { on := 18, ground := Ground.data }, { on := 9, ground := Ground.guard }], guard := some (9, false) }) (v := ?_) rfl (by kernel_rfl) (by kernel_rfl) (by kernel_rfl) (fun _ _ _ h => h) (Or.inl ⟨by rfl, ?_⟩) (by assumption) ?_
        rotate_left
        focus (intro w hSw; (try dsimp only at hSw); first | (go_simp; done) | (go_simp; with_reducible rfl))
        try simp only [Act.put, List.setIfInBounds_toArray, List.set_cons_zero, List.set_cons_succ]
        refine wpAnyH_take (i := 20) (oi := { dst := some 87, op := Op.pick (Operand.tmp 76) (Operand.const (Value.bool true)) (Operand.tmp 86), type := 4, pos := "laws.go:300", after := #[{ on := 9, ground := Ground.data }, { on := 19, ground := Ground.data }], guard := none }) (v := ?_) rfl (by kernel_rfl) (by kernel_rfl) (by kernel_rfl) (fun _ _ _ h => h) (Or.inl ⟨by rfl, ?_⟩) (by assumption) ?_
        rotate_left
        focus (intro w hSw; (try dsimp only at hSw); first | (go_simp; done) | (go_simp; with_reducible rfl))
        try simp only [Act.put, List.setIfInBounds_toArray, List.set_cons_zero, List.set_cons_succ]
        refine wpAnyH_done (by kernel_rfl) ?_ _
        go_wp2_with fail
        go_meet
        exact ⟨rfl, fb⟩
    case rest =>
      obtain ⟨rfl, bw10⟩ := hcut
      obtain ⟨W10, rfl⟩ : ∃ W, W = wc := ⟨_, rfl⟩
      have bw := bw10.out
      have HB_10 := Lib.hid (HB_9.out.trans (bw.mono HB_9.out.size))
      have CS_10 := Lib.hid (CS_9.out.below bw)
      have CX_10 := Lib.hid (CX_9.out.below bw)
      have CY_10 := Lib.hid (CY_9.out.below bw)
      have Rs_10 := Lib.hid (Rs_9.out.below bw)
      have Rx_10 := Lib.hid (Rx_9.out.below bw)
      have Ry_10 := Lib.hid (Ry_9.out.below bw)
      have Z13 := Lib.hid (bw.size)
      clear CS_9 CX_9 CY_9 Rs_9 Rx_9 Ry_9 HB_9 bw10 bw
      clear Rs_10 Rx_10 Ry_10 CS_10 CX_10 CY_10
      have CV2 := Lib.hid (Cursor.code_next HC.out HB_10.out)
      go_wp2_with fail
      refine (Cursor.drawSub W10 a len cap hlen CV2.out).mono ?_
      rintro e W11 ⟨vp, b1, rows1, out1, r, hok1, ⟨hr0, hr1⟩, rfl, h11, fb11⟩
      have HB_11 := Lib.hid (HB_10.out.trans (fb11.mono HB_10.out.size))
      have Z14 := Lib.hid (fb11.size)
      have Rp_11 := Lib.hid h11
      clear HB_10 fb11 h11
      have hz1 := ok_size hok1
      clear hok1
      have CSI := Lib.hid (fun (W : World) (u : Value) (l : LiesS W u b1 rows1 out1) => impl_sub u b1 rows1 out1 W l r hz1)
      have CSS := Lib.hid (fun (W : World) (u : Value) (l : LiesS W u b1 rows1 out1) => spec_sub u b1 rows1 out1 W l r hz1)
      have HSL := Lib.hid (fun h : subK b1 rows1 out1 r = true => sub_law h)
      clear hz1
      obtain ⟨yk, hyk⟩ : ∃ y, y = subK b1 rows1 out1 r := ⟨_, rfl⟩
      obtain ⟨yr, hyr⟩ : ∃ y, y = subR b1 rows1 out1 r := ⟨_, rfl⟩
      obtain ⟨yo, hyo⟩ : ∃ y, y = subO b1 rows1 out1 r := ⟨_, rfl⟩
      obtain ⟨yb, hyb⟩ : ∃ y, y = subB b1 rows1 out1 r := ⟨_, rfl⟩
      rw [← hyb, ← hyr, ← hyo, ← hyk] at CSI CSS HSL
      have hyy : (yk != yk) = false := by simp
      clear hyb hyr hyo hyk
      obtain ⟨anp, cnp, aop, cop, rfl⟩ := Rp_11.out.form
      go_wp2_with fail
      have bx12 : Below W11.heap.size W11 (W11.alloc (Obj.cells #[.int .i64 b1, .slice anp rows1.length cnp, .slice aop out1.length cop] 27)) := (Below.refl _ _).alloc (Nat.le_refl _) _
      have cx12 := Cells3.new W11 27 (.int .i64 b1) (.slice anp rows1.length cnp) (.slice aop out1.length cop)
      have hz12 : (W11.alloc (Obj.cells #[.int .i64 b1, .slice anp rows1.length cnp, .slice aop out1.length cop] 27)).heap.size = W11.heap.size + 1 := size_alloc' _ _
      obtain ⟨W12, hW12⟩ : ∃ W, W = (W11.alloc (Obj.cells #[.int .i64 b1, .slice anp rows1.length cnp, .slice aop out1.length cop] 27)) := ⟨_, rfl⟩
      rw [← hW12] at bx12 cx12 hz12 ⊢
      have HB_12 := Lib.hid (HB_11.out.trans (bx12.mono HB_11.out.size))
      have Rp_12 := Lib.hid (Rp_11.out.below bx12)
      have Z15 := Lib.hid (bx12.size)
      have CP_12 := Lib.hid cx12
      have Z16 := Lib.hid hz12
      clear Rp_11 HB_11 bx12 hW12 cx12
      clear hz12
      refine (CSI.out _ _ Rp_12.out.lies).mono ?_
      rintro e W13 ⟨vu, rfl, h13, fb13⟩
      have HB_13 := Lib.hid (HB_12.out.trans (fb13.mono HB_12.out.size))
      have CP_13 := Lib.hid (CP_12.out.below fb13)
      have Rp_13 := Lib.hid (Rp_12.out.below fb13)
      have Z17 := Lib.hid (fb13.size)
      have Ru_13 := Lib.hid h13
      clear CP_12 Rp_12 HB_12 fb13 h13
      obtain ⟨anu, cnu, aou, cou, rfl⟩ := Ru_13.out.form
      have kP0 := (CP_13.out.alloc (Obj.cells #[.int .i64 yb, .slice anu yr.length cnu, .slice aou yo.length cou] 27)).c0
      have kP1 := (CP_13.out.alloc (Obj.cells #[.int .i64 yb, .slice anu yr.length cnu, .slice aou yo.length cou] 27)).c1
      have kP2 := (CP_13.out.alloc (Obj.cells #[.int .i64 yb, .slice anu yr.length cnu, .slice aou yo.length cou] 27)).c2
      go_wp2_with fail
      clear kP0 kP1 kP2
      have bx14 : Below W13.heap.size W13 (W13.alloc (Obj.cells #[.int .i64 yb, .slice anu yr.length cnu, .slice aou yo.length cou] 27)) := (Below.refl _ _).alloc (Nat.le_refl _) _
      have cx14 := Cells3.new W13 27 (.int .i64 yb) (.slice anu yr.length cnu) (.slice aou yo.length cou)
      have hz14 : (W13.alloc (Obj.cells #[.int .i64 yb, .slice anu yr.length cnu, .slice aou yo.length cou] 27)).heap.size = W13.heap.size + 1 := size_alloc' _ _
      obtain ⟨W14, hW14⟩ : ∃ W, W = (W13.alloc (Obj.cells #[.int .i64 yb, .slice anu yr.length cnu, .slice aou yo.length cou] 27)) := ⟨_, rfl⟩
      rw [← hW14] at bx14 cx14 hz14 ⊢
      have HB_14 := Lib.hid (HB_13.out.trans (bx14.mono HB_13.out.size))
      have CP_14 := Lib.hid (CP_13.out.below bx14)
      have Rp_14 := Lib.hid (Rp_13.out.below bx14)
      have Ru_14 := Lib.hid (Ru_13.out.below bx14)
      have Z18 := Lib.hid (bx14.size)
      have CU_14 := Lib.hid cx14
      have Z19 := Lib.hid hz14
      clear CP_13 Rp_13 Ru_13 HB_13 bx14 hW14 cx14
      clear hz14
      refine (CSS.out _ _ Rp_14.out.lies).mono ?_
      rintro e W15 ⟨vv, rfl, h15, fb15⟩
      have HB_15 := Lib.hid (HB_14.out.trans (fb15.mono HB_14.out.size))
      have CP_15 := Lib.hid (CP_14.out.below fb15)
      have CU_15 := Lib.hid (CU_14.out.below fb15)
      have Rp_15 := Lib.hid (Rp_14.out.below fb15)
      have Ru_15 := Lib.hid (Ru_14.out.below fb15)
      have Z20 := Lib.hid (fb15.size)
      have Rv_15 := Lib.hid h15
      clear CP_14 CU_14 Rp_14 Ru_14 HB_14 fb15 h15
      obtain ⟨anv, cnv, aov, cov, rfl⟩ := Rv_15.out.form
      have kP0 := (CP_15.out.alloc (Obj.cells #[.int .i64 yb, .slice anv yr.length cnv, .slice aov yo.length cov] 27)).c0
      have kP1 := (CP_15.out.alloc (Obj.cells #[.int .i64 yb, .slice anv yr.length cnv, .slice aov yo.length cov] 27)).c1
      have kP2 := (CP_15.out.alloc (Obj.cells #[.int .i64 yb, .slice anv yr.length cnv, .slice aov yo.length cov] 27)).c2
      have kU0 := (CU_15.out.alloc (Obj.cells #[.int .i64 yb, .slice anv yr.length cnv, .slice aov yo.length cov] 27)).c0
      have kU1 := (CU_15.out.alloc (Obj.cells #[.int .i64 yb, .slice anv yr.length cnv, .slice aov yo.length cov] 27)).c1
      have kU2 := (CU_15.out.alloc (Obj.cells #[.int .i64 yb, .slice anv yr.length cnv, .slice aov yo.length cov] 27)).c2
      go_wp2_with fail
      clear kP0 kP1 kP2 kU0 kU1 kU2
      have bx16 : Below W15.heap.size W15 (W15.alloc (Obj.cells #[.int .i64 yb, .slice anv yr.length cnv, .slice aov yo.length cov] 27)) := (Below.refl _ _).alloc (Nat.le_refl _) _
      have cx16 := Cells3.new W15 27 (.int .i64 yb) (.slice anv yr.length cnv) (.slice aov yo.length cov)
      have hz16 : (W15.alloc (Obj.cells #[.int .i64 yb, .slice anv yr.length cnv, .slice aov yo.length cov] 27)).heap.size = W15.heap.size + 1 := size_alloc' _ _
      obtain ⟨W16, hW16⟩ : ∃ W, W = (W15.alloc (Obj.cells #[.int .i64 yb, .slice anv yr.length cnv, .slice aov yo.length cov] 27)) := ⟨_, rfl⟩
      rw [← hW16] at bx16 cx16 hz16 ⊢
      have HB_16 := Lib.hid (HB_15.out.trans (bx16.mono HB_15.out.size))
      have CP_16 := Lib.hid (CP_15.out.below bx16)
      have CU_16 := Lib.hid (CU_15.out.below bx16)
      have Rp_16 := Lib.hid (Rp_15.out.below bx16)
      have Ru_16 := Lib.hid (Ru_15.out.below bx16)
      have Rv_16 := Lib.hid (Rv_15.out.below bx16)
      have Z21 := Lib.hid (bx16.size)
      have CV_16 := Lib.hid cx16
      have Z22 := Lib.hid hz16
      clear CP_15 CU_15 Rp_15 Ru_15 Rv_15 HB_15 bx16 hW16 cx16
      clear hz16
      go_cut [134] (fun s wx => s = .bool false ∧ Hid (Below W16.heap.size W16 wx))
      case first =>
        cases yk with
        | false =>
          have fb := below_drew' W16
          refine wp_region_held_drew (S := (fun w' => w'.cell? ⟨W11.heap.size, 0, none⟩ = some (.int .i64 b1) ∧ w'.cell? ⟨W11.heap.size, 1, none⟩ = some (.slice anp rows1.length cnp) ∧ w'.cell? ⟨W11.heap.size, 2, none⟩ = some (.slice aop out1.length cop) ∧ w'.cell? ⟨W13.heap.size, 0, none⟩ = some (.int .i64 yb) ∧ w'.cell? ⟨W13.heap.size, 1, none⟩ = some (.slice anu yr.length cnu) ∧ w'.cell? ⟨W13.heap.size, 2, none⟩ = some (.slice aou yo.length cou) ∧ w'.cell? ⟨W15.heap.size, 0, none⟩ = some (.int .i64 yb) ∧ w'.cell? ⟨W15.heap.size, 1, none⟩ = some (.slice anv yr.length cnv) ∧ w'.cell? ⟨W15.heap.size, 2, none⟩ = some (.slice aov yo.length cov))) (by kernel_rfl) ?_ (fun hHeld => ?_)
          · exact ⟨(CP_16.out.below fb).c0, (CP_16.out.below fb).c1, (CP_16.out.below fb).c2, (CU_16.out.below fb).c0, (CU_16.out.below fb).c1, (CU_16.out.below fb).c2, (CV_16.out.below fb).c0, (CV_16.out.below fb).c1, (CV_16.out.below fb).c2⟩
          refine wpAnyH_take (i := 0) (oi := { dst := some 105, op := Op.move (Operand.tmp 16), type := 4, pos := "laws.go:306", after := #[], guard := none }) (v := ?_) rfl (by kernel_rfl) (by kernel_rfl) (by kernel_rfl) (fun _ _ _ h => h) (Or.inl ⟨by rfl, ?_⟩) (by assumption) ?_
          rotate_left
          focus (intro w hSw; (try dsimp only at hSw); first | (go_simp; done) | (go_simp; with_reducible rfl))
          try simp only [Act.put, List.setIfInBounds_toArray, List.set_cons_zero, List.set_cons_succ]
          refine wpAnyH_take (i := 1) (oi := { dst := some 106, op := Op.move (Operand.tmp 18), type := 4, pos := "laws.go:306", after := #[], guard := none }) (v := ?_) rfl (by kernel_rfl) (by kernel_rfl) (by kernel_rfl) (fun _ _ _ h => h) (Or.inl ⟨by rfl, ?_⟩) (by assumption) ?_
          rotate_left
          focus (intro w hSw; (try dsimp only at hSw); first | (go_simp; done) | (go_simp; with_reducible rfl))
          try simp only [Act.put, List.setIfInBounds_toArray, List.set_cons_zero, List.set_cons_succ]
          refine wpAnyH_take (i := 2) (oi := { dst := some 107, op := Op.binOp BinOp.neq 4 (Operand.tmp 105) (Operand.tmp 106) 4, type := 4, pos := "laws.go:306", after := #[{ on := 0, ground := Ground.data }, { on := 1, ground := Ground.data }], guard := none }) (v := ?_) rfl (by kernel_rfl) (by kernel_rfl) (by kernel_rfl) (fun _ _ _ h => h) (Or.inl ⟨by rfl, ?_⟩) (by assumption) ?_
          rotate_left
          focus (intro w hSw; (try dsimp only at hSw); first | (go_simp; done) | (go_simp; with_reducible rfl))
          try simp only [Act.put, List.setIfInBounds_toArray, List.set_cons_zero, List.set_cons_succ]
          refine wpAnyH_take (i := 3) (oi := { dst := some 108, op := Op.move (Operand.tmp 107), type := 4, pos := "laws.go:306", after := #[{ on := 2, ground := Ground.data }], guard := none }) (v := ?_) rfl (by kernel_rfl) (by kernel_rfl) (by kernel_rfl) (fun _ _ _ h => h) (Or.inl ⟨by rfl, ?_⟩) (by assumption) ?_
          rotate_left
          focus (intro w hSw; (try dsimp only at hSw); first | (go_simp; done) | (go_simp; with_reducible rfl))
          try simp only [Act.put, List.setIfInBounds_toArray, List.set_cons_zero, List.set_cons_succ]
          refine wpAnyH_take (i := 4) (oi := { dst := some 109, op := Op.load 27 (Operand.tmp 15), type := 27, pos := "laws.go:306", after := #[{ on := 3, ground := Ground.guard }], guard := some (3, false) }) (v := ?_) rfl (by kernel_rfl) (by kernel_rfl) (by kernel_rfl) (fun _ _ _ h => h) (Or.inl ⟨by rfl, ?_⟩) (by assumption) ?_
          rotate_left
          focus (intro w hSw; (try dsimp only at hSw); first | (go_simp; done) | (go_simp; with_reducible rfl))
          try simp only [Act.put, List.setIfInBounds_toArray, List.set_cons_zero, List.set_cons_succ]
          refine wpAnyH_take (i := 5) (oi := { dst := some 110, op := Op.load 27 (Operand.tmp 17), type := 27, pos := "laws.go:306", after := #[{ on := 3, ground := Ground.guard }], guard := some (3, false) }) (v := ?_) rfl (by kernel_rfl) (by kernel_rfl) (by kernel_rfl) (fun _ _ _ h => h) (Or.inl ⟨by rfl, ?_⟩) (by assumption) ?_
          rotate_left
          focus (intro w hSw; (try dsimp only at hSw); first | (go_simp; done) | (go_simp; with_reducible rfl))
          try simp only [Act.put, List.setIfInBounds_toArray, List.set_cons_zero, List.set_cons_succ]
          refine wpAnyH_ready (rs := [6]) (by kernel_rfl) (by simp) ?_
          refine AllReadyH.cons (o := { dst := some 111, op := Op.call { callee := Callee.value (Operand.func 14), args := #[Operand.tmp 109, Operand.tmp 110], argTypes := #[27, 27] }, type := 4, pos := "laws.go:306", after := #[{ on := 4, ground := Ground.data }, { on := 5, ground := Ground.data }, { on := 3, ground := Ground.chain }, { on := 3, ground := Ground.guard }], guard := some (3, false) }) rfl (fun K hK => ?_) AllReadyH.nil
          go_simp
          go_at_call 14
          refine (equal_own _ _ yb yr yo _ (Ru_16.out.below fb).lies (Rv_16.out.below fb).lies).mono ?_
          rintro e Wn ⟨rfl, fbn⟩
          replace fb := fb.trans (fbn.mono fb.size)
          refine hK.out _ _ ?_ (fun hHeld => ?_)
          · exact ⟨(CP_16.out.below fb).c0, (CP_16.out.below fb).c1, (CP_16.out.below fb).c2, (CU_16.out.below fb).c0, (CU_16.out.below fb).c1, (CU_16.out.below fb).c2, (CV_16.out.below fb).c0, (CV_16.out.below fb).c1, (CV_16.out.below fb).c2⟩
          clear hK K
          try simp only [Act.put, List.setIfInBounds_toArray, List.set_cons_zero, List.set_cons_succ]
          refine wpAnyH_take (i := 7) (oi := { dst := some 112, op := Op.unOp UnOp.not 4 (Operand.tmp 111), type := 4, pos := "laws.go:306", after := #[{ on := 6, ground := Ground.data }, { on := 3, ground := Ground.guard }], guard := some (3, false) }) (v := ?_) rfl (by kernel_rfl) (by kernel_rfl) (by kernel_rfl) (fun _ _ _ h => h) (Or.inl ⟨by rfl, ?_⟩) (by assumption) ?_
          rotate_left
          focus (intro w hSw; (try dsimp only at hSw); first | (go_simp; done) | (go_simp; with_reducible rfl))
          try simp only [Act.put, List.setIfInBounds_toArray, List.set_cons_zero, List.set_cons_succ]
          refine wpAnyH_take (i := 8) (oi := { dst := some 113, op := Op.pick (Operand.tmp 108) (Operand.const (Value.bool true)) (Operand.tmp 112), type := 4, pos := "laws.go:306", after := #[{ on := 3, ground := Ground.data }, { on := 7, ground := Ground.data }], guard := none }) (v := ?_) rfl (by kernel_rfl) (by kernel_rfl) (by kernel_rfl) (fun _ _ _ h => h) (Or.inl ⟨by rfl, ?_⟩) (by assumption) ?_
          rotate_left
          focus (intro w hSw; (try dsimp only at hSw); first | (go_simp; done) | (go_simp; with_reducible rfl))
          try simp only [Act.put, List.setIfInBounds_toArray, List.set_cons_zero, List.set_cons_succ]
          refine wpAnyH_take (i := 9) (oi := { dst := some 114, op := Op.move (Operand.tmp 113), type := 4, pos := "laws.go:306", after := #[{ on := 8, ground := Ground.data }, { on := 6, ground := Ground.chain }], guard := none }) (v := ?_) rfl (by kernel_rfl) (by kernel_rfl) (by kernel_rfl) (fun _ _ _ h => h) (Or.inl ⟨by rfl, ?_⟩) (by assumption) ?_
          rotate_left
          focus (intro w hSw; (try dsimp only at hSw); first | (go_simp; done) | (go_simp; with_reducible rfl))
          try simp only [Act.put, List.setIfInBounds_toArray, List.set_cons_zero, List.set_cons_succ]
          refine wpAnyH_take (i := 10) (oi := { dst := some 115, op := Op.move (Operand.tmp 16), type := 4, pos := "laws.go:306", after := #[{ on := 9, ground := Ground.guard }], guard := some (9, false) }) (v := ?_) rfl (by kernel_rfl) (by kernel_rfl) (by kernel_rfl) (fun _ _ _ h => h) (Or.inl ⟨by rfl, ?_⟩) (by assumption) ?_
          rotate_left
          focus (intro w hSw; (try dsimp only at hSw); first | (go_simp; done) | (go_simp; with_reducible rfl))
          try simp only [Act.put, List.setIfInBounds_toArray, List.set_cons_zero, List.set_cons_succ]
          refine wpAnyH_take (i := 11) (oi := { dst := some 116, op := Op.move (Operand.tmp 115), type := 4, pos := "laws.go:306", after := #[{ on := 10, ground := Ground.data }, { on := 9, ground := Ground.chain }, { on := 9, ground := Ground.guard }], guard := some (9, false) }) (v := ?_) rfl (by kernel_rfl) (by kernel_rfl) (by kernel_rfl) (fun _ _ _ h => h) (Or.inl ⟨by rfl, ?_⟩) (by assumption) ?_
          rotate_left
          focus (intro w hSw; (try dsimp only at hSw); first | (go_simp; done) | (go_simp; with_reducible rfl))
          try simp only [Act.put, List.setIfInBounds_toArray, List.set_cons_zero, List.set_cons_succ]
          refine wpAnyH_take (i := 12) (oi := { dst := some 117, op := Op.move (Operand.tmp 12), type := 3, pos := "laws.go:306", after := #[{ on := 11, ground := Ground.guard }], guard := some (11, true) }) (v := undef) rfl (by kernel_rfl) (by kernel_rfl) (by kernel_rfl) (fun _ _ _ h => h) (Or.inr ⟨by rfl, rfl⟩) (by assumption) ?_
          try simp only [Act.put, List.setIfInBounds_toArray, List.set_cons_zero, List.set_cons_succ]
          refine wpAnyH_take (i := 13) (oi := { dst := some 118, op := Op.binOp BinOp.lss 3 (Operand.tmp 117) (Operand.const (Value.int IntKind.i64 2000)) 3, type := 4, pos := "laws.go:306", after := #[{ on := 12, ground := Ground.data }, { on := 11, ground := Ground.guard }], guard := some (11, true) }) (v := undef) rfl (by kernel_rfl) (by kernel_rfl) (by kernel_rfl) (fun _ _ _ h => h) (Or.inr ⟨by rfl, rfl⟩) (by assumption) ?_
          try simp only [Act.put, List.setIfInBounds_toArray, List.set_cons_zero, List.set_cons_succ]
          refine wpAnyH_take (i := 14) (oi := { dst := some 119, op := Op.pick (Operand.tmp 116) (Operand.tmp 118) (Operand.const (Value.bool false)), type := 4, pos := "laws.go:306", after := #[{ on := 11, ground := Ground.data }, { on := 13, ground := Ground.data }, { on := 9, ground := Ground.guard }], guard := some (9, false) }) (v := ?_) rfl (by kernel_rfl) (by kernel_rfl) (by kernel_rfl) (fun _ _ _ h => h) (Or.inl ⟨by rfl, ?_⟩) (by assumption) ?_
          rotate_left
          focus (intro w hSw; (try dsimp only at hSw); first | (go_simp; done) | (go_simp; with_reducible rfl))
          try simp only [Act.put, List.setIfInBounds_toArray, List.set_cons_zero, List.set_cons_succ]
          refine wpAnyH_take (i := 15) (oi := { dst := some 120, op := Op.move (Operand.tmp 119), type := 4, pos := "laws.go:306", after := #[{ on := 14, ground := Ground.data }, { on := 11, ground := Ground.chain }, { on := 9, ground := Ground.guard }], guard := some (9, false) }) (v := ?_) rfl (by kernel_rfl) (by kernel_rfl) (by kernel_rfl) (fun _ _ _ h => h) (Or.inl ⟨by rfl, ?_⟩) (by assumption) ?_
          rotate_left
          focus (intro w hSw; (try dsimp only at hSw); first | (go_simp; done) | (go_simp; with_reducible rfl))
          try simp only [Act.put, List.setIfInBounds_toArray, List.set_cons_zero, List.set_cons_succ]
          refine wpAnyH_take (i := 16) (oi := { dst := some 121, op := Op.load 27 (Operand.tmp 17), type := 27, pos := "laws.go:306", after := #[{ on := 15, ground := Ground.guard }], guard := some (15, true) }) (v := undef) rfl (by kernel_rfl) (by kernel_rfl) (by kernel_rfl) (fun _ _ _ h => h) (Or.inr ⟨by rfl, rfl⟩) (by assumption) ?_
          try simp only [Act.put, List.setIfInBounds_toArray, List.set_cons_zero, List.set_cons_succ]
          refine wpAnyH_take (i := 17) (oi := { dst := some 122, op := Op.move (Operand.tmp 12), type := 3, pos := "laws.go:306", after := #[{ on := 15, ground := Ground.guard }], guard := some (15, true) }) (v := undef) rfl (by kernel_rfl) (by kernel_rfl) (by kernel_rfl) (fun _ _ _ h => h) (Or.inr ⟨by rfl, rfl⟩) (by assumption) ?_
          try simp only [Act.put, List.setIfInBounds_toArray, List.set_cons_zero, List.set_cons_succ]
          refine wpAnyH_take (i := 18) (oi := { dst := some 123, op := Op.call { callee := Callee.value (Operand.func 20), args := #[Operand.tmp 121, Operand.tmp 122], argTypes := #[27, 3] }, type := 3, pos := "laws.go:306", after := #[{ on := 16, ground := Ground.data }, { on := 17, ground := Ground.data }, { on := 15, ground := Ground.chain }, { on := 15, ground := Ground.guard }], guard := some (15, true) }) (v := undef) rfl (by kernel_rfl) (by kernel_rfl) (by kernel_rfl) (fun _ _ _ h => h) (Or.inr ⟨by rfl, rfl⟩) (by assumption) ?_
          try simp only [Act.put, List.setIfInBounds_toArray, List.set_cons_zero, List.set_cons_succ]
          refine wpAnyH_take (i := 19) (oi := { dst := some 124, op := Op.load 27 (Operand.tmp 13), type := 27, pos := "laws.go:306", after := #[{ on := 15, ground := Ground.guard }], guard := some (15, true) }) (v := undef) rfl (by kernel_rfl) (by kernel_rfl) (by kernel_rfl) (fun _ _ _ h => h) (Or.inr ⟨by rfl, rfl⟩) (by assumption) ?_
          try simp only [Act.put, List.setIfInBounds_toArray, List.set_cons_zero, List.set_cons_succ]
          refine wpAnyH_take (i := 20) (oi := { dst := some 125, op := Op.fieldAddr 27 (Operand.tmp 13) 0, type := 0, pos := "laws.go:306", after := #[{ on := 15, ground := Ground.guard }], guard := some (15, true) }) (v := undef) rfl (by kernel_rfl) (by kernel_rfl) (by kernel_rfl) (fun _ _ _ h => h) (Or.inr ⟨by rfl, rfl⟩) (by assumption) ?_
          try simp only [Act.put, List.setIfInBounds_toArray, List.set_cons_zero, List.set_cons_succ]
          refine wpAnyH_take (i := 21) (oi := { dst := some 126, op := Op.load 3 (Operand.tmp 125), type := 3, pos := "laws.go:306", after := #[{ on := 20, ground := Ground.data }, { on := 15, ground := Ground.guard }], guard := some (15, true) }) (v := undef) rfl (by kernel_rfl) (by kernel_rfl) (by kernel_rfl) (fun _ _ _ h => h) (Or.inr ⟨by rfl, rfl⟩) (by assumption) ?_
          try simp only [Act.put, List.setIfInBounds_toArray, List.set_cons_zero, List.set_cons_succ]
          refine wpAnyH_take (i := 22) (oi := { dst := some 127, op := Op.move (Operand.tmp 12), type := 3, pos := "laws.go:306", after := #[{ on := 15, ground := Ground.guard }], guard := some (15, true) }) (v := undef) rfl (by kernel_rfl) (by kernel_rfl) (by kernel_rfl) (fun _ _ _ h => h) (Or.inr ⟨by rfl, rfl⟩) (by assumption) ?_
          try simp only [Act.put, List.setIfInBounds_toArray, List.set_cons_zero, List.set_cons_succ]
          refine wpAnyH_take (i := 23) (oi := { dst := some 128, op := Op.binOp BinOp.mul 3 (Operand.tmp 126) (Operand.tmp 127) 3, type := 3, pos := "laws.go:306", after := #[{ on := 21, ground := Ground.data }, { on := 22, ground := Ground.data }, { on := 15, ground := Ground.guard }], guard := some (15, true) }) (v := undef) rfl (by kernel_rfl) (by kernel_rfl) (by kernel_rfl) (fun _ _ _ h => h) (Or.inr ⟨by rfl, rfl⟩) (by assumption) ?_
          try simp only [Act.put, List.setIfInBounds_toArray, List.set_cons_zero, List.set_cons_succ]
          refine wpAnyH_take (i := 24) (oi := { dst := some 129, op := Op.move (Operand.tmp 14), type := 3, pos := "laws.go:306", after := #[{ on := 15, ground := Ground.guard }], guard := some (15, true) }) (v := undef) rfl (by kernel_rfl) (by kernel_rfl) (by kernel_rfl) (fun _ _ _ h => h) (Or.inr ⟨by rfl, rfl⟩) (by assumption) ?_
          try simp only [Act.put, List.setIfInBounds_toArray, List.set_cons_zero, List.set_cons_succ]
          refine wpAnyH_take (i := 25) (oi := { dst := some 130, op := Op.binOp BinOp.add 3 (Operand.tmp 128) (Operand.tmp 129) 3, type := 3, pos := "laws.go:306", after := #[{ on := 23, ground := Ground.data }, { on := 24, ground := Ground.data }, { on := 15, ground := Ground.guard }], guard := some (15, true) }) (v := undef) rfl (by kernel_rfl) (by kernel_rfl) (by kernel_rfl) (fun _ _ _ h => h) (Or.inr ⟨by rfl, rfl⟩) (by assumption) ?_
          try simp only [Act.put, List.setIfInBounds_toArray, List.set_cons_zero, List.set_cons_succ]
          refine wpAnyH_take (i := 26) (oi := { dst := some 131, op := Op.call { callee := Callee.value (Operand.func 16), args := #[Operand.tmp 124, Operand.tmp 130], argTypes := #[27, 3] }, type := 3, pos := "laws.go:306", after := #[{ on := 19, ground := Ground.data }, { on := 25, ground := Ground.data }, { on := 18, ground := Ground.chain }, { on := 15, ground := Ground.guard }], guard := some (15, true) }) (v := undef) rfl (by kernel_rfl) (by kernel_rfl) (by kernel_rfl) (fun _ _ _ h => h) (Or.inr ⟨by rfl, rfl⟩) (by assumption) ?_
          try simp only [Act.put, List.setIfInBounds_toArray, List.set_cons_zero, List.set_cons_succ]
          refine wpAnyH_take (i := 27) (oi := { dst := some 132, op := Op.binOp BinOp.neq 3 (Operand.tmp 123) (Operand.tmp 131) 3, type := 4, pos := "laws.go:306", after := #[{ on := 18, ground := Ground.data }, { on := 26, ground := Ground.data }, { on := 15, ground := Ground.guard }], guard := some (15, true) }) (v := undef) rfl (by kernel_rfl) (by kernel_rfl) (by kernel_rfl) (fun _ _ _ h => h) (Or.inr ⟨by rfl, rfl⟩) (by assumption) ?_
          try simp only [Act.put, List.setIfInBounds_toArray, List.set_cons_zero, List.set_cons_succ]
          refine wpAnyH_take (i := 28) (oi := { dst := some 133, op := Op.pick (Operand.tmp 120) (Operand.tmp 132) (Operand.const (Value.bool false)), type := 4, pos := "laws.go:306", after := #[{ on := 15, ground := Ground.data }, { on := 27, ground := Ground.data }, { on := 9, ground := Ground.guard }], guard := some (9, false) }) (v := ?_) rfl (by kernel_rfl) (by kernel_rfl) (by kernel_rfl) (fun _ _ _ h => h) (Or.inl ⟨by rfl, ?_⟩) (by assumption) ?_
          rotate_left
          focus (intro w hSw; (try dsimp only at hSw); first | (go_simp; done) | (go_simp; with_reducible rfl))
          try simp only [Act.put, List.setIfInBounds_toArray, List.set_cons_zero, List.set_cons_succ]
          refine wpAnyH_take (i := 29) (oi := { dst := some 134, op := Op.pick (Operand.tmp 114) (Operand.const (Value.bool true)) (Operand.tmp 133), type := 4, pos := "laws.go:306", after := #[{ on := 9, ground := Ground.data }, { on := 28, ground := Ground.data }], guard := none }) (v := ?_) rfl (by kernel_rfl) (by kernel_rfl) (by kernel_rfl) (fun _ _ _ h => h) (Or.inl ⟨by rfl, ?_⟩) (by assumption) ?_
          rotate_left
          focus (intro w hSw; (try dsimp only at hSw); first | (go_simp; done) | (go_simp; with_reducible rfl))
          try simp only [Act.put, List.setIfInBounds_toArray, List.set_cons_zero, List.set_cons_succ]
          refine wpAnyH_done (by kernel_rfl) ?_ _
          go_wp2_with fail
          go_meet
          exact ⟨rfl, fb⟩
        | true =>
          by_cases hn2 : n < 2000
          · have hd2 := decide_eq_true hn2
            obtain ⟨hb2, hb4, hr2, hr3, hsl⟩ := HSL.out rfl
            have hsn := hsl n HN.out.1 hn2
            have hbn0 : 0 ≤ b1 * n := Int.mul_nonneg (by omega) HN.out.1
            have hbn1 : b1 * n ≤ 4 * n := Int.mul_le_mul_of_nonneg_right hb4 HN.out.1
            have hw1 : IntKind.i64.wrap (b1 * n) = b1 * n := by rw [IntKind.wrap_i64]; omega
            have hw2 : IntKind.i64.wrap (b1 * n + r) = b1 * n + r := by rw [IntKind.wrap_i64]; omega
            have CTU := Lib.hid (fun (W : World) (u : Value) (l : LiesS W u yb yr yo) => impl_termat u yb yr yo W l n)
            have CTP := Lib.hid (fun (W : World) (u : Value) (l : LiesS W u b1 rows1 out1) => spec_termat u b1 rows1 out1 W l (b1 * n + r))
            rw [hsn] at CTU
            obtain ⟨tv, htv⟩ : ∃ t, t = termV b1 rows1 out1 (b1 * n + r) := ⟨_, rfl⟩
            rw [← htv] at CTU CTP
            clear hsl hsn htv hbn0 hbn1
            have htt : (tv != tv) = false := by simp
            have fb := below_drew' W16
            refine wp_region_held_drew (S := (fun w' => w'.cell? ⟨W11.heap.size, 0, none⟩ = some (.int .i64 b1) ∧ w'.cell? ⟨W11.heap.size, 1, none⟩ = some (.slice anp rows1.length cnp) ∧ w'.cell? ⟨W11.heap.size, 2, none⟩ = some (.slice aop out1.length cop) ∧ w'.cell? ⟨W13.heap.size, 0, none⟩ = some (.int .i64 yb) ∧ w'.cell? ⟨W13.heap.size, 1, none⟩ = some (.slice anu yr.length cnu) ∧ w'.cell? ⟨W13.heap.size, 2, none⟩ = some (.slice aou yo.length cou) ∧ w'.cell? ⟨W15.heap.size, 0, none⟩ = some (.int .i64 yb) ∧ w'.cell? ⟨W15.heap.size, 1, none⟩ = some (.slice anv yr.length cnv) ∧ w'.cell? ⟨W15.heap.size, 2, none⟩ = some (.slice aov yo.length cov))) (by kernel_rfl) ?_ (fun hHeld => ?_)
            · exact ⟨(CP_16.out.below fb).c0, (CP_16.out.below fb).c1, (CP_16.out.below fb).c2, (CU_16.out.below fb).c0, (CU_16.out.below fb).c1, (CU_16.out.below fb).c2, (CV_16.out.below fb).c0, (CV_16.out.below fb).c1, (CV_16.out.below fb).c2⟩
            refine wpAnyH_take (i := 0) (oi := { dst := some 105, op := Op.move (Operand.tmp 16), type := 4, pos := "laws.go:306", after := #[], guard := none }) (v := ?_) rfl (by kernel_rfl) (by kernel_rfl) (by kernel_rfl) (fun _ _ _ h => h) (Or.inl ⟨by rfl, ?_⟩) (by assumption) ?_
            rotate_left
            focus (intro w hSw; (try dsimp only at hSw); first | (go_simp; done) | (go_simp; with_reducible rfl))
            try simp only [Act.put, List.setIfInBounds_toArray, List.set_cons_zero, List.set_cons_succ]
            refine wpAnyH_take (i := 1) (oi := { dst := some 106, op := Op.move (Operand.tmp 18), type := 4, pos := "laws.go:306", after := #[], guard := none }) (v := ?_) rfl (by kernel_rfl) (by kernel_rfl) (by kernel_rfl) (fun _ _ _ h => h) (Or.inl ⟨by rfl, ?_⟩) (by assumption) ?_
            rotate_left
            focus (intro w hSw; (try dsimp only at hSw); first | (go_simp; done) | (go_simp; with_reducible rfl))
            try simp only [Act.put, List.setIfInBounds_toArray, List.set_cons_zero, List.set_cons_succ]
            refine wpAnyH_take (i := 2) (oi := { dst := some 107, op := Op.binOp BinOp.neq 4 (Operand.tmp 105) (Operand.tmp 106) 4, type := 4, pos := "laws.go:306", after := #[{ on := 0, ground := Ground.data }, { on := 1, ground := Ground.data }], guard := none }) (v := ?_) rfl (by kernel_rfl) (by kernel_rfl) (by kernel_rfl) (fun _ _ _ h => h) (Or.inl ⟨by rfl, ?_⟩) (by assumption) ?_
            rotate_left
            focus (intro w hSw; (try dsimp only at hSw); first | (go_simp; done) | (go_simp; with_reducible rfl))
            try simp only [Act.put, List.setIfInBounds_toArray, List.set_cons_zero, List.set_cons_succ]
            refine wpAnyH_take (i := 3) (oi := { dst := some 108, op := Op.move (Operand.tmp 107), type := 4, pos := "laws.go:306", after := #[{ on := 2, ground := Ground.data }], guard := none }) (v := ?_) rfl (by kernel_rfl) (by kernel_rfl) (by kernel_rfl) (fun _ _ _ h => h) (Or.inl ⟨by rfl, ?_⟩) (by assumption) ?_
            rotate_left
            focus (intro w hSw; (try dsimp only at hSw); first | (go_simp; done) | (go_simp; with_reducible rfl))
            try simp only [Act.put, List.setIfInBounds_toArray, List.set_cons_zero, List.set_cons_succ]
            refine wpAnyH_take (i := 4) (oi := { dst := some 109, op := Op.load 27 (Operand.tmp 15), type := 27, pos := "laws.go:306", after := #[{ on := 3, ground := Ground.guard }], guard := some (3, false) }) (v := ?_) rfl (by kernel_rfl) (by kernel_rfl) (by kernel_rfl) (fun _ _ _ h => h) (Or.inl ⟨by rfl, ?_⟩) (by assumption) ?_
            rotate_left
            focus (intro w hSw; (try dsimp only at hSw); first | (go_simp; done) | (go_simp; with_reducible rfl))
            try simp only [Act.put, List.setIfInBounds_toArray, List.set_cons_zero, List.set_cons_succ]
            refine wpAnyH_take (i := 5) (oi := { dst := some 110, op := Op.load 27 (Operand.tmp 17), type := 27, pos := "laws.go:306", after := #[{ on := 3, ground := Ground.guard }], guard := some (3, false) }) (v := ?_) rfl (by kernel_rfl) (by kernel_rfl) (by kernel_rfl) (fun _ _ _ h => h) (Or.inl ⟨by rfl, ?_⟩) (by assumption) ?_
            rotate_left
            focus (intro w hSw; (try dsimp only at hSw); first | (go_simp; done) | (go_simp; with_reducible rfl))
            try simp only [Act.put, List.setIfInBounds_toArray, List.set_cons_zero, List.set_cons_succ]
            refine wpAnyH_ready (rs := [6]) (by kernel_rfl) (by simp) ?_
            refine AllReadyH.cons (o := { dst := some 111, op := Op.call { callee := Callee.value (Operand.func 14), args := #[Operand.tmp 109, Operand.tmp 110], argTypes := #[27, 27] }, type := 4, pos := "laws.go:306", after := #[{ on := 4, ground := Ground.data }, { on := 5, ground := Ground.data }, { on := 3, ground := Ground.chain }, { on := 3, ground := Ground.guard }], guard := some (3, false) }) rfl (fun K hK => ?_) AllReadyH.nil
            go_simp
            go_at_call 14
            refine (equal_own _ _ yb yr yo _ (Ru_16.out.below fb).lies (Rv_16.out.below fb).lies).mono ?_
            rintro e Wn ⟨rfl, fbn⟩
            replace fb := fb.trans (fbn.mono fb.size)
            refine hK.out _ _ ?_ (fun hHeld => ?_)
            · exact ⟨(CP_16.out.below fb).c0, (CP_16.out.below fb).c1, (CP_16.out.below fb).c2, (CU_16.out.below fb).c0, (CU_16.out.below fb).c1, (CU_16.out.below fb).c2, (CV_16.out.below fb).c0, (CV_16.out.below fb).c1, (CV_16.out.below fb).c2⟩
            clear hK K
            try simp only [Act.put, List.setIfInBounds_toArray, List.set_cons_zero, List.set_cons_succ]
            refine wpAnyH_take (i := 7) (oi := { dst := some 112, op := Op.unOp UnOp.not 4 (Operand.tmp 111), type := 4, pos := "laws.go:306", after := #[{ on := 6, ground := Ground.data }, { on := 3, ground := Ground.guard }], guard := some (3, false) }) (v := ?_) rfl (by kernel_rfl) (by kernel_rfl) (by kernel_rfl) (fun _ _ _ h => h) (Or.inl ⟨by rfl, ?_⟩) (by assumption) ?_
            rotate_left
            focus (intro w hSw; (try dsimp only at hSw); first | (go_simp; done) | (go_simp; with_reducible rfl))
            try simp only [Act.put, List.setIfInBounds_toArray, List.set_cons_zero, List.set_cons_succ]
            refine wpAnyH_take (i := 8) (oi := { dst := some 113, op := Op.pick (Operand.tmp 108) (Operand.const (Value.bool true)) (Operand.tmp 112), type := 4, pos := "laws.go:306", after := #[{ on := 3, ground := Ground.data }, { on := 7, ground := Ground.data }], guard := none }) (v := ?_) rfl (by kernel_rfl) (by kernel_rfl) (by kernel_rfl) (fun _ _ _ h => h) (Or.inl ⟨by rfl, ?_⟩) (by assumption) ?_
            rotate_left
            focus (intro w hSw; (try dsimp only at hSw); first | (go_simp; done) | (go_simp; with_reducible rfl))
            try simp only [Act.put, List.setIfInBounds_toArray, List.set_cons_zero, List.set_cons_succ]
            refine wpAnyH_take (i := 9) (oi := { dst := some 114, op := Op.move (Operand.tmp 113), type := 4, pos := "laws.go:306", after := #[{ on := 8, ground := Ground.data }, { on := 6, ground := Ground.chain }], guard := none }) (v := ?_) rfl (by kernel_rfl) (by kernel_rfl) (by kernel_rfl) (fun _ _ _ h => h) (Or.inl ⟨by rfl, ?_⟩) (by assumption) ?_
            rotate_left
            focus (intro w hSw; (try dsimp only at hSw); first | (go_simp; done) | (go_simp; with_reducible rfl))
            try simp only [Act.put, List.setIfInBounds_toArray, List.set_cons_zero, List.set_cons_succ]
            refine wpAnyH_take (i := 10) (oi := { dst := some 115, op := Op.move (Operand.tmp 16), type := 4, pos := "laws.go:306", after := #[{ on := 9, ground := Ground.guard }], guard := some (9, false) }) (v := ?_) rfl (by kernel_rfl) (by kernel_rfl) (by kernel_rfl) (fun _ _ _ h => h) (Or.inl ⟨by rfl, ?_⟩) (by assumption) ?_
            rotate_left
            focus (intro w hSw; (try dsimp only at hSw); first | (go_simp; done) | (go_simp; with_reducible rfl))
            try simp only [Act.put, List.setIfInBounds_toArray, List.set_cons_zero, List.set_cons_succ]
            refine wpAnyH_take (i := 11) (oi := { dst := some 116, op := Op.move (Operand.tmp 115), type := 4, pos := "laws.go:306", after := #[{ on := 10, ground := Ground.data }, { on := 9, ground := Ground.chain }, { on := 9, ground := Ground.guard }], guard := some (9, false) }) (v := ?_) rfl (by kernel_rfl) (by kernel_rfl) (by kernel_rfl) (fun _ _ _ h => h) (Or.inl ⟨by rfl, ?_⟩) (by assumption) ?_
            rotate_left
            focus (intro w hSw; (try dsimp only at hSw); first | (go_simp; done) | (go_simp; with_reducible rfl))
            try simp only [Act.put, List.setIfInBounds_toArray, List.set_cons_zero, List.set_cons_succ]
            refine wpAnyH_take (i := 12) (oi := { dst := some 117, op := Op.move (Operand.tmp 12), type := 3, pos := "laws.go:306", after := #[{ on := 11, ground := Ground.guard }], guard := some (11, true) }) (v := ?_) rfl (by kernel_rfl) (by kernel_rfl) (by kernel_rfl) (fun _ _ _ h => h) (Or.inl ⟨by rfl, ?_⟩) (by assumption) ?_
            rotate_left
            focus (intro w hSw; (try dsimp only at hSw); first | (go_simp; done) | (go_simp; with_reducible rfl))
            try simp only [Act.put, List.setIfInBounds_toArray, List.set_cons_zero, List.set_cons_succ]
            refine wpAnyH_take (i := 13) (oi := { dst := some 118, op := Op.binOp BinOp.lss 3 (Operand.tmp 117) (Operand.const (Value.int IntKind.i64 2000)) 3, type := 4, pos := "laws.go:306", after := #[{ on := 12, ground := Ground.data }, { on := 11, ground := Ground.guard }], guard := some (11, true) }) (v := ?_) rfl (by kernel_rfl) (by kernel_rfl) (by kernel_rfl) (fun _ _ _ h => h) (Or.inl ⟨by rfl, ?_⟩) (by assumption) ?_
            rotate_left
            focus (intro w hSw; (try dsimp only at hSw); first | (go_simp; done) | (go_simp; with_reducible rfl))
            try simp only [Act.put, List.setIfInBounds_toArray, List.set_cons_zero, List.set_cons_succ]
            refine wpAnyH_take (i := 14) (oi := { dst := some 119, op := Op.pick (Operand.tmp 116) (Operand.tmp 118) (Operand.const (Value.bool false)), type := 4, pos := "laws.go:306", after := #[{ on := 11, ground := Ground.data }, { on := 13, ground := Ground.data }, { on := 9, ground := Ground.guard }], guard := some (9, false) }) (v := ?_) rfl (by kernel_rfl) (by kernel_rfl) (by kernel_rfl) (fun _ _ _ h => h) (Or.inl ⟨by rfl, ?_⟩) (by assumption) ?_
            rotate_left
            focus (intro w hSw; (try dsimp only at hSw); first | (go_simp; done) | (go_simp; with_reducible rfl))
            try simp only [Act.put, List.setIfInBounds_toArray, List.set_cons_zero, List.set_cons_succ]
            refine wpAnyH_take (i := 15) (oi := { dst := some 120, op := Op.move (Operand.tmp 119), type := 4, pos := "laws.go:306", after := #[{ on := 14, ground := Ground.data }, { on := 11, ground := Ground.chain }, { on := 9, ground := Ground.guard }], guard := some (9, false) }) (v := ?_) rfl (by kernel_rfl) (by kernel_rfl) (by kernel_rfl) (fun _ _ _ h => h) (Or.inl ⟨by rfl, ?_⟩) (by assumption) ?_
            rotate_left
            focus (intro w hSw; (try dsimp only at hSw); first | (go_simp; done) | (go_simp; with_reducible rfl))
            try simp only [Act.put, List.setIfInBounds_toArray, List.set_cons_zero, List.set_cons_succ]
            refine wpAnyH_take (i := 16) (oi := { dst := some 121, op := Op.load 27 (Operand.tmp 17), type := 27, pos := "laws.go:306", after := #[{ on := 15, ground := Ground.guard }], guard := some (15, true) }) (v := ?_) rfl (by kernel_rfl) (by kernel_rfl) (by kernel_rfl) (fun _ _ _ h => h) (Or.inl ⟨by rfl, ?_⟩) (by assumption) ?_
            rotate_left
            focus (intro w hSw; (try dsimp only at hSw); first | (go_simp; done) | (go_simp; with_reducible rfl))
            try simp only [Act.put, List.setIfInBounds_toArray, List.set_cons_zero, List.set_cons_succ]
            refine wpAnyH_take (i := 17) (oi := { dst := some 122, op := Op.move (Operand.tmp 12), type := 3, pos := "laws.go:306", after := #[{ on := 15, ground := Ground.guard }], guard := some (15, true) }) (v := ?_) rfl (by kernel_rfl) (by kernel_rfl) (by kernel_rfl) (fun _ _ _ h => h) (Or.inl ⟨by rfl, ?_⟩) (by assumption) ?_
            rotate_left
            focus (intro w hSw; (try dsimp only at hSw); first | (go_simp; done) | (go_simp; with_reducible rfl))
            try simp only [Act.put, List.setIfInBounds_toArray, List.set_cons_zero, List.set_cons_succ]
            refine wpAnyH_take (i := 19) (oi := { dst := some 124, op := Op.load 27 (Operand.tmp 13), type := 27, pos := "laws.go:306", after := #[{ on := 15, ground := Ground.guard }], guard := some (15, true) }) (v := ?_) rfl (by kernel_rfl) (by kernel_rfl) (by kernel_rfl) (fun _ _ _ h => h) (Or.inl ⟨by rfl, ?_⟩) (by assumption) ?_
            rotate_left
            focus (intro w hSw; (try dsimp only at hSw); first | (go_simp; done) | (go_simp; with_reducible rfl))
            try simp only [Act.put, List.setIfInBounds_toArray, List.set_cons_zero, List.set_cons_succ]
            refine wpAnyH_take (i := 20) (oi := { dst := some 125, op := Op.fieldAddr 27 (Operand.tmp 13) 0, type := 0, pos := "laws.go:306", after := #[{ on := 15, ground := Ground.guard }], guard := some (15, true) }) (v := ?_) rfl (by kernel_rfl) (by kernel_rfl) (by kernel_rfl) (fun _ _ _ h => h) (Or.inl ⟨by rfl, ?_⟩) (by assumption) ?_
            rotate_left
            focus (intro w hSw; (try dsimp only at hSw); first | (go_simp; done) | (go_simp; with_reducible rfl))
            try simp only [Act.put, List.setIfInBounds_toArray, List.set_cons_zero, List.set_cons_succ]
            refine wpAnyH_take (i := 21) (oi := { dst := some 126, op := Op.load 3 (Operand.tmp 125), type := 3, pos := "laws.go:306", after := #[{ on := 20, ground := Ground.data }, { on := 15, ground := Ground.guard }], guard := some (15, true) }) (v := ?_) rfl (by kernel_rfl) (by kernel_rfl) (by kernel_rfl) (fun _ _ _ h => h) (Or.inl ⟨by rfl, ?_⟩) (by assumption) ?_
            rotate_left
            focus (intro w hSw; (try dsimp only at hSw); first | (go_simp; done) | (go_simp; with_reducible rfl))
            try simp only [Act.put, List.setIfInBounds_toArray, List.set_cons_zero, List.set_cons_succ]
            refine wpAnyH_take (i := 22) (oi := { dst := some 127, op := Op.move (Operand.tmp 12), type := 3, pos := "laws.go:306", after := #[{ on := 15, ground := Ground.guard }], guard := some (15, true) }) (v := ?_) rfl (by kernel_rfl) (by kernel_rfl) (by kernel_rfl) (fun _ _ _ h => h) (Or.inl ⟨by rfl, ?_⟩) (by assumption) ?_
            rotate_left
            focus (intro w hSw; (try dsimp only at hSw); first | (go_simp; done) | (go_simp; with_reducible rfl))
            try simp only [Act.put, List.setIfInBounds_toArray, List.set_cons_zero, List.set_cons_succ]
            refine wpAnyH_take (i := 23) (oi := { dst := some 128, op := Op.binOp BinOp.mul 3 (Operand.tmp 126) (Operand.tmp 127) 3, type := 3, pos := "laws.go:306", after := #[{ on := 21, ground := Ground.data }, { on := 22, ground := Ground.data }, { on := 15, ground := Ground.guard }], guard := some (15, true) }) (v := ?_) rfl (by kernel_rfl) (by kernel_rfl) (by kernel_rfl) (fun _ _ _ h => h) (Or.inl ⟨by rfl, ?_⟩) (by assumption) ?_
            rotate_left
            focus (intro w hSw; (try dsimp only at hSw); first | (go_simp; done) | (go_simp; with_reducible rfl))
            try simp only [Act.put, List.setIfInBounds_toArray, List.set_cons_zero, List.set_cons_succ]
            refine wpAnyH_take (i := 24) (oi := { dst := some 129, op := Op.move (Operand.tmp 14), type := 3, pos := "laws.go:306", after := #[{ on := 15, ground := Ground.guard }], guard := some (15, true) }) (v := ?_) rfl (by kernel_rfl) (by kernel_rfl) (by kernel_rfl) (fun _ _ _ h => h) (Or.inl ⟨by rfl, ?_⟩) (by assumption) ?_
            rotate_left
            focus (intro w hSw; (try dsimp only at hSw); first | (go_simp; done) | (go_simp; with_reducible rfl))
            try simp only [Act.put, List.setIfInBounds_toArray, List.set_cons_zero, List.set_cons_succ]
            refine wpAnyH_take (i := 25) (oi := { dst := some 130, op := Op.binOp BinOp.add 3 (Operand.tmp 128) (Operand.tmp 129) 3, type := 3, pos := "laws.go:306", after := #[{ on := 23, ground := Ground.data }, { on := 24, ground := Ground.data }, { on := 15, ground := Ground.guard }], guard := some (15, true) }) (v := ?_) rfl (by kernel_rfl) (by kernel_rfl) (by kernel_rfl) (fun _ _ _ h => h) (Or.inl ⟨by rfl, ?_⟩) (by assumption) ?_
            rotate_left
            focus (intro w hSw; (try dsimp only at hSw); first | (go_simp; done) | (go_simp; with_reducible rfl))
            try simp only [Act.put, List.setIfInBounds_toArray, List.set_cons_zero, List.set_cons_succ]
            refine wpAnyH_ready (rs := [18]) (by kernel_rfl) (by simp) ?_
            refine AllReadyH.cons (o := { dst := some 123, op := Op.call { callee := Callee.value (Operand.func 20), args := #[Operand.tmp 121, Operand.tmp 122], argTypes := #[27, 3] }, type := 3, pos := "laws.go:306", after := #[{ on := 16, ground := Ground.data }, { on := 17, ground := Ground.data }, { on := 15, ground := Ground.chain }, { on := 15, ground := Ground.guard }], guard := some (15, true) }) rfl (fun K hK => ?_) AllReadyH.nil
            go_simp
            go_at_call 20
            refine (CTU.out _ _ (Rv_16.out.below fb).lies).mono ?_
            rintro e Wn ⟨rfl, fbn⟩
            replace fb := fb.trans (fbn.mono fb.size)
            refine hK.out _ _ ?_ (fun hHeld => ?_)
            · exact ⟨(CP_16.out.below fb).c0, (CP_16.out.below fb).c1, (CP_16.out.below fb).c2, (CU_16.out.below fb).c0, (CU_16.out.below fb).c1, (CU_16.out.below fb).c2, (CV_16.out.below fb).c0, (CV_16.out.below fb).c1, (CV_16.out.below fb).c2⟩
            clear hK K
            try simp only [Act.put, List.setIfInBounds_toArray, List.set_cons_zero, List.set_cons_succ]
            refine wpAnyH_ready (rs := [26]) (by kernel_rfl) (by simp) ?_
            refine AllReadyH.cons (o := { dst := some 131, op := Op.call { callee := Callee.value (Operand.func 16), args := #[Operand.tmp 124, Operand.tmp 130], argTypes := #[27, 3] }, type := 3, pos := "laws.go:306", after := #[{ on := 19, ground := Ground.data }, { on := 25, ground := Ground.data }, { on := 18, ground := Ground.chain }, { on := 15, ground := Ground.guard }], guard := some (15, true) }) rfl (fun K hK => ?_) AllReadyH.nil
            go_simp
            go_at_call 16
            refine (CTP.out _ _ (Rp_16.out.below fb).lies).mono ?_
            rintro e Wn ⟨rfl, fbn⟩
            replace fb := fb.trans (fbn.mono fb.size)
            refine hK.out _ _ ?_ (fun hHeld => ?_)
            · exact ⟨(CP_16.out.below fb).c0, (CP_16.out.below fb).c1, (CP_16.out.below fb).c2, (CU_16.out.below fb).c0, (CU_16.out.below fb).c1, (CU_16.out.below fb).c2, (CV_16.out.below fb).c0, (CV_16.out.below fb).c1, (CV_16.out.below fb).c2⟩
            clear hK K
            try simp only [Act.put, List.setIfInBounds_toArray, List.set_cons_zero, List.set_cons_succ]
            refine wpAnyH_take (i := 27) (oi := { dst := some 132, op := Op.binOp BinOp.neq 3 (Operand.tmp 123) (Operand.tmp 131) 3, type := 4, pos := "laws.go:306", after := #[{ on := 18, ground := Ground.data }, { on := 26, ground := Ground.data }, { on := 15, ground := Ground.guard }], guard := some (15, true) }) (v := ?_) rfl (by kernel_rfl) (by kernel_rfl) (by kernel_rfl) (fun _ _ _ h => h) (Or.inl ⟨by rfl, ?_⟩) (by assumption) ?_
            rotate_left
            focus (intro w hSw; (try dsimp only at hSw); first | (go_simp; done) | (go_simp; with_reducible rfl))
            try simp only [Act.put, List.setIfInBounds_toArray, List.set_cons_zero, List.set_cons_succ]
            refine wpAnyH_take (i := 28) (oi := { dst := some 133, op := Op.pick (Operand.tmp 120) (Operand.tmp 132) (Operand.const (Value.bool false)), type := 4, pos := "laws.go:306", after := #[{ on := 15, ground := Ground.data }, { on := 27, ground := Ground.data }, { on := 9, ground := Ground.guard }], guard := some (9, false) }) (v := ?_) rfl (by kernel_rfl) (by kernel_rfl) (by kernel_rfl) (fun _ _ _ h => h) (Or.inl ⟨by rfl, ?_⟩) (by assumption) ?_
            rotate_left
            focus (intro w hSw; (try dsimp only at hSw); first | (go_simp; done) | (go_simp; with_reducible rfl))
            try simp only [Act.put, List.setIfInBounds_toArray, List.set_cons_zero, List.set_cons_succ]
            refine wpAnyH_take (i := 29) (oi := { dst := some 134, op := Op.pick (Operand.tmp 114) (Operand.const (Value.bool true)) (Operand.tmp 133), type := 4, pos := "laws.go:306", after := #[{ on := 9, ground := Ground.data }, { on := 28, ground := Ground.data }], guard := none }) (v := ?_) rfl (by kernel_rfl) (by kernel_rfl) (by kernel_rfl) (fun _ _ _ h => h) (Or.inl ⟨by rfl, ?_⟩) (by assumption) ?_
            rotate_left
            focus (intro w hSw; (try dsimp only at hSw); first | (go_simp; done) | (go_simp; with_reducible rfl))
            try simp only [Act.put, List.setIfInBounds_toArray, List.set_cons_zero, List.set_cons_succ]
            refine wpAnyH_done (by kernel_rfl) ?_ _
            go_wp2_with fail
            go_meet
            exact ⟨rfl, fb⟩
          · have hd2 := decide_eq_false hn2
            have fb := below_drew' W16
            refine wp_region_held_drew (S := (fun w' => w'.cell? ⟨W11.heap.size, 0, none⟩ = some (.int .i64 b1) ∧ w'.cell? ⟨W11.heap.size, 1, none⟩ = some (.slice anp rows1.length cnp) ∧ w'.cell? ⟨W11.heap.size, 2, none⟩ = some (.slice aop out1.length cop) ∧ w'.cell? ⟨W13.heap.size, 0, none⟩ = some (.int .i64 yb) ∧ w'.cell? ⟨W13.heap.size, 1, none⟩ = some (.slice anu yr.length cnu) ∧ w'.cell? ⟨W13.heap.size, 2, none⟩ = some (.slice aou yo.length cou) ∧ w'.cell? ⟨W15.heap.size, 0, none⟩ = some (.int .i64 yb) ∧ w'.cell? ⟨W15.heap.size, 1, none⟩ = some (.slice anv yr.length cnv) ∧ w'.cell? ⟨W15.heap.size, 2, none⟩ = some (.slice aov yo.length cov))) (by kernel_rfl) ?_ (fun hHeld => ?_)
            · exact ⟨(CP_16.out.below fb).c0, (CP_16.out.below fb).c1, (CP_16.out.below fb).c2, (CU_16.out.below fb).c0, (CU_16.out.below fb).c1, (CU_16.out.below fb).c2, (CV_16.out.below fb).c0, (CV_16.out.below fb).c1, (CV_16.out.below fb).c2⟩
            refine wpAnyH_take (i := 0) (oi := { dst := some 105, op := Op.move (Operand.tmp 16), type := 4, pos := "laws.go:306", after := #[], guard := none }) (v := ?_) rfl (by kernel_rfl) (by kernel_rfl) (by kernel_rfl) (fun _ _ _ h => h) (Or.inl ⟨by rfl, ?_⟩) (by assumption) ?_
            rotate_left
            focus (intro w hSw; (try dsimp only at hSw); first | (go_simp; done) | (go_simp; with_reducible rfl))
            try simp only [Act.put, List.setIfInBounds_toArray, List.set_cons_zero, List.set_cons_succ]
            refine wpAnyH_take (i := 1) (oi := { dst := some 106, op := Op.move (Operand.tmp 18), type := 4, pos := "laws.go:306", after := #[], guard := none }) (v := ?_) rfl (by kernel_rfl) (by kernel_rfl) (by kernel_rfl) (fun _ _ _ h => h) (Or.inl ⟨by rfl, ?_⟩) (by assumption) ?_
            rotate_left
            focus (intro w hSw; (try dsimp only at hSw); first | (go_simp; done) | (go_simp; with_reducible rfl))
            try simp only [Act.put, List.setIfInBounds_toArray, List.set_cons_zero, List.set_cons_succ]
            refine wpAnyH_take (i := 2) (oi := { dst := some 107, op := Op.binOp BinOp.neq 4 (Operand.tmp 105) (Operand.tmp 106) 4, type := 4, pos := "laws.go:306", after := #[{ on := 0, ground := Ground.data }, { on := 1, ground := Ground.data }], guard := none }) (v := ?_) rfl (by kernel_rfl) (by kernel_rfl) (by kernel_rfl) (fun _ _ _ h => h) (Or.inl ⟨by rfl, ?_⟩) (by assumption) ?_
            rotate_left
            focus (intro w hSw; (try dsimp only at hSw); first | (go_simp; done) | (go_simp; with_reducible rfl))
            try simp only [Act.put, List.setIfInBounds_toArray, List.set_cons_zero, List.set_cons_succ]
            refine wpAnyH_take (i := 3) (oi := { dst := some 108, op := Op.move (Operand.tmp 107), type := 4, pos := "laws.go:306", after := #[{ on := 2, ground := Ground.data }], guard := none }) (v := ?_) rfl (by kernel_rfl) (by kernel_rfl) (by kernel_rfl) (fun _ _ _ h => h) (Or.inl ⟨by rfl, ?_⟩) (by assumption) ?_
            rotate_left
            focus (intro w hSw; (try dsimp only at hSw); first | (go_simp; done) | (go_simp; with_reducible rfl))
            try simp only [Act.put, List.setIfInBounds_toArray, List.set_cons_zero, List.set_cons_succ]
            refine wpAnyH_take (i := 4) (oi := { dst := some 109, op := Op.load 27 (Operand.tmp 15), type := 27, pos := "laws.go:306", after := #[{ on := 3, ground := Ground.guard }], guard := some (3, false) }) (v := ?_) rfl (by kernel_rfl) (by kernel_rfl) (by kernel_rfl) (fun _ _ _ h => h) (Or.inl ⟨by rfl, ?_⟩) (by assumption) ?_
            rotate_left
            focus (intro w hSw; (try dsimp only at hSw); first | (go_simp; done) | (go_simp; with_reducible rfl))
            try simp only [Act.put, List.setIfInBounds_toArray, List.set_cons_zero, List.set_cons_succ]
            refine wpAnyH_take (i := 5) (oi := { dst := some 110, op := Op.load 27 (Operand.tmp 17), type := 27, pos := "laws.go:306", after := #[{ on := 3, ground := Ground.guard }], guard := some (3, false) }) (v := ?_) rfl (by kernel_rfl) (by kernel_rfl) (by kernel_rfl) (fun _ _ _ h => h) (Or.inl ⟨by rfl, ?_⟩) (by assumption) ?_
            rotate_left
            focus (intro w hSw; (try dsimp only at hSw); first | (go_simp; done) | (go_simp; with_reducible rfl))
            try simp only [Act.put, List.setIfInBounds_toArray, List.set_cons_zero, List.set_cons_succ]
            refine wpAnyH_ready (rs := [6]) (by kernel_rfl) (by simp) ?_
            refine AllReadyH.cons (o := { dst := some 111, op := Op.call { callee := Callee.value (Operand.func 14), args := #[Operand.tmp 109, Operand.tmp 110], argTypes := #[27, 27] }, type := 4, pos := "laws.go:306", after := #[{ on := 4, ground := Ground.data }, { on := 5, ground := Ground.data }, { on := 3, ground := Ground.chain }, { on := 3, ground := Ground.guard }], guard := some (3, false) }) rfl (fun K hK => ?_) AllReadyH.nil
            go_simp
            go_at_call 14
            refine (equal_own _ _ yb yr yo _ (Ru_16.out.below fb).lies (Rv_16.out.below fb).lies).mono ?_
            rintro e Wn ⟨rfl, fbn⟩
            replace fb := fb.trans (fbn.mono fb.size)
            refine hK.out _ _ ?_ (fun hHeld => ?_)
            · exact ⟨(CP_16.out.below fb).c0, (CP_16.out.below fb).c1, (CP_16.out.below fb).c2, (CU_16.out.below fb).c0, (CU_16.out.below fb).c1, (CU_16.out.below fb).c2, (CV_16.out.below fb).c0, (CV_16.out.below fb).c1, (CV_16.out.below fb).c2⟩
            clear hK K
            try simp only [Act.put, List.setIfInBounds_toArray, List.set_cons_zero, List.set_cons_succ]
            refine wpAnyH_take (i := 7) (oi := { dst := some 112, op := Op.unOp UnOp.not 4 (Operand.tmp 111), type := 4, pos := "laws.go:306", after := #[{ on := 6, ground := Ground.data }, { on := 3, ground := Ground.guard }], guard := some (3, false) }) (v := ?_) rfl (by kernel_rfl) (by kernel_rfl) (by kernel_rfl) (fun _ _ _ h => h) (Or.inl ⟨by rfl, ?_⟩) (by assumption) ?_
            rotate_left
            focus (intro w hSw; (try dsimp only at hSw); first | (go_simp; done) | (go_simp; with_reducible rfl))
            try simp only [Act.put, List.setIfInBounds_toArray, List.set_cons_zero, List.set_cons_succ]
            refine wpAnyH_take (i := 8) (oi := { dst := some 113, op := Op.pick (Operand.tmp 108) (Operand.const (Value.bool true)) (Operand.tmp 112), type := 4, pos := "laws.go:306", after := #[{ on := 3, ground := Ground.data }, { on := 7, ground := Ground.data }], guard := none }) (v := ?_) rfl (by kernel_rfl) (by kernel_rfl) (by kernel_rfl) (fun _ _ _ h => h) (Or.inl ⟨by rfl, ?_⟩) (by assumption) ?_
            rotate_left
            focus (intro w hSw; (try dsimp only at hSw); first | (go_simp; done) | (go_simp; with_reducible rfl))
            try simp only [Act.put, List.setIfInBounds_toArray, List.set_cons_zero, List.set_cons_succ]
            refine wpAnyH_take (i := 9) (oi := { dst := some 114, op := Op.move (Operand.tmp 113), type := 4, pos := "laws.go:306", after := #[{ on := 8, ground := Ground.data }, { on := 6, ground := Ground.chain }], guard := none }) (v := ?_) rfl (by kernel_rfl) (by kernel_rfl) (by kernel_rfl) (fun _ _ _ h => h) (Or.inl ⟨by rfl, ?_⟩) (by assumption) ?_
            rotate_left
            focus (intro w hSw; (try dsimp only at hSw); first | (go_simp; done) | (go_simp; with_reducible rfl))
            try simp only [Act.put, List.setIfInBounds_toArray, List.set_cons_zero, List.set_cons_succ]
            refine wpAnyH_take (i := 10) (oi := { dst := some 115, op := Op.move (Operand.tmp 16), type := 4, pos := "laws.go:306", after := #[{ on := 9, ground := Ground.guard }], guard := some (9, false) }) (v := ?_) rfl (by kernel_rfl) (by kernel_rfl) (by kernel_rfl) (fun _ _ _ h => h) (Or.inl ⟨by rfl, ?_⟩) (by assumption) ?_
            rotate_left
            focus (intro w hSw; (try dsimp only at hSw); first | (go_simp; done) | (go_simp; with_reducible rfl))
            try simp only [Act.put, List.setIfInBounds_toArray, List.set_cons_zero, List.set_cons_succ]
            refine wpAnyH_take (i := 11) (oi := { dst := some 116, op := Op.move (Operand.tmp 115), type := 4, pos := "laws.go:306", after := #[{ on := 10, ground := Ground.data }, { on := 9, ground := Ground.chain }, { on := 9, ground := Ground.guard }], guard := some (9, false) }) (v := ?_) rfl (by kernel_rfl) (by kernel_rfl) (by kernel_rfl) (fun _ _ _ h => h) (Or.inl ⟨by rfl, ?_⟩) (by assumption) ?_
            rotate_left
            focus (intro w hSw; (try dsimp only at hSw); first | (go_simp; done) | (go_simp; with_reducible rfl))
            try simp only [Act.put, List.setIfInBounds_toArray, List.set_cons_zero, List.set_cons_succ]
            refine wpAnyH_take (i := 12) (oi := { dst := some 117, op := Op.move (Operand.tmp 12), type := 3, pos := "laws.go:306", after := #[{ on := 11, ground := Ground.guard }], guard := some (11, true) }) (v := ?_) rfl (by kernel_rfl) (by kernel_rfl) (by kernel_rfl) (fun _ _ _ h => h) (Or.inl ⟨by rfl, ?_⟩) (by assumption) ?_
            rotate_left
            focus (intro w hSw; (try dsimp only at hSw); first | (go_simp; done) | (go_simp; with_reducible rfl))
            try simp only [Act.put, List.setIfInBounds_toArray, List.set_cons_zero, List.set_cons_succ]
            refine wpAnyH_take (i := 13) (oi := { dst := some 118, op := Op.binOp BinOp.lss 3 (Operand.tmp 117) (Operand.const (Value.int IntKind.i64 2000)) 3, type := 4, pos := "laws.go:306", after := #[{ on := 12, ground := Ground.data }, { on := 11, ground := Ground.guard }], guard := some (11, true) }) (v := ?_) rfl (by kernel_rfl) (by kernel_rfl) (by kernel_rfl) (fun _ _ _ h => h) (Or.inl ⟨by rfl, ?_⟩) (by assumption) ?_
            rotate_left
            focus (intro w hSw; (try dsimp only at hSw); first | (go_simp; done) | (go_simp; with_reducible rfl))
            try simp only [Act.put, List.setIfInBounds_toArray, List.set_cons_zero, List.set_cons_succ]
            refine wpAnyH_take (i := 14) (oi := { dst := some 119, op := Op.pick (Operand.tmp 116) (Operand.tmp 118) (Operand.const (Value.bool false)), type := 4, pos := "laws.go:306", after := #[{ on := 11, ground := Ground.data }, { on := 13, ground := Ground.data }, { on := 9, ground := Ground.guard }], guard := some (9, false) }) (v := ?_) rfl (by kernel_rfl) (by kernel_rfl) (by kernel_rfl) (fun _ _ _ h => h) (Or.inl ⟨by rfl, ?_⟩) (by assumption) ?_
            rotate_left
            focus (intro w hSw; (try dsimp only at hSw); first | (go_simp; done) | (go_simp; with_reducible rfl))
            try simp only [Act.put, List.setIfInBounds_toArray, List.set_cons_zero, List.set_cons_succ]
            refine wpAnyH_take (i := 15) (oi := { dst := some 120, op := Op.move (Operand.tmp 119), type := 4, pos := "laws.go:306", after := #[{ on := 14, ground := Ground.data }, { on := 11, ground := Ground.chain }, { on := 9, ground := Ground.guard }], guard := some (9, false) }) (v := ?_) rfl (by kernel_rfl) (by kernel_rfl) (by kernel_rfl) (fun _ _ _ h => h) (Or.inl ⟨by rfl, ?_⟩) (by assumption) ?_
            rotate_left
            focus (intro w hSw; (try dsimp only at hSw); first | (go_simp; done) | (go_simp; with_reducible rfl))
            try simp only [Act.put, List.setIfInBounds_toArray, List.set_cons_zero, List.set_cons_succ]
            refine wpAnyH_take (i := 16) (oi := { dst := some 121, op := Op.load 27 (Operand.tmp 17), type := 27, pos := "laws.go:306", after := #[{ on := 15, ground := Ground.guard }], guard := some (15, true) }) (v := undef) rfl (by kernel_rfl) (by kernel_rfl) (by kernel_rfl) (fun _ _ _ h => h) (Or.inr ⟨by rfl, rfl⟩) (by assumption) ?_
            try simp only [Act.put, List.setIfInBounds_toArray, List.set_cons_zero, List.set_cons_succ]
            refine wpAnyH_take (i := 17) (oi := { dst := some 122, op := Op.move (Operand.tmp 12), type := 3, pos := "laws.go:306", after := #[{ on := 15, ground := Ground.guard }], guard := some (15, true) }) (v := undef) rfl (by kernel_rfl) (by kernel_rfl) (by kernel_rfl) (fun _ _ _ h => h) (Or.inr ⟨by rfl, rfl⟩) (by assumption) ?_
            try simp only [Act.put, List.setIfInBounds_toArray, List.set_cons_zero, List.set_cons_succ]
            refine wpAnyH_take (i := 18) (oi := { dst := some 123, op := Op.call { callee := Callee.value (Operand.func 20), args := #[Operand.tmp 121, Operand.tmp 122], argTypes := #[27, 3] }, type := 3, pos := "laws.go:306", after := #[{ on := 16, ground := Ground.data }, { on := 17, ground := Ground.data }, { on := 15, ground := Ground.chain }, { on := 15, ground := Ground.guard }], guard := some (15, true) }) (v := undef) rfl (by kernel_rfl) (by kernel_rfl) (by kernel_rfl) (fun _ _ _ h => h) (Or.inr ⟨by rfl, rfl⟩) (by assumption) ?_
            try simp only [Act.put, List.setIfInBounds_toArray, List.set_cons_zero, List.set_cons_succ]
            refine wpAnyH_take (i := 19) (oi := { dst := some 124, op := Op.load 27 (Operand.tmp 13), type := 27, pos := "laws.go:306", after := #[{ on := 15, ground := Ground.guard }], guard := some (15, true) }) (v := undef) rfl (by kernel_rfl) (by kernel_rfl) (by kernel_rfl) (fun _ _ _ h => h) (Or.inr ⟨by rfl, rfl⟩) (by assumption) ?_
            try simp only [Act.put, List.setIfInBounds_toArray, List.set_cons_zero, List.set_cons_succ]
            refine wpAnyH_take (i := 20) (oi := { dst := some 125, op := Op.fieldAddr 27 (Operand.tmp 13) 0, type := 0, pos := "laws.go:306", after := #[{ on := 15, ground := Ground.guard }], guard := some (15, true) }) (v := undef) rfl (by kernel_rfl) (by kernel_rfl) (by kernel_rfl) (fun _ _ _ h => h) (Or.inr ⟨by rfl, rfl⟩) (by assumption) ?_
            try simp only [Act.put, List.setIfInBounds_toArray, List.set_cons_zero, List.set_cons_succ]
            refine wpAnyH_take (i := 21) (oi := { dst := some 126, op := Op.load 3 (Operand.tmp 125), type := 3, pos := "laws.go:306", after := #[{ on := 20, ground := Ground.data }, { on := 15, ground := Ground.guard }], guard := some (15, true) }) (v := undef) rfl (by kernel_rfl) (by kernel_rfl) (by kernel_rfl) (fun _ _ _ h => h) (Or.inr ⟨by rfl, rfl⟩) (by assumption) ?_
            try simp only [Act.put, List.setIfInBounds_toArray, List.set_cons_zero, List.set_cons_succ]
            refine wpAnyH_take (i := 22) (oi := { dst := some 127, op := Op.move (Operand.tmp 12), type := 3, pos := "laws.go:306", after := #[{ on := 15, ground := Ground.guard }], guard := some (15, true) }) (v := undef) rfl (by kernel_rfl) (by kernel_rfl) (by kernel_rfl) (fun _ _ _ h => h) (Or.inr ⟨by rfl, rfl⟩) (by assumption) ?_
            try simp only [Act.put, List.setIfInBounds_toArray, List.set_cons_zero, List.set_cons_succ]
            refine wpAnyH_take (i := 23) (oi := { dst := some 128, op := Op.binOp BinOp.mul 3 (Operand.tmp 126) (Operand.tmp 127) 3, type := 3, pos := "laws.go:306", after := #[{ on := 21, ground := Ground.data }, { on := 22, ground := Ground.data }, { on := 15, ground := Ground.guard }], guard := some (15, true) }) (v := undef) rfl (by kernel_rfl) (by kernel_rfl) (by kernel_rfl) (fun _ _ _ h => h) (Or.inr ⟨by rfl, rfl⟩) (by assumption) ?_
            try simp only [Act.put, List.setIfInBounds_toArray, List.set_cons_zero, List.set_cons_succ]
            refine wpAnyH_take (i := 24) (oi := { dst := some 129, op := Op.move (Operand.tmp 14), type := 3, pos := "laws.go:306", after := #[{ on := 15, ground := Ground.guard }], guard := some (15, true) }) (v := undef) rfl (by kernel_rfl) (by kernel_rfl) (by kernel_rfl) (fun _ _ _ h => h) (Or.inr ⟨by rfl, rfl⟩) (by assumption) ?_
            try simp only [Act.put, List.setIfInBounds_toArray, List.set_cons_zero, List.set_cons_succ]
            refine wpAnyH_take (i := 25) (oi := { dst := some 130, op := Op.binOp BinOp.add 3 (Operand.tmp 128) (Operand.tmp 129) 3, type := 3, pos := "laws.go:306", after := #[{ on := 23, ground := Ground.data }, { on := 24, ground := Ground.data }, { on := 15, ground := Ground.guard }], guard := some (15, true) }) (v := undef) rfl (by kernel_rfl) (by kernel_rfl) (by kernel_rfl) (fun _ _ _ h => h) (Or.inr ⟨by rfl, rfl⟩) (by assumption) ?_
            try simp only [Act.put, List.setIfInBounds_toArray, List.set_cons_zero, List.set_cons_succ]
            refine wpAnyH_take (i := 26) (oi := { dst := some 131, op := Op.call { callee := Callee.value (Operand.func 16), args := #[Operand.tmp 124, Operand.tmp 130], argTypes := #[27, 3] }, type := 3, pos := "laws.go:306", after := #[{ on := 19, ground := Ground.data }, { on := 25, ground := Ground.data }, { on := 18, ground := Ground.chain }, { on := 15, ground := Ground.guard }], guard := some (15, true) }) (v := undef) rfl (by kernel_rfl) (by kernel_rfl) (by kernel_rfl) (fun _ _ _ h => h) (Or.inr ⟨by rfl, rfl⟩) (by assumption) ?_
            try simp only [Act.put, List.setIfInBounds_toArray, List.set_cons_zero, List.set_cons_succ]
            refine wpAnyH_take (i := 27) (oi := { dst := some 132, op := Op.binOp BinOp.neq 3 (Operand.tmp 123) (Operand.tmp 131) 3, type := 4, pos := "laws.go:306", after := #[{ on := 18, ground := Ground.data }, { on := 26, ground := Ground.data }, { on := 15, ground := Ground.guard }], guard := some (15, true) }) (v := undef) rfl (by kernel_rfl) (by kernel_rfl) (by kernel_rfl) (fun _ _ _ h => h) (Or.inr ⟨by rfl, rfl⟩) (by assumption) ?_
            try simp only [Act.put, List.setIfInBounds_toArray, List.set_cons_zero, List.set_cons_succ]
            refine wpAnyH_take (i := 28) (oi := { dst := some 133, op := Op.pick (Operand.tmp 120) (Operand.tmp 132) (Operand.const (Value.bool false)), type := 4, pos := "laws.go:306", after := #[{ on := 15, ground := Ground.data }, { on := 27, ground := Ground.data }, { on := 9, ground := Ground.guard }], guard := some (9, false) }) (v := ?_) rfl (by kernel_rfl) (by kernel_rfl) (by kernel_rfl) (fun _ _ _ h => h) (Or.inl ⟨by rfl, ?_⟩) (by assumption) ?_
            rotate_left
            focus (intro w hSw; (try dsimp only at hSw); first | (go_simp; done) | (go_simp; with_reducible rfl))
            try simp only [Act.put, List.setIfInBounds_toArray, List.set_cons_zero, List.set_cons_succ]
            refine wpAnyH_take (i := 29) (oi := { dst := some 134, op := Op.pick (Operand.tmp 114) (Operand.const (Value.bool true)) (Operand.tmp 133), type := 4, pos := "laws.go:306", after := #[{ on := 9, ground := Ground.data }, { on := 28, ground := Ground.data }], guard := none }) (v := ?_) rfl (by kernel_rfl) (by kernel_rfl) (by kernel_rfl) (fun _ _ _ h => h) (Or.inl ⟨by rfl, ?_⟩) (by assumption) ?_
            rotate_left
            focus (intro w hSw; (try dsimp only at hSw); first | (go_simp; done) | (go_simp; with_reducible rfl))
            try simp only [Act.put, List.setIfInBounds_toArray, List.set_cons_zero, List.set_cons_succ]
            refine wpAnyH_done (by kernel_rfl) ?_ _
            go_wp2_with fail
            go_meet
            exact ⟨rfl, fb⟩
      case rest =>
        obtain ⟨rfl, bw17⟩ := hcut
        obtain ⟨W17, rfl⟩ : ∃ W, W = wc := ⟨_, rfl⟩
        have bw := bw17.out
        have HB_17 := Lib.hid (HB_16.out.trans (bw.mono HB_16.out.size))
        have CP_17 := Lib.hid (CP_16.out.below bw)
        have CU_17 := Lib.hid (CU_16.out.below bw)
        have CV_17 := Lib.hid (CV_16.out.below bw)
        have Rp_17 := Lib.hid (Rp_16.out.below bw)
        have Ru_17 := Lib.hid (Ru_16.out.below bw)
        have Rv_17 := Lib.hid (Rv_16.out.below bw)
        have Z23 := Lib.hid (bw.size)
        clear CP_16 CU_16 CV_16 Rp_16 Ru_16 Rv_16 HB_16 bw17 bw
        clear Rp_17 Ru_17 Rv_17 CP_17 CU_17 CV_17
        have CV3 := Lib.hid (Cursor.code_next HC.out HB_17.out)
        go_wp2_with fail
        refine (Cursor.drawLeast W17 a len cap hlen CV3.out).mono ?_
        rintro e W18 ⟨va, b2, rows2, out2, k, hok2, hk2, rfl, h18, fb18⟩
        have HB_18 := Lib.hid (HB_17.out.trans (fb18.mono HB_17.out.size))
        have Z24 := Lib.hid (fb18.size)
        have Ra_18 := Lib.hid h18
        clear HB_17 fb18 h18
        clear hok2 hk2
        have CLI := Lib.hid (fun (W : World) (u : Value) (l : LiesS W u b2 rows2 out2) => impl_least u b2 rows2 out2 W l k)
        have CLS := Lib.hid (fun (W : World) (u : Value) (l : LiesS W u b2 rows2 out2) => spec_least u b2 rows2 out2 W l k)
        obtain ⟨lv, hlv⟩ : ∃ t, t = leastV b2 rows2 out2 k := ⟨_, rfl⟩
        rw [← hlv] at CLI CLS
        clear hlv
        have hll : (lv == lv) = true := by simp
        obtain ⟨ana, cna, aoa, coa, rfl⟩ := Ra_18.out.form
        go_wp2_with fail
        have bx19 : Below W18.heap.size W18 (W18.alloc (Obj.cells #[.int .i64 b2, .slice ana rows2.length cna, .slice aoa out2.length coa] 27)) := (Below.refl _ _).alloc (Nat.le_refl _) _
        have cx19 := Cells3.new W18 27 (.int .i64 b2) (.slice ana rows2.length cna) (.slice aoa out2.length coa)
        have hz19 : (W18.alloc (Obj.cells #[.int .i64 b2, .slice ana rows2.length cna, .slice aoa out2.length coa] 27)).heap.size = W18.heap.size + 1 := size_alloc' _ _
        obtain ⟨W19, hW19⟩ : ∃ W, W = (W18.alloc (Obj.cells #[.int .i64 b2, .slice ana rows2.length cna, .slice aoa out2.length coa] 27)) := ⟨_, rfl⟩
        rw [← hW19] at bx19 cx19 hz19 ⊢
        have HB_19 := Lib.hid (HB_18.out.trans (bx19.mono HB_18.out.size))
        have Ra_19 := Lib.hid (Ra_18.out.below bx19)
        have Z25 := Lib.hid (bx19.size)
        have CA_19 := Lib.hid cx19
        have Z26 := Lib.hid hz19
        clear Ra_18 HB_18 bx19 hW19 cx19
        clear hz19
        have fb := below_drew' W19
        obtain ⟨Wd, hWd⟩ : ∃ W, W = W19.drew := ⟨_, rfl⟩
        rw [← hWd] at fb
        go_region_held3 (fun w' => w'.cell? ⟨W18.heap.size, 0, none⟩ = some (.int .i64 b2) ∧ w'.cell? ⟨W18.heap.size, 1, none⟩ = some (.slice ana rows2.length cna) ∧ w'.cell? ⟨W18.heap.size, 2, none⟩ = some (.slice aoa out2.length coa))
          (first | (rw [← hWd]; exact ⟨(CA_19.out.below fb).c0, (CA_19.out.below fb).c1, (CA_19.out.below fb).c2⟩) | exact ⟨(CA_19.out.below fb).c0, (CA_19.out.below fb).c1, (CA_19.out.below fb).c2⟩)
          (first | (go_at_call 15; (try rw [← hWd]); refine (CLI.out _ _ (Ra_19.out.below fb).lies).mono ?_; rintro e Wn ⟨rfl, fbn⟩; replace fb := fb.trans (fbn.mono fb.size)) | (go_at_call 22; (try rw [← hWd]); refine (CLS.out _ _ (Ra_19.out.below fb).lies).mono ?_; rintro e Wn ⟨rfl, fbn⟩; replace fb := fb.trans (fbn.mono fb.size)))
        all_goals
          go_wp2
          go_ret
          exact ⟨rfl, HB_19.out.trans (fb.mono HB_19.out.size)⟩
end Kern
end Go.Proofs.Ytdgfecjakmdheaa
