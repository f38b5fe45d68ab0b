/- The walk of the law on combinations: it returns true for every code of bytes. No conditions beyond those that it states. -/
import Derived.Test.YtodnkkofammhbaaCM9
import Derived.Test.YtodnkkofammhbaaCM2
import Derived.Test.YtodnkkofammhbaaCM3
import Derived.Test.YtodnkkofammhbaaCM7
import Derived.Test.YtodnkkofammhbaaCM8
import Derived.Test.YtodnkkofammhbaaCM6
import Derived.Test.YtodnkkofammhbaaCM5
import Derived.Deep.DeepCutAuto
import Derived.Deep.RegionHeld3
namespace Go.Proofs.Ytodnkkofammhbaa
open Go.ChangeShapes Go.WideShapes Go.ChangeAt Go.RowKit
open Go.PlainAid Plain
set_option linter.unusedVariables false
namespace Comb
open Seqs Digits Ints Cursor Mins
theorem tot_few4 : ∀ {rows : List (List Int)}, (∀ r ∈ rows, r.length ≤ 4) → tot rows ≤ 4 * rows.length
  | [], _ => by simp [tot]
  | r :: rows, h => by
    have h1 := h r (by simp)
    have h2 := tot_few4 (rows := rows) fun q hq => h q (by simp [hq])
    have h3 : tot (r :: rows) = r.length + tot rows := by simp [tot]
    rw [h3, List.length_cons]
    omega
theorem ok_size {rows : List (List Int)} {out : List Int} (h : Cursor.SeqOk rows out) : rows.length + tot rows + out.length ≤ 1048576 := by
  have h1 := tot_few4 (rows := rows) fun r hr => (h.2.2.2 r hr).2
  have h2 := h.2.1
  have h3 := h.2.2.1
  omega
theorem equal_own (u v : Value) (b : Int) (rows : List (List Int)) (out : List Int) (w : World) (h1 : LiesS w u b rows out) (h2 : LiesS w v b rows out) :
    Calls Try.prog 8 #[u, v] w fun e w' => e = .returned (.bool true) ∧ Below w.heap.size w w' :=
  (spec_equal u v b b rows rows out out w h1 h2).mono fun _ _ ⟨he, hb⟩ => ⟨by rw [he]; simp [sameB], hb⟩
theorem sum_nonneg {k m n : Int} (h : true = dgK k m) (h0 : 0 ≤ n) : 0 ≤ sumD (digV n k) := by
  have hd := of_decide_eq_true h.symm
  obtain ⟨bn, rfl⟩ : ∃ j : Nat, k = (j : Int) := ⟨k.toNat, by omega⟩
  have h2 := (sumD_bd bn (digV n (bn : Int)).length (digV n (bn : Int)) (Nat.le_refl _) (fun x hx => dig_lt n x hx)).1
  rwa [List.take_length] at h2
theorem tab_cell {w : World} {base g n c i : Nat} {xs : List Int} {y : Int} (h : Has (Value.int .i64) 3 w base (.slice (some ⟨g, 0, none⟩) n c) xs) (hy : xs[i]? = some y) : w.cell? ⟨g, i, none⟩ = some (.int .i64 y) := by
  obtain ⟨_, a', c', hv, _, hc⟩ := h.lies
  injection hv with e1 e2 e3
  obtain ⟨b, off, he, hcell⟩ := hc i y hy
  rw [← e1] at he
  injection he with he
  injection he with h1 h2
  subst h1; subst h2
  rwa [Nat.zero_add] at hcell
set_option maxRecDepth 100000 in
set_option maxHeartbeats 8000000 in
theorem walk (w : World) (a : Option Addr) (len cap : Nat) (hlen : len ≤ 1048576) (hcode : Cursor.CodeIs w w.heap.size a len) :
    Calls Try.prog 3 #[.slice a len cap] w fun e w' => e = .returned (.bool true) ∧ Below w.heap.size w w' := by
  have HC := Lib.hid hcode
  clear hcode
  have HB_0 : Hid (Below w.heap.size w w) := Below.refl _ _
  go_enter Try.func3, Try.ntmps3
  go_wp2_with fail
  refine (Cursor.big_no w a len cap hlen).mono ?_
  rintro e W' ⟨rfl, rfl⟩
  go_wp2_with fail
  refine (Cursor.drawCombT w a len cap hlen HC.out).mono ?_
  rintro e W1 ⟨va, b0, rows0, out0, vb, b1, rows1, out1, how, hok0, hok1, ⟨how0, how5⟩, rfl, ha, h1, fb1⟩
  have HB_1 := Lib.hid (HB_0.out.trans (fb1.mono HB_0.out.size))
  have Z1 := Lib.hid (fb1.size)
  have Rb_1 := Lib.hid h1
  clear HB_0 fb1 h1
  have Ra_1 := Lib.hid ha
  clear ha hok0 hok1
  have CI := Lib.hid (fun (W : World) (u v : Value) (l : LiesS W u b0 rows0 out0) (k : LiesS W v b1 rows1 out1) => impl_comb u v b0 b1 rows0 rows1 out0 out1 how W l k)
  have CS := Lib.hid (fun (W : World) (u v : Value) (l : LiesS W u b0 rows0 out0) (k : LiesS W v b1 rows1 out1) => spec_comb u v b0 b1 rows0 rows1 out0 out1 how W l k)
  have HCL := Lib.hid (fun h : cmK b0 b1 rows0 rows1 out0 out1 how = true => comb_law h)
  obtain ⟨xk, hxk⟩ : ∃ y, y = cmK b0 b1 rows0 rows1 out0 out1 how := ⟨_, rfl⟩
  obtain ⟨xr, hxr⟩ : ∃ y, y = cmR b0 b1 rows0 rows1 out0 out1 how := ⟨_, rfl⟩
  obtain ⟨xo, hxo⟩ : ∃ y, y = cmO b0 b1 rows0 rows1 out0 out1 how := ⟨_, rfl⟩
  obtain ⟨xb, hxb⟩ : ∃ y, y = cmB b0 b1 rows0 rows1 out0 out1 how := ⟨_, rfl⟩
  rw [← hxb, ← hxr, ← hxo, ← hxk] at CI CS HCL
  have hkk : (xk != xk) = false := by simp
  clear hxb hxr hxo hxk
  obtain ⟨ana, cna, aoa, coa, rfl⟩ := Ra_1.out.form
  obtain ⟨anb, cnb, aob, cob, rfl⟩ := Rb_1.out.form
  go_wp2_with fail
  have bx2 : Below W1.heap.size W1 (W1.alloc (Obj.cells #[.int .i64 b0, .slice ana rows0.length cna, .slice aoa out0.length coa] 27)) := (Below.refl _ _).alloc (Nat.le_refl _) _
  have cx2 := Cells3.new W1 27 (.int .i64 b0) (.slice ana rows0.length cna) (.slice aoa out0.length coa)
  have hz2 : (W1.alloc (Obj.cells #[.int .i64 b0, .slice ana rows0.length cna, .slice aoa out0.length coa] 27)).heap.size = W1.heap.size + 1 := size_alloc' _ _
  obtain ⟨W2, hW2⟩ : ∃ W, W = (W1.alloc (Obj.cells #[.int .i64 b0, .slice ana rows0.length cna, .slice aoa out0.length coa] 27)) := ⟨_, rfl⟩
  rw [← hW2] at bx2 cx2 hz2 ⊢
  have HB_2 := Lib.hid (HB_1.out.trans (bx2.mono HB_1.out.size))
  have Rb_2 := Lib.hid (Rb_1.out.below bx2)
  have Ra_2 := Lib.hid (Ra_1.out.below bx2)
  have Z2 := Lib.hid (bx2.size)
  have CA_2 := Lib.hid cx2
  have Z3 := Lib.hid hz2
  clear Rb_1 Ra_1 HB_1 bx2 hW2 cx2
  have bx3 : Below W2.heap.size W2 (W2.alloc (Obj.cells #[.int .i64 b1, .slice anb rows1.length cnb, .slice aob out1.length cob] 27)) := (Below.refl _ _).alloc (Nat.le_refl _) _
  have cx3 := Cells3.new W2 27 (.int .i64 b1) (.slice anb rows1.length cnb) (.slice aob out1.length cob)
  have hz3 : (W2.alloc (Obj.cells #[.int .i64 b1, .slice anb rows1.length cnb, .slice aob out1.length cob] 27)).heap.size = W2.heap.size + 1 := size_alloc' _ _
  obtain ⟨W3, hW3⟩ : ∃ W, W = (W2.alloc (Obj.cells #[.int .i64 b1, .slice anb rows1.length cnb, .slice aob out1.length cob] 27)) := ⟨_, rfl⟩
  rw [← hW3] at bx3 cx3 hz3 ⊢
  rw [hz2] at cx3
  have HB_3 := Lib.hid (HB_2.out.trans (bx3.mono HB_2.out.size))
  have CA_3 := Lib.hid (CA_2.out.below bx3)
  have Rb_3 := Lib.hid (Rb_2.out.below bx3)
  have Ra_3 := Lib.hid (Ra_2.out.below bx3)
  have Z4 := Lib.hid (bx3.size)
  have CB_3 := Lib.hid cx3
  have Z5 := Lib.hid hz3
  clear CA_2 Rb_2 Ra_2 HB_2 bx3 hW3 cx3
  clear hz3 hz2
  refine (CI.out _ _ _ Ra_3.out.lies Rb_3.out.lies).mono ?_
  rintro e W4 ⟨vx, rfl, h4, fb4⟩
  have HB_4 := Lib.hid (HB_3.out.trans (fb4.mono HB_3.out.size))
  have CA_4 := Lib.hid (CA_3.out.below fb4)
  have CB_4 := Lib.hid (CB_3.out.below fb4)
  have Rb_4 := Lib.hid (Rb_3.out.below fb4)
  have Ra_4 := Lib.hid (Ra_3.out.below fb4)
  have Z6 := Lib.hid (fb4.size)
  have Rx_4 := Lib.hid h4
  clear CA_3 CB_3 Rb_3 Ra_3 HB_3 fb4 h4
  obtain ⟨anx, cnx, aox, cox, rfl⟩ := Rx_4.out.form
  have kA0 := (CA_4.out.alloc (Obj.cells #[.int .i64 xb, .slice anx xr.length cnx, .slice aox xo.length cox] 27)).c0
  have kA1 := (CA_4.out.alloc (Obj.cells #[.int .i64 xb, .slice anx xr.length cnx, .slice aox xo.length cox] 27)).c1
  have kA2 := (CA_4.out.alloc (Obj.cells #[.int .i64 xb, .slice anx xr.length cnx, .slice aox xo.length cox] 27)).c2
  have kB0 := (CB_4.out.alloc (Obj.cells #[.int .i64 xb, .slice anx xr.length cnx, .slice aox xo.length cox] 27)).c0
  have kB1 := (CB_4.out.alloc (Obj.cells #[.int .i64 xb, .slice anx xr.length cnx, .slice aox xo.length cox] 27)).c1
  have kB2 := (CB_4.out.alloc (Obj.cells #[.int .i64 xb, .slice anx xr.length cnx, .slice aox xo.length cox] 27)).c2
  go_wp2_with fail
  clear kA0 kA1 kA2 kB0 kB1 kB2
  have bx5 : Below W4.heap.size W4 (W4.alloc (Obj.cells #[.int .i64 xb, .slice anx xr.length cnx, .slice aox xo.length cox] 27)) := (Below.refl _ _).alloc (Nat.le_refl _) _
  have cx5 := Cells3.new W4 27 (.int .i64 xb) (.slice anx xr.length cnx) (.slice aox xo.length cox)
  have hz5 : (W4.alloc (Obj.cells #[.int .i64 xb, .slice anx xr.length cnx, .slice aox xo.length cox] 27)).heap.size = W4.heap.size + 1 := size_alloc' _ _
  obtain ⟨W5, hW5⟩ : ∃ W, W = (W4.alloc (Obj.cells #[.int .i64 xb, .slice anx xr.length cnx, .slice aox xo.length cox] 27)) := ⟨_, rfl⟩
  rw [← hW5] at bx5 cx5 hz5 ⊢
  have HB_5 := Lib.hid (HB_4.out.trans (bx5.mono HB_4.out.size))
  have CA_5 := Lib.hid (CA_4.out.below bx5)
  have CB_5 := Lib.hid (CB_4.out.below bx5)
  have Rb_5 := Lib.hid (Rb_4.out.below bx5)
  have Ra_5 := Lib.hid (Ra_4.out.below bx5)
  have Rx_5 := Lib.hid (Rx_4.out.below bx5)
  have Z7 := Lib.hid (bx5.size)
  have CX_5 := Lib.hid cx5
  have Z8 := Lib.hid hz5
  clear CA_4 CB_4 Rb_4 Ra_4 Rx_4 HB_4 bx5 hW5 cx5
  clear hz5
  refine (CS.out _ _ _ Ra_5.out.lies Rb_5.out.lies).mono ?_
  rintro e W6 ⟨vy, rfl, h6, fb6⟩
  have HB_6 := Lib.hid (HB_5.out.trans (fb6.mono HB_5.out.size))
  have CA_6 := Lib.hid (CA_5.out.below fb6)
  have CB_6 := Lib.hid (CB_5.out.below fb6)
  have CX_6 := Lib.hid (CX_5.out.below fb6)
  have Rb_6 := Lib.hid (Rb_5.out.below fb6)
  have Ra_6 := Lib.hid (Ra_5.out.below fb6)
  have Rx_6 := Lib.hid (Rx_5.out.below fb6)
  have Z9 := Lib.hid (fb6.size)
  have Ry_6 := Lib.hid h6
  clear CA_5 CB_5 CX_5 Rb_5 Ra_5 Rx_5 HB_5 fb6 h6
  obtain ⟨any, cny, aoy, coy, rfl⟩ := Ry_6.out.form
  have kA0 := (CA_6.out.alloc (Obj.cells #[.int .i64 xb, .slice any xr.length cny, .slice aoy xo.length coy] 27)).c0
  have kA1 := (CA_6.out.alloc (Obj.cells #[.int .i64 xb, .slice any xr.length cny, .slice aoy xo.length coy] 27)).c1
  have kA2 := (CA_6.out.alloc (Obj.cells #[.int .i64 xb, .slice any xr.length cny, .slice aoy xo.length coy] 27)).c2
  have kB0 := (CB_6.out.alloc (Obj.cells #[.int .i64 xb, .slice any xr.length cny, .slice aoy xo.length coy] 27)).c0
  have kB1 := (CB_6.out.alloc (Obj.cells #[.int .i64 xb, .slice any xr.length cny, .slice aoy xo.length coy] 27)).c1
  have kB2 := (CB_6.out.alloc (Obj.cells #[.int .i64 xb, .slice any xr.length cny, .slice aoy xo.length coy] 27)).c2
  have kX0 := (CX_6.out.alloc (Obj.cells #[.int .i64 xb, .slice any xr.length cny, .slice aoy xo.length coy] 27)).c0
  have kX1 := (CX_6.out.alloc (Obj.cells #[.int .i64 xb, .slice any xr.length cny, .slice aoy xo.length coy] 27)).c1
  have kX2 := (CX_6.out.alloc (Obj.cells #[.int .i64 xb, .slice any xr.length cny, .slice aoy xo.length coy] 27)).c2
  go_wp2_with fail
  clear kA0 kA1 kA2 kB0 kB1 kB2 kX0 kX1 kX2
  have bx7 : Below W6.heap.size W6 (W6.alloc (Obj.cells #[.int .i64 xb, .slice any xr.length cny, .slice aoy xo.length coy] 27)) := (Below.refl _ _).alloc (Nat.le_refl _) _
  have cx7 := Cells3.new W6 27 (.int .i64 xb) (.slice any xr.length cny) (.slice aoy xo.length coy)
  have hz7 : (W6.alloc (Obj.cells #[.int .i64 xb, .slice any xr.length cny, .slice aoy xo.length coy] 27)).heap.size = W6.heap.size + 1 := size_alloc' _ _
  obtain ⟨W7, hW7⟩ : ∃ W, W = (W6.alloc (Obj.cells #[.int .i64 xb, .slice any xr.length cny, .slice aoy xo.length coy] 27)) := ⟨_, rfl⟩
  rw [← hW7] at bx7 cx7 hz7 ⊢
  have HB_7 := Lib.hid (HB_6.out.trans (bx7.mono HB_6.out.size))
  have CA_7 := Lib.hid (CA_6.out.below bx7)
  have CB_7 := Lib.hid (CB_6.out.below bx7)
  have CX_7 := Lib.hid (CX_6.out.below bx7)
  have Rb_7 := Lib.hid (Rb_6.out.below bx7)
  have Ra_7 := Lib.hid (Ra_6.out.below bx7)
  have Rx_7 := Lib.hid (Rx_6.out.below bx7)
  have Ry_7 := Lib.hid (Ry_6.out.below bx7)
  have Z10 := Lib.hid (bx7.size)
  have CY_7 := Lib.hid cx7
  have Z11 := Lib.hid hz7
  clear CA_6 CB_6 CX_6 Rb_6 Ra_6 Rx_6 Ry_6 HB_6 bx7 hW7 cx7
  clear hz7
  refine (equal_own _ _ xb xr xo _ Rx_7.out.lies Ry_7.out.lies).mono ?_
  rintro e W8 ⟨rfl, fb8⟩
  have HB_8 := Lib.hid (HB_7.out.trans (fb8.mono HB_7.out.size))
  have CA_8 := Lib.hid (CA_7.out.below fb8)
  have CB_8 := Lib.hid (CB_7.out.below fb8)
  have CX_8 := Lib.hid (CX_7.out.below fb8)
  have CY_8 := Lib.hid (CY_7.out.below fb8)
  have Rb_8 := Lib.hid (Rb_7.out.below fb8)
  have Ra_8 := Lib.hid (Ra_7.out.below fb8)
  have Rx_8 := Lib.hid (Rx_7.out.below fb8)
  have Ry_8 := Lib.hid (Ry_7.out.below fb8)
  have Z12 := Lib.hid (fb8.size)
  clear CA_7 CB_7 CX_7 CY_7 Rb_7 Ra_7 Rx_7 Ry_7 HB_7 fb8
  clear Rx_8 CX_8
  have kA0 := CA_8.out.c0
  have kA1 := CA_8.out.c1
  have kA2 := CA_8.out.c2
  have kB0 := CB_8.out.c0
  have kB1 := CB_8.out.c1
  have kB2 := CB_8.out.c2
  have kY0 := CY_8.out.c0
  have kY1 := CY_8.out.c1
  have kY2 := CY_8.out.c2
  go_wp2_with fail
  clear kA0 kA1 kA2 kB0 kB1 kB2 kY0 kY1 kY2
  refine (Cursor.at_byte _ a len cap 2 (by decide) hlen (Cursor.code_next HC.out HB_8.out)).mono ?_
  rintro e W' ⟨⟨n, ⟨hn0, hn1⟩, rfl⟩, rfl⟩
  have kA0 := CA_8.out.c0
  have kA1 := CA_8.out.c1
  have kA2 := CA_8.out.c2
  have kB0 := CB_8.out.c0
  have kB1 := CB_8.out.c1
  have kB2 := CB_8.out.c2
  have kY0 := CY_8.out.c0
  have kY1 := CY_8.out.c1
  have kY2 := CY_8.out.c2
  go_wp2_with fail
  clear kA0 kA1 kA2 kB0 kB1 kB2 kY0 kY1 kY2
  go_cut [84] (fun s wx => s = .bool false ∧ Hid (Below W8.heap.size W8 wx))
  case first =>
    as_aux_lemma =>
      cases xk with
      | false =>
        have fb := below_drew' W8
        refine wp_region_held_drew (S := (fun w' => w'.cell? ⟨W1.heap.size, 0, none⟩ = some (.int .i64 b0) ∧ w'.cell? ⟨W1.heap.size, 1, none⟩ = some (.slice ana rows0.length cna) ∧ w'.cell? ⟨W1.heap.size, 2, none⟩ = some (.slice aoa out0.length coa) ∧ w'.cell? ⟨W1.heap.size + 1, 0, none⟩ = some (.int .i64 b1) ∧ w'.cell? ⟨W1.heap.size + 1, 1, none⟩ = some (.slice anb rows1.length cnb) ∧ w'.cell? ⟨W1.heap.size + 1, 2, none⟩ = some (.slice aob out1.length cob) ∧ w'.cell? ⟨W6.heap.size, 0, none⟩ = some (.int .i64 xb) ∧ w'.cell? ⟨W6.heap.size, 1, none⟩ = some (.slice any xr.length cny) ∧ w'.cell? ⟨W6.heap.size, 2, none⟩ = some (.slice aoy xo.length coy))) (by kernel_rfl) ?_ (fun hHeld => ?_)
        · exact ⟨(CA_8.out.below fb).c0, (CA_8.out.below fb).c1, (CA_8.out.below fb).c2, (CB_8.out.below fb).c0, (CB_8.out.below fb).c1, (CB_8.out.below fb).c2, (CY_8.out.below fb).c0, (CY_8.out.below fb).c1, (CY_8.out.below fb).c2⟩
        refine wpAnyH_take (i := 0) (oi := { dst := some 70, op := Op.move (Operand.tmp 7), type := 4, pos := "laws.go:261", after := #[], guard := none }) (v := ?_) rfl (by kernel_rfl) (by kernel_rfl) (by kernel_rfl) (fun _ _ _ h => h) (Or.inl ⟨by rfl, ?_⟩) (by assumption) ?_
        rotate_left
        focus (intro w hSw; (try dsimp only at hSw); first | (go_simp; done) | (go_simp; with_reducible rfl))
        try simp only [Act.put, List.setIfInBounds_toArray, List.set_cons_zero, List.set_cons_succ]
        refine wpAnyH_take (i := 1) (oi := { dst := some 71, op := Op.move (Operand.tmp 70), type := 4, pos := "laws.go:261", after := #[{ on := 0, ground := Ground.data }], guard := none }) (v := ?_) rfl (by kernel_rfl) (by kernel_rfl) (by kernel_rfl) (fun _ _ _ h => h) (Or.inl ⟨by rfl, ?_⟩) (by assumption) ?_
        rotate_left
        focus (intro w hSw; (try dsimp only at hSw); first | (go_simp; done) | (go_simp; with_reducible rfl))
        try simp only [Act.put, List.setIfInBounds_toArray, List.set_cons_zero, List.set_cons_succ]
        refine wpAnyH_take (i := 2) (oi := { dst := some 72, op := Op.load 27 (Operand.tmp 8), type := 27, pos := "laws.go:261", after := #[{ on := 1, ground := Ground.guard }], guard := some (1, true) }) (v := undef) rfl (by kernel_rfl) (by kernel_rfl) (by kernel_rfl) (fun _ _ _ h => h) (Or.inr ⟨by rfl, rfl⟩) (by assumption) ?_
        try simp only [Act.put, List.setIfInBounds_toArray, List.set_cons_zero, List.set_cons_succ]
        refine wpAnyH_take (i := 3) (oi := { dst := some 73, op := Op.move (Operand.tmp 10), type := 3, pos := "laws.go:261", after := #[{ on := 1, ground := Ground.guard }], guard := some (1, true) }) (v := undef) rfl (by kernel_rfl) (by kernel_rfl) (by kernel_rfl) (fun _ _ _ h => h) (Or.inr ⟨by rfl, rfl⟩) (by assumption) ?_
        try simp only [Act.put, List.setIfInBounds_toArray, List.set_cons_zero, List.set_cons_succ]
        refine wpAnyH_take (i := 4) (oi := { dst := some 74, op := Op.call { callee := Callee.value (Operand.func 10), args := #[Operand.tmp 72, Operand.tmp 73], argTypes := #[27, 3] }, type := 3, pos := "laws.go:261", after := #[{ on := 2, ground := Ground.data }, { on := 3, ground := Ground.data }, { on := 1, ground := Ground.chain }, { on := 1, ground := Ground.guard }], guard := some (1, true) }) (v := undef) rfl (by kernel_rfl) (by kernel_rfl) (by kernel_rfl) (fun _ _ _ h => h) (Or.inr ⟨by rfl, rfl⟩) (by assumption) ?_
        try simp only [Act.put, List.setIfInBounds_toArray, List.set_cons_zero, List.set_cons_succ]
        refine wpAnyH_take (i := 5) (oi := { dst := some 75, op := Op.load 27 (Operand.tmp 3), type := 27, pos := "laws.go:261", after := #[{ on := 1, ground := Ground.guard }], guard := some (1, true) }) (v := undef) rfl (by kernel_rfl) (by kernel_rfl) (by kernel_rfl) (fun _ _ _ h => h) (Or.inr ⟨by rfl, rfl⟩) (by assumption) ?_
        try simp only [Act.put, List.setIfInBounds_toArray, List.set_cons_zero, List.set_cons_succ]
        refine wpAnyH_take (i := 6) (oi := { dst := some 76, op := Op.move (Operand.tmp 10), type := 3, pos := "laws.go:261", after := #[{ on := 1, ground := Ground.guard }], guard := some (1, true) }) (v := undef) rfl (by kernel_rfl) (by kernel_rfl) (by kernel_rfl) (fun _ _ _ h => h) (Or.inr ⟨by rfl, rfl⟩) (by assumption) ?_
        try simp only [Act.put, List.setIfInBounds_toArray, List.set_cons_zero, List.set_cons_succ]
        refine wpAnyH_take (i := 7) (oi := { dst := some 77, op := Op.call { callee := Callee.value (Operand.func 12), args := #[Operand.tmp 75, Operand.tmp 76], argTypes := #[27, 3] }, type := 3, pos := "laws.go:261", after := #[{ on := 5, ground := Ground.data }, { on := 6, ground := Ground.data }, { on := 4, ground := Ground.chain }, { on := 1, ground := Ground.guard }], guard := some (1, true) }) (v := undef) rfl (by kernel_rfl) (by kernel_rfl) (by kernel_rfl) (fun _ _ _ h => h) (Or.inr ⟨by rfl, rfl⟩) (by assumption) ?_
        try simp only [Act.put, List.setIfInBounds_toArray, List.set_cons_zero, List.set_cons_succ]
        refine wpAnyH_take (i := 8) (oi := { dst := some 78, op := Op.load 27 (Operand.tmp 4), type := 27, pos := "laws.go:261", after := #[{ on := 1, ground := Ground.guard }], guard := some (1, true) }) (v := undef) rfl (by kernel_rfl) (by kernel_rfl) (by kernel_rfl) (fun _ _ _ h => h) (Or.inr ⟨by rfl, rfl⟩) (by assumption) ?_
        try simp only [Act.put, List.setIfInBounds_toArray, List.set_cons_zero, List.set_cons_succ]
        refine wpAnyH_take (i := 9) (oi := { dst := some 79, op := Op.move (Operand.tmp 10), type := 3, pos := "laws.go:261", after := #[{ on := 1, ground := Ground.guard }], guard := some (1, true) }) (v := undef) rfl (by kernel_rfl) (by kernel_rfl) (by kernel_rfl) (fun _ _ _ h => h) (Or.inr ⟨by rfl, rfl⟩) (by assumption) ?_
        try simp only [Act.put, List.setIfInBounds_toArray, List.set_cons_zero, List.set_cons_succ]
        refine wpAnyH_take (i := 10) (oi := { dst := some 80, op := Op.call { callee := Callee.value (Operand.func 12), args := #[Operand.tmp 78, Operand.tmp 79], argTypes := #[27, 3] }, type := 3, pos := "laws.go:261", after := #[{ on := 8, ground := Ground.data }, { on := 9, ground := Ground.data }, { on := 7, ground := Ground.chain }, { on := 1, ground := Ground.guard }], guard := some (1, true) }) (v := undef) rfl (by kernel_rfl) (by kernel_rfl) (by kernel_rfl) (fun _ _ _ h => h) (Or.inr ⟨by rfl, rfl⟩) (by assumption) ?_
        try simp only [Act.put, List.setIfInBounds_toArray, List.set_cons_zero, List.set_cons_succ]
        refine wpAnyH_take (i := 11) (oi := { dst := some 81, op := Op.move (Operand.tmp 5), type := 3, pos := "laws.go:261", after := #[{ on := 1, ground := Ground.guard }], guard := some (1, true) }) (v := undef) rfl (by kernel_rfl) (by kernel_rfl) (by kernel_rfl) (fun _ _ _ h => h) (Or.inr ⟨by rfl, rfl⟩) (by assumption) ?_
        try simp only [Act.put, List.setIfInBounds_toArray, List.set_cons_zero, List.set_cons_succ]
        refine wpAnyH_take (i := 12) (oi := { dst := some 82, op := Op.call { callee := Callee.value (Operand.func 11), args := #[Operand.tmp 77, Operand.tmp 80, Operand.tmp 81], argTypes := #[3, 3, 3] }, type := 3, pos := "laws.go:261", after := #[{ on := 7, ground := Ground.data }, { on := 10, ground := Ground.data }, { on := 11, ground := Ground.data }, { on := 10, ground := Ground.chain }, { on := 1, ground := Ground.guard }], guard := some (1, true) }) (v := undef) rfl (by kernel_rfl) (by kernel_rfl) (by kernel_rfl) (fun _ _ _ h => h) (Or.inr ⟨by rfl, rfl⟩) (by assumption) ?_
        try simp only [Act.put, List.setIfInBounds_toArray, List.set_cons_zero, List.set_cons_succ]
        refine wpAnyH_take (i := 13) (oi := { dst := some 83, op := Op.binOp BinOp.neq 3 (Operand.tmp 74) (Operand.tmp 82) 3, type := 4, pos := "laws.go:261", after := #[{ on := 4, ground := Ground.data }, { on := 12, ground := Ground.data }, { on := 1, ground := Ground.guard }], guard := some (1, true) }) (v := undef) rfl (by kernel_rfl) (by kernel_rfl) (by kernel_rfl) (fun _ _ _ h => h) (Or.inr ⟨by rfl, rfl⟩) (by assumption) ?_
        try simp only [Act.put, List.setIfInBounds_toArray, List.set_cons_zero, List.set_cons_succ]
        refine wpAnyH_take (i := 14) (oi := { dst := some 84, op := Op.pick (Operand.tmp 71) (Operand.tmp 83) (Operand.const (Value.bool false)), type := 4, pos := "laws.go:261", after := #[{ on := 1, ground := Ground.data }, { on := 13, ground := Ground.data }], guard := none }) (v := ?_) rfl (by kernel_rfl) (by kernel_rfl) (by kernel_rfl) (fun _ _ _ h => h) (Or.inl ⟨by rfl, ?_⟩) (by assumption) ?_
        rotate_left
        focus (intro w hSw; (try dsimp only at hSw); first | (go_simp; done) | (go_simp; with_reducible rfl))
        try simp only [Act.put, List.setIfInBounds_toArray, List.set_cons_zero, List.set_cons_succ]
        refine wpAnyH_done (by kernel_rfl) ?_ _
        go_wp2_with fail
        go_meet
        exact ⟨rfl, fb⟩
      | true =>
        have hcl := HCL.out rfl n hn0 (by omega)
        have CTY := Lib.hid (fun (W : World) (u : Value) (l : LiesS W u xb xr xo) => impl_termat u xb xr xo W l n)
        have CTA := Lib.hid (fun (W : World) (u : Value) (l : LiesS W u b0 rows0 out0) => spec_termat u b0 rows0 out0 W l n)
        have CTB := Lib.hid (fun (W : World) (u : Value) (l : LiesS W u b1 rows1 out1) => spec_termat u b1 rows1 out1 W l n)
        obtain ⟨ta, hta⟩ : ∃ t, t = termV b0 rows0 out0 n := ⟨_, rfl⟩
        obtain ⟨tb, htb⟩ : ∃ t, t = termV b1 rows1 out1 n := ⟨_, rfl⟩
        rw [← hta, ← htb] at hcl
        rw [← hta] at CTA
        rw [← htb] at CTB
        rw [hcl] at CTY
        have CV := Lib.hid (fun W : World => impl_values ta tb how W)
        obtain ⟨tv, htv⟩ : ∃ t, t = combV ta tb how := ⟨_, rfl⟩
        rw [← htv] at CTY CV
        clear hcl hta htb htv
        have htt : (tv != tv) = false := by simp
        have fb := below_drew' W8
        refine wp_region_held_drew (S := (fun w' => w'.cell? ⟨W1.heap.size, 0, none⟩ = some (.int .i64 b0) ∧ w'.cell? ⟨W1.heap.size, 1, none⟩ = some (.slice ana rows0.length cna) ∧ w'.cell? ⟨W1.heap.size, 2, none⟩ = some (.slice aoa out0.length coa) ∧ w'.cell? ⟨W1.heap.size + 1, 0, none⟩ = some (.int .i64 b1) ∧ w'.cell? ⟨W1.heap.size + 1, 1, none⟩ = some (.slice anb rows1.length cnb) ∧ w'.cell? ⟨W1.heap.size + 1, 2, none⟩ = some (.slice aob out1.length cob) ∧ w'.cell? ⟨W6.heap.size, 0, none⟩ = some (.int .i64 xb) ∧ w'.cell? ⟨W6.heap.size, 1, none⟩ = some (.slice any xr.length cny) ∧ w'.cell? ⟨W6.heap.size, 2, none⟩ = some (.slice aoy xo.length coy))) (by kernel_rfl) ?_ (fun hHeld => ?_)
        · exact ⟨(CA_8.out.below fb).c0, (CA_8.out.below fb).c1, (CA_8.out.below fb).c2, (CB_8.out.below fb).c0, (CB_8.out.below fb).c1, (CB_8.out.below fb).c2, (CY_8.out.below fb).c0, (CY_8.out.below fb).c1, (CY_8.out.below fb).c2⟩
        refine wpAnyH_take (i := 0) (oi := { dst := some 70, op := Op.move (Operand.tmp 7), type := 4, pos := "laws.go:261", after := #[], guard := none }) (v := ?_) rfl (by kernel_rfl) (by kernel_rfl) (by kernel_rfl) (fun _ _ _ h => h) (Or.inl ⟨by rfl, ?_⟩) (by assumption) ?_
        rotate_left
        focus (intro w hSw; (try dsimp only at hSw); first | (go_simp; done) | (go_simp; with_reducible rfl))
        try simp only [Act.put, List.setIfInBounds_toArray, List.set_cons_zero, List.set_cons_succ]
        refine wpAnyH_take (i := 1) (oi := { dst := some 71, op := Op.move (Operand.tmp 70), type := 4, pos := "laws.go:261", after := #[{ on := 0, ground := Ground.data }], guard := none }) (v := ?_) rfl (by kernel_rfl) (by kernel_rfl) (by kernel_rfl) (fun _ _ _ h => h) (Or.inl ⟨by rfl, ?_⟩) (by assumption) ?_
        rotate_left
        focus (intro w hSw; (try dsimp only at hSw); first | (go_simp; done) | (go_simp; with_reducible rfl))
        try simp only [Act.put, List.setIfInBounds_toArray, List.set_cons_zero, List.set_cons_succ]
        refine wpAnyH_take (i := 2) (oi := { dst := some 72, op := Op.load 27 (Operand.tmp 8), type := 27, pos := "laws.go:261", after := #[{ on := 1, ground := Ground.guard }], guard := some (1, true) }) (v := ?_) rfl (by kernel_rfl) (by kernel_rfl) (by kernel_rfl) (fun _ _ _ h => h) (Or.inl ⟨by rfl, ?_⟩) (by assumption) ?_
        rotate_left
        focus (intro w hSw; (try dsimp only at hSw); first | (go_simp; done) | (go_simp; with_reducible rfl))
        try simp only [Act.put, List.setIfInBounds_toArray, List.set_cons_zero, List.set_cons_succ]
        refine wpAnyH_take (i := 3) (oi := { dst := some 73, op := Op.move (Operand.tmp 10), type := 3, pos := "laws.go:261", after := #[{ on := 1, ground := Ground.guard }], guard := some (1, true) }) (v := ?_) rfl (by kernel_rfl) (by kernel_rfl) (by kernel_rfl) (fun _ _ _ h => h) (Or.inl ⟨by rfl, ?_⟩) (by assumption) ?_
        rotate_left
        focus (intro w hSw; (try dsimp only at hSw); first | (go_simp; done) | (go_simp; with_reducible rfl))
        try simp only [Act.put, List.setIfInBounds_toArray, List.set_cons_zero, List.set_cons_succ]
        refine wpAnyH_take (i := 5) (oi := { dst := some 75, op := Op.load 27 (Operand.tmp 3), type := 27, pos := "laws.go:261", after := #[{ on := 1, ground := Ground.guard }], guard := some (1, true) }) (v := ?_) rfl (by kernel_rfl) (by kernel_rfl) (by kernel_rfl) (fun _ _ _ h => h) (Or.inl ⟨by rfl, ?_⟩) (by assumption) ?_
        rotate_left
        focus (intro w hSw; (try dsimp only at hSw); first | (go_simp; done) | (go_simp; with_reducible rfl))
        try simp only [Act.put, List.setIfInBounds_toArray, List.set_cons_zero, List.set_cons_succ]
        refine wpAnyH_take (i := 6) (oi := { dst := some 76, op := Op.move (Operand.tmp 10), type := 3, pos := "laws.go:261", after := #[{ on := 1, ground := Ground.guard }], guard := some (1, true) }) (v := ?_) rfl (by kernel_rfl) (by kernel_rfl) (by kernel_rfl) (fun _ _ _ h => h) (Or.inl ⟨by rfl, ?_⟩) (by assumption) ?_
        rotate_left
        focus (intro w hSw; (try dsimp only at hSw); first | (go_simp; done) | (go_simp; with_reducible rfl))
        try simp only [Act.put, List.setIfInBounds_toArray, List.set_cons_zero, List.set_cons_succ]
        refine wpAnyH_take (i := 8) (oi := { dst := some 78, op := Op.load 27 (Operand.tmp 4), type := 27, pos := "laws.go:261", after := #[{ on := 1, ground := Ground.guard }], guard := some (1, true) }) (v := ?_) rfl (by kernel_rfl) (by kernel_rfl) (by kernel_rfl) (fun _ _ _ h => h) (Or.inl ⟨by rfl, ?_⟩) (by assumption) ?_
        rotate_left
        focus (intro w hSw; (try dsimp only at hSw); first | (go_simp; done) | (go_simp; with_reducible rfl))
        try simp only [Act.put, List.setIfInBounds_toArray, List.set_cons_zero, List.set_cons_succ]
        refine wpAnyH_take (i := 9) (oi := { dst := some 79, op := Op.move (Operand.tmp 10), type := 3, pos := "laws.go:261", after := #[{ on := 1, ground := Ground.guard }], guard := some (1, true) }) (v := ?_) rfl (by kernel_rfl) (by kernel_rfl) (by kernel_rfl) (fun _ _ _ h => h) (Or.inl ⟨by rfl, ?_⟩) (by assumption) ?_
        rotate_left
        focus (intro w hSw; (try dsimp only at hSw); first | (go_simp; done) | (go_simp; with_reducible rfl))
        try simp only [Act.put, List.setIfInBounds_toArray, List.set_cons_zero, List.set_cons_succ]
        refine wpAnyH_take (i := 11) (oi := { dst := some 81, op := Op.move (Operand.tmp 5), type := 3, pos := "laws.go:261", after := #[{ on := 1, ground := Ground.guard }], guard := some (1, true) }) (v := ?_) rfl (by kernel_rfl) (by kernel_rfl) (by kernel_rfl) (fun _ _ _ h => h) (Or.inl ⟨by rfl, ?_⟩) (by assumption) ?_
        rotate_left
        focus (intro w hSw; (try dsimp only at hSw); first | (go_simp; done) | (go_simp; with_reducible rfl))
        try simp only [Act.put, List.setIfInBounds_toArray, List.set_cons_zero, List.set_cons_succ]
        refine wpAnyH_ready (rs := [4]) (by kernel_rfl) (by simp) ?_
        refine AllReadyH.cons (o := { dst := some 74, op := Op.call { callee := Callee.value (Operand.func 10), args := #[Operand.tmp 72, Operand.tmp 73], argTypes := #[27, 3] }, type := 3, pos := "laws.go:261", after := #[{ on := 2, ground := Ground.data }, { on := 3, ground := Ground.data }, { on := 1, ground := Ground.chain }, { on := 1, ground := Ground.guard }], guard := some (1, true) }) rfl (fun K hK => ?_) AllReadyH.nil
        go_simp
        go_at_call 10
        refine (CTY.out _ _ (Ry_8.out.below fb).lies).mono ?_
        rintro e Wn ⟨rfl, fbn⟩
        replace fb := fb.trans (fbn.mono fb.size)
        refine hK.out _ _ ?_ (fun hHeld => ?_)
        · exact ⟨(CA_8.out.below fb).c0, (CA_8.out.below fb).c1, (CA_8.out.below fb).c2, (CB_8.out.below fb).c0, (CB_8.out.below fb).c1, (CB_8.out.below fb).c2, (CY_8.out.below fb).c0, (CY_8.out.below fb).c1, (CY_8.out.below fb).c2⟩
        clear hK K
        try simp only [Act.put, List.setIfInBounds_toArray, List.set_cons_zero, List.set_cons_succ]
        refine wpAnyH_ready (rs := [7]) (by kernel_rfl) (by simp) ?_
        refine AllReadyH.cons (o := { dst := some 77, op := Op.call { callee := Callee.value (Operand.func 12), args := #[Operand.tmp 75, Operand.tmp 76], argTypes := #[27, 3] }, type := 3, pos := "laws.go:261", after := #[{ on := 5, ground := Ground.data }, { on := 6, ground := Ground.data }, { on := 4, ground := Ground.chain }, { on := 1, ground := Ground.guard }], guard := some (1, true) }) rfl (fun K hK => ?_) AllReadyH.nil
        go_simp
        go_at_call 12
        refine (CTA.out _ _ (Ra_8.out.below fb).lies).mono ?_
        rintro e Wn ⟨rfl, fbn⟩
        replace fb := fb.trans (fbn.mono fb.size)
        refine hK.out _ _ ?_ (fun hHeld => ?_)
        · exact ⟨(CA_8.out.below fb).c0, (CA_8.out.below fb).c1, (CA_8.out.below fb).c2, (CB_8.out.below fb).c0, (CB_8.out.below fb).c1, (CB_8.out.below fb).c2, (CY_8.out.below fb).c0, (CY_8.out.below fb).c1, (CY_8.out.below fb).c2⟩
        clear hK K
        try simp only [Act.put, List.setIfInBounds_toArray, List.set_cons_zero, List.set_cons_succ]
        refine wpAnyH_ready (rs := [10]) (by kernel_rfl) (by simp) ?_
        refine AllReadyH.cons (o := { dst := some 80, op := Op.call { callee := Callee.value (Operand.func 12), args := #[Operand.tmp 78, Operand.tmp 79], argTypes := #[27, 3] }, type := 3, pos := "laws.go:261", after := #[{ on := 8, ground := Ground.data }, { on := 9, ground := Ground.data }, { on := 7, ground := Ground.chain }, { on := 1, ground := Ground.guard }], guard := some (1, true) }) rfl (fun K hK => ?_) AllReadyH.nil
        go_simp
        go_at_call 12
        refine (CTB.out _ _ (Rb_8.out.below fb).lies).mono ?_
        rintro e Wn ⟨rfl, fbn⟩
        replace fb := fb.trans (fbn.mono fb.size)
        refine hK.out _ _ ?_ (fun hHeld => ?_)
        · exact ⟨(CA_8.out.below fb).c0, (CA_8.out.below fb).c1, (CA_8.out.below fb).c2, (CB_8.out.below fb).c0, (CB_8.out.below fb).c1, (CB_8.out.below fb).c2, (CY_8.out.below fb).c0, (CY_8.out.below fb).c1, (CY_8.out.below fb).c2⟩
        clear hK K
        try simp only [Act.put, List.setIfInBounds_toArray, List.set_cons_zero, List.set_cons_succ]
        refine wpAnyH_ready (rs := [12]) (by kernel_rfl) (by simp) ?_
        refine AllReadyH.cons (o := { dst := some 82, op := Op.call { callee := Callee.value (Operand.func 11), args := #[Operand.tmp 77, Operand.tmp 80, Operand.tmp 81], argTypes := #[3, 3, 3] }, type := 3, pos := "laws.go:261", after := #[{ on := 7, ground := Ground.data }, { on := 10, ground := Ground.data }, { on := 11, ground := Ground.data }, { on := 10, ground := Ground.chain }, { on := 1, ground := Ground.guard }], guard := some (1, true) }) rfl (fun K hK => ?_) AllReadyH.nil
        go_simp
        go_at_call 11
        refine (CV.out _).mono ?_
        rintro e Wn ⟨rfl, fbn⟩
        replace fb := fb.trans (fbn.mono fb.size)
        refine hK.out _ _ ?_ (fun hHeld => ?_)
        · exact ⟨(CA_8.out.below fb).c0, (CA_8.out.below fb).c1, (CA_8.out.below fb).c2, (CB_8.out.below fb).c0, (CB_8.out.below fb).c1, (CB_8.out.below fb).c2, (CY_8.out.below fb).c0, (CY_8.out.below fb).c1, (CY_8.out.below fb).c2⟩
        clear hK K
        try simp only [Act.put, List.setIfInBounds_toArray, List.set_cons_zero, List.set_cons_succ]
        refine wpAnyH_take (i := 13) (oi := { dst := some 83, op := Op.binOp BinOp.neq 3 (Operand.tmp 74) (Operand.tmp 82) 3, type := 4, pos := "laws.go:261", after := #[{ on := 4, ground := Ground.data }, { on := 12, ground := Ground.data }, { on := 1, ground := Ground.guard }], guard := some (1, true) }) (v := ?_) rfl (by kernel_rfl) (by kernel_rfl) (by kernel_rfl) (fun _ _ _ h => h) (Or.inl ⟨by rfl, ?_⟩) (by assumption) ?_
        rotate_left
        focus (intro w hSw; (try dsimp only at hSw); first | (go_simp; done) | (go_simp; with_reducible rfl))
        try simp only [Act.put, List.setIfInBounds_toArray, List.set_cons_zero, List.set_cons_succ]
        refine wpAnyH_take (i := 14) (oi := { dst := some 84, op := Op.pick (Operand.tmp 71) (Operand.tmp 83) (Operand.const (Value.bool false)), type := 4, pos := "laws.go:261", after := #[{ on := 1, ground := Ground.data }, { on := 13, ground := Ground.data }], guard := none }) (v := ?_) rfl (by kernel_rfl) (by kernel_rfl) (by kernel_rfl) (fun _ _ _ h => h) (Or.inl ⟨by rfl, ?_⟩) (by assumption) ?_
        rotate_left
        focus (intro w hSw; (try dsimp only at hSw); first | (go_simp; done) | (go_simp; with_reducible rfl))
        try simp only [Act.put, List.setIfInBounds_toArray, List.set_cons_zero, List.set_cons_succ]
        refine wpAnyH_done (by kernel_rfl) ?_ _
        go_wp2_with fail
        go_meet
        exact ⟨rfl, fb⟩
  case rest =>
    obtain ⟨rfl, bw9⟩ := hcut
    obtain ⟨W9, rfl⟩ : ∃ W, W = wc := ⟨_, rfl⟩
    have bw := bw9.out
    have HB_9 := Lib.hid (HB_8.out.trans (bw.mono HB_8.out.size))
    have CA_9 := Lib.hid (CA_8.out.below bw)
    have CB_9 := Lib.hid (CB_8.out.below bw)
    have CY_9 := Lib.hid (CY_8.out.below bw)
    have Rb_9 := Lib.hid (Rb_8.out.below bw)
    have Ra_9 := Lib.hid (Ra_8.out.below bw)
    have Ry_9 := Lib.hid (Ry_8.out.below bw)
    have Z13 := Lib.hid (bw.size)
    clear CA_8 CB_8 CY_8 Rb_8 Ra_8 Ry_8 HB_8 bw9 bw
    clear Rb_9 Ra_9 Ry_9 CA_9 CB_9 CY_9
    have CV2 := Lib.hid (Cursor.code_next HC.out HB_9.out)
    go_wp2_with fail
    refine (Cursor.drawShift W9 a len cap hlen CV2.out).mono ?_
    rintro e W10 ⟨vs, b2, rows2, out2, hok2, rfl, h10, fb10⟩
    have HB_10 := Lib.hid (HB_9.out.trans (fb10.mono HB_9.out.size))
    have Z14 := Lib.hid (fb10.size)
    have Rs_10 := Lib.hid h10
    clear HB_9 fb10 h10
    have hz2 := ok_size hok2
    clear hok2
    have CSI := Lib.hid (fun (W : World) (u : Value) (l : LiesS W u b2 rows2 out2) => impl_shift u b2 rows2 out2 W l hz2)
    have CSS := Lib.hid (fun (W : World) (u : Value) (l : LiesS W u b2 rows2 out2) => spec_shift u b2 rows2 out2 W l hz2)
    have HSL := Lib.hid (fun h : shK b2 rows2 out2 = true => shift_law h)
    clear hz2
    obtain ⟨yk, hyk⟩ : ∃ y, y = shK b2 rows2 out2 := ⟨_, rfl⟩
    obtain ⟨yr, hyr⟩ : ∃ y, y = shR b2 rows2 out2 := ⟨_, rfl⟩
    obtain ⟨yo, hyo⟩ : ∃ y, y = shO b2 rows2 out2 := ⟨_, rfl⟩
    obtain ⟨yb, hyb⟩ : ∃ y, y = shB b2 rows2 out2 := ⟨_, rfl⟩
    rw [← hyb, ← hyr, ← hyo, ← hyk] at CSI CSS HSL
    have hyy : (yk != yk) = false := by simp
    clear hyb hyr hyo hyk
    obtain ⟨ans, cns, aos, cos, rfl⟩ := Rs_10.out.form
    go_wp2_with fail
    have bx11 : Below W10.heap.size W10 (W10.alloc (Obj.cells #[.int .i64 b2, .slice ans rows2.length cns, .slice aos out2.length cos] 27)) := (Below.refl _ _).alloc (Nat.le_refl _) _
    have cx11 := Cells3.new W10 27 (.int .i64 b2) (.slice ans rows2.length cns) (.slice aos out2.length cos)
    have hz11 : (W10.alloc (Obj.cells #[.int .i64 b2, .slice ans rows2.length cns, .slice aos out2.length cos] 27)).heap.size = W10.heap.size + 1 := size_alloc' _ _
    obtain ⟨W11, hW11⟩ : ∃ W, W = (W10.alloc (Obj.cells #[.int .i64 b2, .slice ans rows2.length cns, .slice aos out2.length cos] 27)) := ⟨_, rfl⟩
    rw [← hW11] at bx11 cx11 hz11 ⊢
    have HB_11 := Lib.hid (HB_10.out.trans (bx11.mono HB_10.out.size))
    have Rs_11 := Lib.hid (Rs_10.out.below bx11)
    have Z15 := Lib.hid (bx11.size)
    have CS_11 := Lib.hid cx11
    have Z16 := Lib.hid hz11
    clear Rs_10 HB_10 bx11 hW11 cx11
    clear hz11
    refine (CSI.out _ _ Rs_11.out.lies).mono ?_
    rintro e W12 ⟨vu, rfl, h12, fb12⟩
    have HB_12 := Lib.hid (HB_11.out.trans (fb12.mono HB_11.out.size))
    have CS_12 := Lib.hid (CS_11.out.below fb12)
    have Rs_12 := Lib.hid (Rs_11.out.below fb12)
    have Z17 := Lib.hid (fb12.size)
    have Ru_12 := Lib.hid h12
    clear CS_11 Rs_11 HB_11 fb12 h12
    obtain ⟨anu, cnu, aou, cou, rfl⟩ := Ru_12.out.form
    have kS0 := (CS_12.out.alloc (Obj.cells #[.int .i64 yb, .slice anu yr.length cnu, .slice aou yo.length cou] 27)).c0
    have kS1 := (CS_12.out.alloc (Obj.cells #[.int .i64 yb, .slice anu yr.length cnu, .slice aou yo.length cou] 27)).c1
    have kS2 := (CS_12.out.alloc (Obj.cells #[.int .i64 yb, .slice anu yr.length cnu, .slice aou yo.length cou] 27)).c2
    go_wp2_with fail
    clear kS0 kS1 kS2
    have bx13 : Below W12.heap.size W12 (W12.alloc (Obj.cells #[.int .i64 yb, .slice anu yr.length cnu, .slice aou yo.length cou] 27)) := (Below.refl _ _).alloc (Nat.le_refl _) _
    have cx13 := Cells3.new W12 27 (.int .i64 yb) (.slice anu yr.length cnu) (.slice aou yo.length cou)
    have hz13 : (W12.alloc (Obj.cells #[.int .i64 yb, .slice anu yr.length cnu, .slice aou yo.length cou] 27)).heap.size = W12.heap.size + 1 := size_alloc' _ _
    obtain ⟨W13, hW13⟩ : ∃ W, W = (W12.alloc (Obj.cells #[.int .i64 yb, .slice anu yr.length cnu, .slice aou yo.length cou] 27)) := ⟨_, rfl⟩
    rw [← hW13] at bx13 cx13 hz13 ⊢
    have HB_13 := Lib.hid (HB_12.out.trans (bx13.mono HB_12.out.size))
    have CS_13 := Lib.hid (CS_12.out.below bx13)
    have Rs_13 := Lib.hid (Rs_12.out.below bx13)
    have Ru_13 := Lib.hid (Ru_12.out.below bx13)
    have Z18 := Lib.hid (bx13.size)
    have CU_13 := Lib.hid cx13
    have Z19 := Lib.hid hz13
    clear CS_12 Rs_12 Ru_12 HB_12 bx13 hW13 cx13
    clear hz13
    refine (CSS.out _ _ Rs_13.out.lies).mono ?_
    rintro e W14 ⟨vv, rfl, h14, fb14⟩
    have HB_14 := Lib.hid (HB_13.out.trans (fb14.mono HB_13.out.size))
    have CS_14 := Lib.hid (CS_13.out.below fb14)
    have CU_14 := Lib.hid (CU_13.out.below fb14)
    have Rs_14 := Lib.hid (Rs_13.out.below fb14)
    have Ru_14 := Lib.hid (Ru_13.out.below fb14)
    have Z20 := Lib.hid (fb14.size)
    have Rv_14 := Lib.hid h14
    clear CS_13 CU_13 Rs_13 Ru_13 HB_13 fb14 h14
    obtain ⟨anv, cnv, aov, cov, rfl⟩ := Rv_14.out.form
    have kS0 := (CS_14.out.alloc (Obj.cells #[.int .i64 yb, .slice anv yr.length cnv, .slice aov yo.length cov] 27)).c0
    have kS1 := (CS_14.out.alloc (Obj.cells #[.int .i64 yb, .slice anv yr.length cnv, .slice aov yo.length cov] 27)).c1
    have kS2 := (CS_14.out.alloc (Obj.cells #[.int .i64 yb, .slice anv yr.length cnv, .slice aov yo.length cov] 27)).c2
    have kU0 := (CU_14.out.alloc (Obj.cells #[.int .i64 yb, .slice anv yr.length cnv, .slice aov yo.length cov] 27)).c0
    have kU1 := (CU_14.out.alloc (Obj.cells #[.int .i64 yb, .slice anv yr.length cnv, .slice aov yo.length cov] 27)).c1
    have kU2 := (CU_14.out.alloc (Obj.cells #[.int .i64 yb, .slice anv yr.length cnv, .slice aov yo.length cov] 27)).c2
    go_wp2_with fail
    clear kS0 kS1 kS2 kU0 kU1 kU2
    have bx15 : Below W14.heap.size W14 (W14.alloc (Obj.cells #[.int .i64 yb, .slice anv yr.length cnv, .slice aov yo.length cov] 27)) := (Below.refl _ _).alloc (Nat.le_refl _) _
    have cx15 := Cells3.new W14 27 (.int .i64 yb) (.slice anv yr.length cnv) (.slice aov yo.length cov)
    have hz15 : (W14.alloc (Obj.cells #[.int .i64 yb, .slice anv yr.length cnv, .slice aov yo.length cov] 27)).heap.size = W14.heap.size + 1 := size_alloc' _ _
    obtain ⟨W15, hW15⟩ : ∃ W, W = (W14.alloc (Obj.cells #[.int .i64 yb, .slice anv yr.length cnv, .slice aov yo.length cov] 27)) := ⟨_, rfl⟩
    rw [← hW15] at bx15 cx15 hz15 ⊢
    have HB_15 := Lib.hid (HB_14.out.trans (bx15.mono HB_14.out.size))
    have CS_15 := Lib.hid (CS_14.out.below bx15)
    have CU_15 := Lib.hid (CU_14.out.below bx15)
    have Rs_15 := Lib.hid (Rs_14.out.below bx15)
    have Ru_15 := Lib.hid (Ru_14.out.below bx15)
    have Rv_15 := Lib.hid (Rv_14.out.below bx15)
    have Z21 := Lib.hid (bx15.size)
    have CV_15 := Lib.hid cx15
    have Z22 := Lib.hid hz15
    clear CS_14 CU_14 Rs_14 Ru_14 Rv_14 HB_14 bx15 hW15 cx15
    clear hz15
    go_cut [118] (fun s wx => s = .bool false ∧ Hid (Below W15.heap.size W15 wx))
    case first =>
      as_aux_lemma =>
        cases yk with
        | false =>
          have fb := below_drew' W15
          refine wp_region_held_drew (S := (fun w' => w'.cell? ⟨W10.heap.size, 0, none⟩ = some (.int .i64 b2) ∧ w'.cell? ⟨W10.heap.size, 1, none⟩ = some (.slice ans rows2.length cns) ∧ w'.cell? ⟨W10.heap.size, 2, none⟩ = some (.slice aos out2.length cos) ∧ w'.cell? ⟨W12.heap.size, 0, none⟩ = some (.int .i64 yb) ∧ w'.cell? ⟨W12.heap.size, 1, none⟩ = some (.slice anu yr.length cnu) ∧ w'.cell? ⟨W12.heap.size, 2, none⟩ = some (.slice aou yo.length cou) ∧ w'.cell? ⟨W14.heap.size, 0, none⟩ = some (.int .i64 yb) ∧ w'.cell? ⟨W14.heap.size, 1, none⟩ = some (.slice anv yr.length cnv) ∧ w'.cell? ⟨W14.heap.size, 2, none⟩ = some (.slice aov yo.length cov))) (by kernel_rfl) ?_ (fun hHeld => ?_)
          · exact ⟨(CS_15.out.below fb).c0, (CS_15.out.below fb).c1, (CS_15.out.below fb).c2, (CU_15.out.below fb).c0, (CU_15.out.below fb).c1, (CU_15.out.below fb).c2, (CV_15.out.below fb).c0, (CV_15.out.below fb).c1, (CV_15.out.below fb).c2⟩
          refine wpAnyH_take (i := 0) (oi := { dst := some 97, op := Op.move (Operand.tmp 13), type := 4, pos := "laws.go:267", after := #[], guard := none }) (v := ?_) rfl (by kernel_rfl) (by kernel_rfl) (by kernel_rfl) (fun _ _ _ h => h) (Or.inl ⟨by rfl, ?_⟩) (by assumption) ?_
          rotate_left
          focus (intro w hSw; (try dsimp only at hSw); first | (go_simp; done) | (go_simp; with_reducible rfl))
          try simp only [Act.put, List.setIfInBounds_toArray, List.set_cons_zero, List.set_cons_succ]
          refine wpAnyH_take (i := 1) (oi := { dst := some 98, op := Op.move (Operand.tmp 15), type := 4, pos := "laws.go:267", after := #[], guard := none }) (v := ?_) rfl (by kernel_rfl) (by kernel_rfl) (by kernel_rfl) (fun _ _ _ h => h) (Or.inl ⟨by rfl, ?_⟩) (by assumption) ?_
          rotate_left
          focus (intro w hSw; (try dsimp only at hSw); first | (go_simp; done) | (go_simp; with_reducible rfl))
          try simp only [Act.put, List.setIfInBounds_toArray, List.set_cons_zero, List.set_cons_succ]
          refine wpAnyH_take (i := 2) (oi := { dst := some 99, op := Op.binOp BinOp.neq 4 (Operand.tmp 97) (Operand.tmp 98) 4, type := 4, pos := "laws.go:267", after := #[{ on := 0, ground := Ground.data }, { on := 1, ground := Ground.data }], guard := none }) (v := ?_) rfl (by kernel_rfl) (by kernel_rfl) (by kernel_rfl) (fun _ _ _ h => h) (Or.inl ⟨by rfl, ?_⟩) (by assumption) ?_
          rotate_left
          focus (intro w hSw; (try dsimp only at hSw); first | (go_simp; done) | (go_simp; with_reducible rfl))
          try simp only [Act.put, List.setIfInBounds_toArray, List.set_cons_zero, List.set_cons_succ]
          refine wpAnyH_take (i := 3) (oi := { dst := some 100, op := Op.move (Operand.tmp 99), type := 4, pos := "laws.go:267", after := #[{ on := 2, ground := Ground.data }], guard := none }) (v := ?_) rfl (by kernel_rfl) (by kernel_rfl) (by kernel_rfl) (fun _ _ _ h => h) (Or.inl ⟨by rfl, ?_⟩) (by assumption) ?_
          rotate_left
          focus (intro w hSw; (try dsimp only at hSw); first | (go_simp; done) | (go_simp; with_reducible rfl))
          try simp only [Act.put, List.setIfInBounds_toArray, List.set_cons_zero, List.set_cons_succ]
          refine wpAnyH_take (i := 4) (oi := { dst := some 101, op := Op.load 27 (Operand.tmp 12), type := 27, pos := "laws.go:267", after := #[{ on := 3, ground := Ground.guard }], guard := some (3, false) }) (v := ?_) rfl (by kernel_rfl) (by kernel_rfl) (by kernel_rfl) (fun _ _ _ h => h) (Or.inl ⟨by rfl, ?_⟩) (by assumption) ?_
          rotate_left
          focus (intro w hSw; (try dsimp only at hSw); first | (go_simp; done) | (go_simp; with_reducible rfl))
          try simp only [Act.put, List.setIfInBounds_toArray, List.set_cons_zero, List.set_cons_succ]
          refine wpAnyH_take (i := 5) (oi := { dst := some 102, op := Op.load 27 (Operand.tmp 14), type := 27, pos := "laws.go:267", after := #[{ on := 3, ground := Ground.guard }], guard := some (3, false) }) (v := ?_) rfl (by kernel_rfl) (by kernel_rfl) (by kernel_rfl) (fun _ _ _ h => h) (Or.inl ⟨by rfl, ?_⟩) (by assumption) ?_
          rotate_left
          focus (intro w hSw; (try dsimp only at hSw); first | (go_simp; done) | (go_simp; with_reducible rfl))
          try simp only [Act.put, List.setIfInBounds_toArray, List.set_cons_zero, List.set_cons_succ]
          refine wpAnyH_ready (rs := [6]) (by kernel_rfl) (by simp) ?_
          refine AllReadyH.cons (o := { dst := some 103, op := Op.call { callee := Callee.value (Operand.func 8), args := #[Operand.tmp 101, Operand.tmp 102], argTypes := #[27, 27] }, type := 4, pos := "laws.go:267", after := #[{ on := 4, ground := Ground.data }, { on := 5, ground := Ground.data }, { on := 3, ground := Ground.chain }, { on := 3, ground := Ground.guard }], guard := some (3, false) }) rfl (fun K hK => ?_) AllReadyH.nil
          go_simp
          go_at_call 8
          refine (equal_own _ _ yb yr yo _ (Ru_15.out.below fb).lies (Rv_15.out.below fb).lies).mono ?_
          rintro e Wn ⟨rfl, fbn⟩
          replace fb := fb.trans (fbn.mono fb.size)
          refine hK.out _ _ ?_ (fun hHeld => ?_)
          · exact ⟨(CS_15.out.below fb).c0, (CS_15.out.below fb).c1, (CS_15.out.below fb).c2, (CU_15.out.below fb).c0, (CU_15.out.below fb).c1, (CU_15.out.below fb).c2, (CV_15.out.below fb).c0, (CV_15.out.below fb).c1, (CV_15.out.below fb).c2⟩
          clear hK K
          try simp only [Act.put, List.setIfInBounds_toArray, List.set_cons_zero, List.set_cons_succ]
          refine wpAnyH_take (i := 7) (oi := { dst := some 104, op := Op.unOp UnOp.not 4 (Operand.tmp 103), type := 4, pos := "laws.go:267", after := #[{ on := 6, ground := Ground.data }, { on := 3, ground := Ground.guard }], guard := some (3, false) }) (v := ?_) rfl (by kernel_rfl) (by kernel_rfl) (by kernel_rfl) (fun _ _ _ h => h) (Or.inl ⟨by rfl, ?_⟩) (by assumption) ?_
          rotate_left
          focus (intro w hSw; (try dsimp only at hSw); first | (go_simp; done) | (go_simp; with_reducible rfl))
          try simp only [Act.put, List.setIfInBounds_toArray, List.set_cons_zero, List.set_cons_succ]
          refine wpAnyH_take (i := 8) (oi := { dst := some 105, op := Op.pick (Operand.tmp 100) (Operand.const (Value.bool true)) (Operand.tmp 104), type := 4, pos := "laws.go:267", after := #[{ on := 3, ground := Ground.data }, { on := 7, ground := Ground.data }], guard := none }) (v := ?_) rfl (by kernel_rfl) (by kernel_rfl) (by kernel_rfl) (fun _ _ _ h => h) (Or.inl ⟨by rfl, ?_⟩) (by assumption) ?_
          rotate_left
          focus (intro w hSw; (try dsimp only at hSw); first | (go_simp; done) | (go_simp; with_reducible rfl))
          try simp only [Act.put, List.setIfInBounds_toArray, List.set_cons_zero, List.set_cons_succ]
          refine wpAnyH_take (i := 9) (oi := { dst := some 106, op := Op.move (Operand.tmp 105), type := 4, pos := "laws.go:267", after := #[{ on := 8, ground := Ground.data }, { on := 6, ground := Ground.chain }], guard := none }) (v := ?_) rfl (by kernel_rfl) (by kernel_rfl) (by kernel_rfl) (fun _ _ _ h => h) (Or.inl ⟨by rfl, ?_⟩) (by assumption) ?_
          rotate_left
          focus (intro w hSw; (try dsimp only at hSw); first | (go_simp; done) | (go_simp; with_reducible rfl))
          try simp only [Act.put, List.setIfInBounds_toArray, List.set_cons_zero, List.set_cons_succ]
          refine wpAnyH_take (i := 10) (oi := { dst := some 107, op := Op.move (Operand.tmp 13), type := 4, pos := "laws.go:267", after := #[{ on := 9, ground := Ground.guard }], guard := some (9, false) }) (v := ?_) rfl (by kernel_rfl) (by kernel_rfl) (by kernel_rfl) (fun _ _ _ h => h) (Or.inl ⟨by rfl, ?_⟩) (by assumption) ?_
          rotate_left
          focus (intro w hSw; (try dsimp only at hSw); first | (go_simp; done) | (go_simp; with_reducible rfl))
          try simp only [Act.put, List.setIfInBounds_toArray, List.set_cons_zero, List.set_cons_succ]
          refine wpAnyH_take (i := 11) (oi := { dst := some 108, op := Op.move (Operand.tmp 107), type := 4, pos := "laws.go:267", after := #[{ on := 10, ground := Ground.data }, { on := 9, ground := Ground.chain }, { on := 9, ground := Ground.guard }], guard := some (9, false) }) (v := ?_) rfl (by kernel_rfl) (by kernel_rfl) (by kernel_rfl) (fun _ _ _ h => h) (Or.inl ⟨by rfl, ?_⟩) (by assumption) ?_
          rotate_left
          focus (intro w hSw; (try dsimp only at hSw); first | (go_simp; done) | (go_simp; with_reducible rfl))
          try simp only [Act.put, List.setIfInBounds_toArray, List.set_cons_zero, List.set_cons_succ]
          refine wpAnyH_take (i := 12) (oi := { dst := some 109, op := Op.load 27 (Operand.tmp 14), type := 27, pos := "laws.go:267", after := #[{ on := 11, ground := Ground.guard }], guard := some (11, true) }) (v := undef) rfl (by kernel_rfl) (by kernel_rfl) (by kernel_rfl) (fun _ _ _ h => h) (Or.inr ⟨by rfl, rfl⟩) (by assumption) ?_
          try simp only [Act.put, List.setIfInBounds_toArray, List.set_cons_zero, List.set_cons_succ]
          refine wpAnyH_take (i := 13) (oi := { dst := some 110, op := Op.move (Operand.tmp 10), type := 3, pos := "laws.go:267", after := #[{ on := 11, ground := Ground.guard }], guard := some (11, true) }) (v := undef) rfl (by kernel_rfl) (by kernel_rfl) (by kernel_rfl) (fun _ _ _ h => h) (Or.inr ⟨by rfl, rfl⟩) (by assumption) ?_
          try simp only [Act.put, List.setIfInBounds_toArray, List.set_cons_zero, List.set_cons_succ]
          refine wpAnyH_take (i := 14) (oi := { dst := some 111, op := Op.call { callee := Callee.value (Operand.func 10), args := #[Operand.tmp 109, Operand.tmp 110], argTypes := #[27, 3] }, type := 3, pos := "laws.go:267", after := #[{ on := 12, ground := Ground.data }, { on := 13, ground := Ground.data }, { on := 11, ground := Ground.chain }, { on := 11, ground := Ground.guard }], guard := some (11, true) }) (v := undef) rfl (by kernel_rfl) (by kernel_rfl) (by kernel_rfl) (fun _ _ _ h => h) (Or.inr ⟨by rfl, rfl⟩) (by assumption) ?_
          try simp only [Act.put, List.setIfInBounds_toArray, List.set_cons_zero, List.set_cons_succ]
          refine wpAnyH_take (i := 15) (oi := { dst := some 112, op := Op.load 27 (Operand.tmp 11), type := 27, pos := "laws.go:267", after := #[{ on := 11, ground := Ground.guard }], guard := some (11, true) }) (v := undef) rfl (by kernel_rfl) (by kernel_rfl) (by kernel_rfl) (fun _ _ _ h => h) (Or.inr ⟨by rfl, rfl⟩) (by assumption) ?_
          try simp only [Act.put, List.setIfInBounds_toArray, List.set_cons_zero, List.set_cons_succ]
          refine wpAnyH_take (i := 16) (oi := { dst := some 113, op := Op.move (Operand.tmp 10), type := 3, pos := "laws.go:267", after := #[{ on := 11, ground := Ground.guard }], guard := some (11, true) }) (v := undef) rfl (by kernel_rfl) (by kernel_rfl) (by kernel_rfl) (fun _ _ _ h => h) (Or.inr ⟨by rfl, rfl⟩) (by assumption) ?_
          try simp only [Act.put, List.setIfInBounds_toArray, List.set_cons_zero, List.set_cons_succ]
          refine wpAnyH_take (i := 17) (oi := { dst := some 114, op := Op.binOp BinOp.add 3 (Operand.tmp 113) (Operand.const (Value.int IntKind.i64 1)) 3, type := 3, pos := "laws.go:267", after := #[{ on := 16, ground := Ground.data }, { on := 11, ground := Ground.guard }], guard := some (11, true) }) (v := undef) rfl (by kernel_rfl) (by kernel_rfl) (by kernel_rfl) (fun _ _ _ h => h) (Or.inr ⟨by rfl, rfl⟩) (by assumption) ?_
          try simp only [Act.put, List.setIfInBounds_toArray, List.set_cons_zero, List.set_cons_succ]
          refine wpAnyH_take (i := 18) (oi := { dst := some 115, op := Op.call { callee := Callee.value (Operand.func 12), args := #[Operand.tmp 112, Operand.tmp 114], argTypes := #[27, 3] }, type := 3, pos := "laws.go:267", after := #[{ on := 15, ground := Ground.data }, { on := 17, ground := Ground.data }, { on := 14, ground := Ground.chain }, { on := 11, ground := Ground.guard }], guard := some (11, true) }) (v := undef) rfl (by kernel_rfl) (by kernel_rfl) (by kernel_rfl) (fun _ _ _ h => h) (Or.inr ⟨by rfl, rfl⟩) (by assumption) ?_
          try simp only [Act.put, List.setIfInBounds_toArray, List.set_cons_zero, List.set_cons_succ]
          refine wpAnyH_take (i := 19) (oi := { dst := some 116, op := Op.binOp BinOp.neq 3 (Operand.tmp 111) (Operand.tmp 115) 3, type := 4, pos := "laws.go:267", after := #[{ on := 14, ground := Ground.data }, { on := 18, ground := Ground.data }, { on := 11, ground := Ground.guard }], guard := some (11, true) }) (v := undef) rfl (by kernel_rfl) (by kernel_rfl) (by kernel_rfl) (fun _ _ _ h => h) (Or.inr ⟨by rfl, rfl⟩) (by assumption) ?_
          try simp only [Act.put, List.setIfInBounds_toArray, List.set_cons_zero, List.set_cons_succ]
          refine wpAnyH_take (i := 20) (oi := { dst := some 117, op := Op.pick (Operand.tmp 108) (Operand.tmp 116) (Operand.const (Value.bool false)), type := 4, pos := "laws.go:267", after := #[{ on := 11, ground := Ground.data }, { on := 19, ground := Ground.data }, { on := 9, ground := Ground.guard }], guard := some (9, false) }) (v := ?_) rfl (by kernel_rfl) (by kernel_rfl) (by kernel_rfl) (fun _ _ _ h => h) (Or.inl ⟨by rfl, ?_⟩) (by assumption) ?_
          rotate_left
          focus (intro w hSw; (try dsimp only at hSw); first | (go_simp; done) | (go_simp; with_reducible rfl))
          try simp only [Act.put, List.setIfInBounds_toArray, List.set_cons_zero, List.set_cons_succ]
          refine wpAnyH_take (i := 21) (oi := { dst := some 118, op := Op.pick (Operand.tmp 106) (Operand.const (Value.bool true)) (Operand.tmp 117), type := 4, pos := "laws.go:267", after := #[{ on := 9, ground := Ground.data }, { on := 20, ground := Ground.data }], guard := none }) (v := ?_) rfl (by kernel_rfl) (by kernel_rfl) (by kernel_rfl) (fun _ _ _ h => h) (Or.inl ⟨by rfl, ?_⟩) (by assumption) ?_
          rotate_left
          focus (intro w hSw; (try dsimp only at hSw); first | (go_simp; done) | (go_simp; with_reducible rfl))
          try simp only [Act.put, List.setIfInBounds_toArray, List.set_cons_zero, List.set_cons_succ]
          refine wpAnyH_done (by kernel_rfl) ?_ _
          go_wp2_with fail
          go_meet
          exact ⟨rfl, fb⟩
        | true =>
          have hsl := HSL.out rfl n hn0 (by omega)
          have hw1 : IntKind.i64.wrap (n + 1) = n + 1 := by rw [IntKind.wrap_i64]; omega
          have CTV := Lib.hid (fun (W : World) (u : Value) (l : LiesS W u yb yr yo) => impl_termat u yb yr yo W l n)
          have CTS := Lib.hid (fun (W : World) (u : Value) (l : LiesS W u b2 rows2 out2) => spec_termat u b2 rows2 out2 W l (n + 1))
          rw [hsl] at CTV
          obtain ⟨tv, htv⟩ : ∃ t, t = termV b2 rows2 out2 (n + 1) := ⟨_, rfl⟩
          rw [← htv] at CTV CTS
          clear hsl htv
          have htt : (tv != tv) = false := by simp
          have fb := below_drew' W15
          refine wp_region_held_drew (S := (fun w' => w'.cell? ⟨W10.heap.size, 0, none⟩ = some (.int .i64 b2) ∧ w'.cell? ⟨W10.heap.size, 1, none⟩ = some (.slice ans rows2.length cns) ∧ w'.cell? ⟨W10.heap.size, 2, none⟩ = some (.slice aos out2.length cos) ∧ w'.cell? ⟨W12.heap.size, 0, none⟩ = some (.int .i64 yb) ∧ w'.cell? ⟨W12.heap.size, 1, none⟩ = some (.slice anu yr.length cnu) ∧ w'.cell? ⟨W12.heap.size, 2, none⟩ = some (.slice aou yo.length cou) ∧ w'.cell? ⟨W14.heap.size, 0, none⟩ = some (.int .i64 yb) ∧ w'.cell? ⟨W14.heap.size, 1, none⟩ = some (.slice anv yr.length cnv) ∧ w'.cell? ⟨W14.heap.size, 2, none⟩ = some (.slice aov yo.length cov))) (by kernel_rfl) ?_ (fun hHeld => ?_)
          · exact ⟨(CS_15.out.below fb).c0, (CS_15.out.below fb).c1, (CS_15.out.below fb).c2, (CU_15.out.below fb).c0, (CU_15.out.below fb).c1, (CU_15.out.below fb).c2, (CV_15.out.below fb).c0, (CV_15.out.below fb).c1, (CV_15.out.below fb).c2⟩
          refine wpAnyH_take (i := 0) (oi := { dst := some 97, op := Op.move (Operand.tmp 13), type := 4, pos := "laws.go:267", after := #[], guard := none }) (v := ?_) rfl (by kernel_rfl) (by kernel_rfl) (by kernel_rfl) (fun _ _ _ h => h) (Or.inl ⟨by rfl, ?_⟩) (by assumption) ?_
          rotate_left
          focus (intro w hSw; (try dsimp only at hSw); first | (go_simp; done) | (go_simp; with_reducible rfl))
          try simp only [Act.put, List.setIfInBounds_toArray, List.set_cons_zero, List.set_cons_succ]
          refine wpAnyH_take (i := 1) (oi := { dst := some 98, op := Op.move (Operand.tmp 15), type := 4, pos := "laws.go:267", after := #[], guard := none }) (v := ?_) rfl (by kernel_rfl) (by kernel_rfl) (by kernel_rfl) (fun _ _ _ h => h) (Or.inl ⟨by rfl, ?_⟩) (by assumption) ?_
          rotate_left
          focus (intro w hSw; (try dsimp only at hSw); first | (go_simp; done) | (go_simp; with_reducible rfl))
          try simp only [Act.put, List.setIfInBounds_toArray, List.set_cons_zero, List.set_cons_succ]
          refine wpAnyH_take (i := 2) (oi := { dst := some 99, op := Op.binOp BinOp.neq 4 (Operand.tmp 97) (Operand.tmp 98) 4, type := 4, pos := "laws.go:267", after := #[{ on := 0, ground := Ground.data }, { on := 1, ground := Ground.data }], guard := none }) (v := ?_) rfl (by kernel_rfl) (by kernel_rfl) (by kernel_rfl) (fun _ _ _ h => h) (Or.inl ⟨by rfl, ?_⟩) (by assumption) ?_
          rotate_left
          focus (intro w hSw; (try dsimp only at hSw); first | (go_simp; done) | (go_simp; with_reducible rfl))
          try simp only [Act.put, List.setIfInBounds_toArray, List.set_cons_zero, List.set_cons_succ]
          refine wpAnyH_take (i := 3) (oi := { dst := some 100, op := Op.move (Operand.tmp 99), type := 4, pos := "laws.go:267", after := #[{ on := 2, ground := Ground.data }], guard := none }) (v := ?_) rfl (by kernel_rfl) (by kernel_rfl) (by kernel_rfl) (fun _ _ _ h => h) (Or.inl ⟨by rfl, ?_⟩) (by assumption) ?_
          rotate_left
          focus (intro w hSw; (try dsimp only at hSw); first | (go_simp; done) | (go_simp; with_reducible rfl))
          try simp only [Act.put, List.setIfInBounds_toArray, List.set_cons_zero, List.set_cons_succ]
          refine wpAnyH_take (i := 4) (oi := { dst := some 101, op := Op.load 27 (Operand.tmp 12), type := 27, pos := "laws.go:267", after := #[{ on := 3, ground := Ground.guard }], guard := some (3, false) }) (v := ?_) rfl (by kernel_rfl) (by kernel_rfl) (by kernel_rfl) (fun _ _ _ h => h) (Or.inl ⟨by rfl, ?_⟩) (by assumption) ?_
          rotate_left
          focus (intro w hSw; (try dsimp only at hSw); first | (go_simp; done) | (go_simp; with_reducible rfl))
          try simp only [Act.put, List.setIfInBounds_toArray, List.set_cons_zero, List.set_cons_succ]
          refine wpAnyH_take (i := 5) (oi := { dst := some 102, op := Op.load 27 (Operand.tmp 14), type := 27, pos := "laws.go:267", after := #[{ on := 3, ground := Ground.guard }], guard := some (3, false) }) (v := ?_) rfl (by kernel_rfl) (by kernel_rfl) (by kernel_rfl) (fun _ _ _ h => h) (Or.inl ⟨by rfl, ?_⟩) (by assumption) ?_
          rotate_left
          focus (intro w hSw; (try dsimp only at hSw); first | (go_simp; done) | (go_simp; with_reducible rfl))
          try simp only [Act.put, List.setIfInBounds_toArray, List.set_cons_zero, List.set_cons_succ]
          refine wpAnyH_ready (rs := [6]) (by kernel_rfl) (by simp) ?_
          refine AllReadyH.cons (o := { dst := some 103, op := Op.call { callee := Callee.value (Operand.func 8), args := #[Operand.tmp 101, Operand.tmp 102], argTypes := #[27, 27] }, type := 4, pos := "laws.go:267", after := #[{ on := 4, ground := Ground.data }, { on := 5, ground := Ground.data }, { on := 3, ground := Ground.chain }, { on := 3, ground := Ground.guard }], guard := some (3, false) }) rfl (fun K hK => ?_) AllReadyH.nil
          go_simp
          go_at_call 8
          refine (equal_own _ _ yb yr yo _ (Ru_15.out.below fb).lies (Rv_15.out.below fb).lies).mono ?_
          rintro e Wn ⟨rfl, fbn⟩
          replace fb := fb.trans (fbn.mono fb.size)
          refine hK.out _ _ ?_ (fun hHeld => ?_)
          · exact ⟨(CS_15.out.below fb).c0, (CS_15.out.below fb).c1, (CS_15.out.below fb).c2, (CU_15.out.below fb).c0, (CU_15.out.below fb).c1, (CU_15.out.below fb).c2, (CV_15.out.below fb).c0, (CV_15.out.below fb).c1, (CV_15.out.below fb).c2⟩
          clear hK K
          try simp only [Act.put, List.setIfInBounds_toArray, List.set_cons_zero, List.set_cons_succ]
          refine wpAnyH_take (i := 7) (oi := { dst := some 104, op := Op.unOp UnOp.not 4 (Operand.tmp 103), type := 4, pos := "laws.go:267", after := #[{ on := 6, ground := Ground.data }, { on := 3, ground := Ground.guard }], guard := some (3, false) }) (v := ?_) rfl (by kernel_rfl) (by kernel_rfl) (by kernel_rfl) (fun _ _ _ h => h) (Or.inl ⟨by rfl, ?_⟩) (by assumption) ?_
          rotate_left
          focus (intro w hSw; (try dsimp only at hSw); first | (go_simp; done) | (go_simp; with_reducible rfl))
          try simp only [Act.put, List.setIfInBounds_toArray, List.set_cons_zero, List.set_cons_succ]
          refine wpAnyH_take (i := 8) (oi := { dst := some 105, op := Op.pick (Operand.tmp 100) (Operand.const (Value.bool true)) (Operand.tmp 104), type := 4, pos := "laws.go:267", after := #[{ on := 3, ground := Ground.data }, { on := 7, ground := Ground.data }], guard := none }) (v := ?_) rfl (by kernel_rfl) (by kernel_rfl) (by kernel_rfl) (fun _ _ _ h => h) (Or.inl ⟨by rfl, ?_⟩) (by assumption) ?_
          rotate_left
          focus (intro w hSw; (try dsimp only at hSw); first | (go_simp; done) | (go_simp; with_reducible rfl))
          try simp only [Act.put, List.setIfInBounds_toArray, List.set_cons_zero, List.set_cons_succ]
          refine wpAnyH_take (i := 9) (oi := { dst := some 106, op := Op.move (Operand.tmp 105), type := 4, pos := "laws.go:267", after := #[{ on := 8, ground := Ground.data }, { on := 6, ground := Ground.chain }], guard := none }) (v := ?_) rfl (by kernel_rfl) (by kernel_rfl) (by kernel_rfl) (fun _ _ _ h => h) (Or.inl ⟨by rfl, ?_⟩) (by assumption) ?_
          rotate_left
          focus (intro w hSw; (try dsimp only at hSw); first | (go_simp; done) | (go_simp; with_reducible rfl))
          try simp only [Act.put, List.setIfInBounds_toArray, List.set_cons_zero, List.set_cons_succ]
          refine wpAnyH_take (i := 10) (oi := { dst := some 107, op := Op.move (Operand.tmp 13), type := 4, pos := "laws.go:267", after := #[{ on := 9, ground := Ground.guard }], guard := some (9, false) }) (v := ?_) rfl (by kernel_rfl) (by kernel_rfl) (by kernel_rfl) (fun _ _ _ h => h) (Or.inl ⟨by rfl, ?_⟩) (by assumption) ?_
          rotate_left
          focus (intro w hSw; (try dsimp only at hSw); first | (go_simp; done) | (go_simp; with_reducible rfl))
          try simp only [Act.put, List.setIfInBounds_toArray, List.set_cons_zero, List.set_cons_succ]
          refine wpAnyH_take (i := 11) (oi := { dst := some 108, op := Op.move (Operand.tmp 107), type := 4, pos := "laws.go:267", after := #[{ on := 10, ground := Ground.data }, { on := 9, ground := Ground.chain }, { on := 9, ground := Ground.guard }], guard := some (9, false) }) (v := ?_) rfl (by kernel_rfl) (by kernel_rfl) (by kernel_rfl) (fun _ _ _ h => h) (Or.inl ⟨by rfl, ?_⟩) (by assumption) ?_
          rotate_left
          focus (intro w hSw; (try dsimp only at hSw); first | (go_simp; done) | (go_simp; with_reducible rfl))
          try simp only [Act.put, List.setIfInBounds_toArray, List.set_cons_zero, List.set_cons_succ]
          refine wpAnyH_take (i := 12) (oi := { dst := some 109, op := Op.load 27 (Operand.tmp 14), type := 27, pos := "laws.go:267", after := #[{ on := 11, ground := Ground.guard }], guard := some (11, true) }) (v := ?_) rfl (by kernel_rfl) (by kernel_rfl) (by kernel_rfl) (fun _ _ _ h => h) (Or.inl ⟨by rfl, ?_⟩) (by assumption) ?_
          rotate_left
          focus (intro w hSw; (try dsimp only at hSw); first | (go_simp; done) | (go_simp; with_reducible rfl))
          try simp only [Act.put, List.setIfInBounds_toArray, List.set_cons_zero, List.set_cons_succ]
          refine wpAnyH_take (i := 13) (oi := { dst := some 110, op := Op.move (Operand.tmp 10), type := 3, pos := "laws.go:267", after := #[{ on := 11, ground := Ground.guard }], guard := some (11, true) }) (v := ?_) rfl (by kernel_rfl) (by kernel_rfl) (by kernel_rfl) (fun _ _ _ h => h) (Or.inl ⟨by rfl, ?_⟩) (by assumption) ?_
          rotate_left
          focus (intro w hSw; (try dsimp only at hSw); first | (go_simp; done) | (go_simp; with_reducible rfl))
          try simp only [Act.put, List.setIfInBounds_toArray, List.set_cons_zero, List.set_cons_succ]
          refine wpAnyH_take (i := 15) (oi := { dst := some 112, op := Op.load 27 (Operand.tmp 11), type := 27, pos := "laws.go:267", after := #[{ on := 11, ground := Ground.guard }], guard := some (11, true) }) (v := ?_) rfl (by kernel_rfl) (by kernel_rfl) (by kernel_rfl) (fun _ _ _ h => h) (Or.inl ⟨by rfl, ?_⟩) (by assumption) ?_
          rotate_left
          focus (intro w hSw; (try dsimp only at hSw); first | (go_simp; done) | (go_simp; with_reducible rfl))
          try simp only [Act.put, List.setIfInBounds_toArray, List.set_cons_zero, List.set_cons_succ]
          refine wpAnyH_take (i := 16) (oi := { dst := some 113, op := Op.move (Operand.tmp 10), type := 3, pos := "laws.go:267", after := #[{ on := 11, ground := Ground.guard }], guard := some (11, true) }) (v := ?_) rfl (by kernel_rfl) (by kernel_rfl) (by kernel_rfl) (fun _ _ _ h => h) (Or.inl ⟨by rfl, ?_⟩) (by assumption) ?_
          rotate_left
          focus (intro w hSw; (try dsimp only at hSw); first | (go_simp; done) | (go_simp; with_reducible rfl))
          try simp only [Act.put, List.setIfInBounds_toArray, List.set_cons_zero, List.set_cons_succ]
          refine wpAnyH_take (i := 17) (oi := { dst := some 114, op := Op.binOp BinOp.add 3 (Operand.tmp 113) (Operand.const (Value.int IntKind.i64 1)) 3, type := 3, pos := "laws.go:267", after := #[{ on := 16, ground := Ground.data }, { on := 11, ground := Ground.guard }], guard := some (11, true) }) (v := ?_) rfl (by kernel_rfl) (by kernel_rfl) (by kernel_rfl) (fun _ _ _ h => h) (Or.inl ⟨by rfl, ?_⟩) (by assumption) ?_
          rotate_left
          focus (intro w hSw; (try dsimp only at hSw); first | (go_simp; done) | (go_simp; with_reducible rfl))
          try simp only [Act.put, List.setIfInBounds_toArray, List.set_cons_zero, List.set_cons_succ]
          refine wpAnyH_ready (rs := [14]) (by kernel_rfl) (by simp) ?_
          refine AllReadyH.cons (o := { dst := some 111, op := Op.call { callee := Callee.value (Operand.func 10), args := #[Operand.tmp 109, Operand.tmp 110], argTypes := #[27, 3] }, type := 3, pos := "laws.go:267", after := #[{ on := 12, ground := Ground.data }, { on := 13, ground := Ground.data }, { on := 11, ground := Ground.chain }, { on := 11, ground := Ground.guard }], guard := some (11, true) }) rfl (fun K hK => ?_) AllReadyH.nil
          go_simp
          go_at_call 10
          refine (CTV.out _ _ (Rv_15.out.below fb).lies).mono ?_
          rintro e Wn ⟨rfl, fbn⟩
          replace fb := fb.trans (fbn.mono fb.size)
          refine hK.out _ _ ?_ (fun hHeld => ?_)
          · exact ⟨(CS_15.out.below fb).c0, (CS_15.out.below fb).c1, (CS_15.out.below fb).c2, (CU_15.out.below fb).c0, (CU_15.out.below fb).c1, (CU_15.out.below fb).c2, (CV_15.out.below fb).c0, (CV_15.out.below fb).c1, (CV_15.out.below fb).c2⟩
          clear hK K
          try simp only [Act.put, List.setIfInBounds_toArray, List.set_cons_zero, List.set_cons_succ]
          refine wpAnyH_ready (rs := [18]) (by kernel_rfl) (by simp) ?_
          refine AllReadyH.cons (o := { dst := some 115, op := Op.call { callee := Callee.value (Operand.func 12), args := #[Operand.tmp 112, Operand.tmp 114], argTypes := #[27, 3] }, type := 3, pos := "laws.go:267", after := #[{ on := 15, ground := Ground.data }, { on := 17, ground := Ground.data }, { on := 14, ground := Ground.chain }, { on := 11, ground := Ground.guard }], guard := some (11, true) }) rfl (fun K hK => ?_) AllReadyH.nil
          go_simp
          go_at_call 12
          refine (CTS.out _ _ (Rs_15.out.below fb).lies).mono ?_
          rintro e Wn ⟨rfl, fbn⟩
          replace fb := fb.trans (fbn.mono fb.size)
          refine hK.out _ _ ?_ (fun hHeld => ?_)
          · exact ⟨(CS_15.out.below fb).c0, (CS_15.out.below fb).c1, (CS_15.out.below fb).c2, (CU_15.out.below fb).c0, (CU_15.out.below fb).c1, (CU_15.out.below fb).c2, (CV_15.out.below fb).c0, (CV_15.out.below fb).c1, (CV_15.out.below fb).c2⟩
          clear hK K
          try simp only [Act.put, List.setIfInBounds_toArray, List.set_cons_zero, List.set_cons_succ]
          refine wpAnyH_take (i := 19) (oi := { dst := some 116, op := Op.binOp BinOp.neq 3 (Operand.tmp 111) (Operand.tmp 115) 3, type := 4, pos := "laws.go:267", after := #[{ on := 14, ground := Ground.data }, { on := 18, ground := Ground.data }, { on := 11, ground := Ground.guard }], guard := some (11, true) }) (v := ?_) rfl (by kernel_rfl) (by kernel_rfl) (by kernel_rfl) (fun _ _ _ h => h) (Or.inl ⟨by rfl, ?_⟩) (by assumption) ?_
          rotate_left
          focus (intro w hSw; (try dsimp only at hSw); first | (go_simp; done) | (go_simp; with_reducible rfl))
          try simp only [Act.put, List.setIfInBounds_toArray, List.set_cons_zero, List.set_cons_succ]
          refine wpAnyH_take (i := 20) (oi := { dst := some 117, op := Op.pick (Operand.tmp 108) (Operand.tmp 116) (Operand.const (Value.bool false)), type := 4, pos := "laws.go:267", after := #[{ on := 11, ground := Ground.data }, { on := 19, ground := Ground.data }, { on := 9, ground := Ground.guard }], guard := some (9, false) }) (v := ?_) rfl (by kernel_rfl) (by kernel_rfl) (by kernel_rfl) (fun _ _ _ h => h) (Or.inl ⟨by rfl, ?_⟩) (by assumption) ?_
          rotate_left
          focus (intro w hSw; (try dsimp only at hSw); first | (go_simp; done) | (go_simp; with_reducible rfl))
          try simp only [Act.put, List.setIfInBounds_toArray, List.set_cons_zero, List.set_cons_succ]
          refine wpAnyH_take (i := 21) (oi := { dst := some 118, op := Op.pick (Operand.tmp 106) (Operand.const (Value.bool true)) (Operand.tmp 117), type := 4, pos := "laws.go:267", after := #[{ on := 9, ground := Ground.data }, { on := 20, ground := Ground.data }], guard := none }) (v := ?_) rfl (by kernel_rfl) (by kernel_rfl) (by kernel_rfl) (fun _ _ _ h => h) (Or.inl ⟨by rfl, ?_⟩) (by assumption) ?_
          rotate_left
          focus (intro w hSw; (try dsimp only at hSw); first | (go_simp; done) | (go_simp; with_reducible rfl))
          try simp only [Act.put, List.setIfInBounds_toArray, List.set_cons_zero, List.set_cons_succ]
          refine wpAnyH_done (by kernel_rfl) ?_ _
          go_wp2_with fail
          go_meet
          exact ⟨rfl, fb⟩
    case rest =>
      obtain ⟨rfl, bw16⟩ := hcut
      obtain ⟨W16, rfl⟩ : ∃ W, W = wc := ⟨_, rfl⟩
      have bw := bw16.out
      have HB_16 := Lib.hid (HB_15.out.trans (bw.mono HB_15.out.size))
      have CS_16 := Lib.hid (CS_15.out.below bw)
      have CU_16 := Lib.hid (CU_15.out.below bw)
      have CV_16 := Lib.hid (CV_15.out.below bw)
      have Rs_16 := Lib.hid (Rs_15.out.below bw)
      have Ru_16 := Lib.hid (Ru_15.out.below bw)
      have Rv_16 := Lib.hid (Rv_15.out.below bw)
      have Z23 := Lib.hid (bw.size)
      clear CS_15 CU_15 CV_15 Rs_15 Ru_15 Rv_15 HB_15 bw16 bw
      clear Rs_16 Ru_16 Rv_16 CS_16 CU_16 CV_16
      have CV3 := Lib.hid (Cursor.code_next HC.out HB_16.out)
      go_wp2_with fail
      refine (Cursor.drawDigSeq W16 W16 a len cap hlen CV3.out (Below.refl _ _)).mono ?_
      rintro e W17 ⟨k, m, ⟨hk1, hk5, hm0, hm6⟩, rfl, fb17⟩
      have HB_17 := Lib.hid (HB_16.out.trans (fb17.mono HB_16.out.size))
      have Z24 := Lib.hid (fb17.size)
      clear HB_16 fb17
      have CDI := Lib.hid (fun W : World => impl_dig k m W)
      have CDS := Lib.hid (fun W : World => spec_dig k m W)
      have HDL := Lib.hid (fun h : dgK k m = true => dg_law h)
      have hzk0 : dgK k m = dgK k m := rfl
      obtain ⟨zk, hzk⟩ : ∃ y, y = dgK k m := ⟨_, rfl⟩
      obtain ⟨zr, hzr⟩ : ∃ y, y = dgR k m := ⟨_, rfl⟩
      obtain ⟨zo, hzo⟩ : ∃ y, y = dgO k m := ⟨_, rfl⟩
      obtain ⟨zb, hzb⟩ : ∃ y, y = dgB k m := ⟨_, rfl⟩
      rw [← hzb, ← hzr, ← hzo, ← hzk] at CDI CDS HDL
      have HZK := Lib.hid hzk
      have hzz : (zk != zk) = false := by simp
      clear hzb hzr hzo hzk hzk0
      go_wp2_with fail
      refine (CDI.out _).mono ?_
      rintro e W18 ⟨vd, rfl, h18, fb18⟩
      have HB_18 := Lib.hid (HB_17.out.trans (fb18.mono HB_17.out.size))
      have Z25 := Lib.hid (fb18.size)
      have Rd_18 := Lib.hid h18
      clear HB_17 fb18 h18
      obtain ⟨and, cnd, aod, cod, rfl⟩ := Rd_18.out.form
      go_wp2_with fail
      have bx19 : Below W18.heap.size W18 (W18.alloc (Obj.cells #[.int .i64 zb, .slice and zr.length cnd, .slice aod zo.length cod] 27)) := (Below.refl _ _).alloc (Nat.le_refl _) _
      have cx19 := Cells3.new W18 27 (.int .i64 zb) (.slice and zr.length cnd) (.slice aod zo.length cod)
      have hz19 : (W18.alloc (Obj.cells #[.int .i64 zb, .slice and zr.length cnd, .slice aod zo.length cod] 27)).heap.size = W18.heap.size + 1 := size_alloc' _ _
      obtain ⟨W19, hW19⟩ : ∃ W, W = (W18.alloc (Obj.cells #[.int .i64 zb, .slice and zr.length cnd, .slice aod zo.length cod] 27)) := ⟨_, rfl⟩
      rw [← hW19] at bx19 cx19 hz19 ⊢
      have HB_19 := Lib.hid (HB_18.out.trans (bx19.mono HB_18.out.size))
      have Rd_19 := Lib.hid (Rd_18.out.below bx19)
      have Z26 := Lib.hid (bx19.size)
      have CD_19 := Lib.hid cx19
      have Z27 := Lib.hid hz19
      clear Rd_18 HB_18 bx19 hW19 cx19
      clear hz19
      refine (CDS.out _).mono ?_
      rintro e W20 ⟨ve, rfl, h20, fb20⟩
      have HB_20 := Lib.hid (HB_19.out.trans (fb20.mono HB_19.out.size))
      have CD_20 := Lib.hid (CD_19.out.below fb20)
      have Rd_20 := Lib.hid (Rd_19.out.below fb20)
      have Z28 := Lib.hid (fb20.size)
      have Re_20 := Lib.hid h20
      clear CD_19 Rd_19 HB_19 fb20 h20
      obtain ⟨ane, cne, aoe, coe, rfl⟩ := Re_20.out.form
      have kD0 := (CD_20.out.alloc (Obj.cells #[.int .i64 zb, .slice ane zr.length cne, .slice aoe zo.length coe] 27)).c0
      have kD1 := (CD_20.out.alloc (Obj.cells #[.int .i64 zb, .slice ane zr.length cne, .slice aoe zo.length coe] 27)).c1
      have kD2 := (CD_20.out.alloc (Obj.cells #[.int .i64 zb, .slice ane zr.length cne, .slice aoe zo.length coe] 27)).c2
      go_upto_region 19 with fail
      clear kD0 kD1 kD2
      have bx21 : Below W20.heap.size W20 (W20.alloc (Obj.cells #[.int .i64 zb, .slice ane zr.length cne, .slice aoe zo.length coe] 27)) := (Below.refl _ _).alloc (Nat.le_refl _) _
      have cx21 := Cells3.new W20 27 (.int .i64 zb) (.slice ane zr.length cne) (.slice aoe zo.length coe)
      have hz21 : (W20.alloc (Obj.cells #[.int .i64 zb, .slice ane zr.length cne, .slice aoe zo.length coe] 27)).heap.size = W20.heap.size + 1 := size_alloc' _ _
      obtain ⟨W21, hW21⟩ : ∃ W, W = (W20.alloc (Obj.cells #[.int .i64 zb, .slice ane zr.length cne, .slice aoe zo.length coe] 27)) := ⟨_, rfl⟩
      rw [← hW21] at bx21 cx21 hz21 ⊢
      have HB_21 := Lib.hid (HB_20.out.trans (bx21.mono HB_20.out.size))
      have CD_21 := Lib.hid (CD_20.out.below bx21)
      have Rd_21 := Lib.hid (Rd_20.out.below bx21)
      have Re_21 := Lib.hid (Re_20.out.below bx21)
      have Z29 := Lib.hid (bx21.size)
      have CE_21 := Lib.hid cx21
      have Z30 := Lib.hid hz21
      clear CD_20 Rd_20 Re_20 HB_20 bx21 hW21 cx21
      clear hz21
      go_cut [158] (fun s wx => s = .bool false ∧ Hid (Below W21.heap.size W21 wx))
      case first =>
        as_aux_lemma =>
          have kD0 := CD_21.out.c0
          have kD1 := CD_21.out.c1
          have kD2 := CD_21.out.c2
          have kE0 := CE_21.out.c0
          have kE1 := CE_21.out.c1
          have kE2 := CE_21.out.c2
          cases zk with
          | false =>
            go_wp2_with (go_at_call 8; refine (equal_own _ _ zb zr zo _ Rd_21.out.lies Re_21.out.lies).mono ?_; rintro e Wn ⟨rfl, fb⟩; have qD0 := (CD_21.out.below fb).c0; have qD1 := (CD_21.out.below fb).c1; have qD2 := (CD_21.out.below fb).c2; have qE0 := (CE_21.out.below fb).c0; have qE1 := (CE_21.out.below fb).c1; have qE2 := (CE_21.out.below fb).c2)
            go_meet
            exact ⟨rfl, fb⟩
          | true =>
            obtain ⟨hm1, hdl2⟩ := HDL.out rfl n hn0 (by omega)
            have hsn := sum_nonneg HZK.out hn0
            have CTE := Lib.hid (fun (W : World) (u : Value) (l : LiesS W u zb zr zo) => impl_termat u zb zr zo W l n)
            have CDD := Lib.hid (fun W : World => spec_sum n k W)
            obtain ⟨sv, hsv⟩ : ∃ t, t = sumD (digV n k) := ⟨_, rfl⟩
            rw [← hsv] at CDD hdl2 hsn
            rw [hdl2] at CTE
            have hm00 : (m == 0) = false := by simp; omega
            obtain ⟨rv, hrv⟩ : ∃ t, t = sv % m := ⟨_, rfl⟩
            have hr1 : sv % m = rv := hrv.symm
            have hr2 : sv.tmod m = rv := by rw [Int.tmod_eq_emod_of_nonneg hsn]; exact hr1
            rw [← hrv] at CTE
            have hrr : (rv != rv) = false := by simp
            clear hsv hrv hdl2
            go_wp2_with (first | (go_at_call 8; refine (equal_own _ _ zb zr zo _ Rd_21.out.lies Re_21.out.lies).mono ?_; rintro e Wn ⟨rfl, fb⟩; have qD0 := (CD_21.out.below fb).c0; have qD1 := (CD_21.out.below fb).c1; have qD2 := (CD_21.out.below fb).c2; have qE0 := (CE_21.out.below fb).c0; have qE1 := (CE_21.out.below fb).c1; have qE2 := (CE_21.out.below fb).c2) | (go_at_call 10; refine (CTE.out _ _ (Re_21.out.below fb).lies).mono ?_; rintro e Wm ⟨rfl, fb2⟩) | (go_at_call 19; refine (CDD.out _).mono ?_; rintro e Wk ⟨rfl, fb3⟩))
            go_meet
            exact ⟨rfl, (fb.trans (fb2.mono fb.size)).trans (fb3.mono (fb.trans (fb2.mono fb.size)).size)⟩
      case rest =>
        obtain ⟨rfl, bw22⟩ := hcut
        obtain ⟨W22, rfl⟩ : ∃ W, W = wc := ⟨_, rfl⟩
        have bw := bw22.out
        have HB_22 := Lib.hid (HB_21.out.trans (bw.mono HB_21.out.size))
        have CD_22 := Lib.hid (CD_21.out.below bw)
        have CE_22 := Lib.hid (CE_21.out.below bw)
        have Rd_22 := Lib.hid (Rd_21.out.below bw)
        have Re_22 := Lib.hid (Re_21.out.below bw)
        have Z31 := Lib.hid (bw.size)
        clear CD_21 CE_21 Rd_21 Re_21 HB_21 bw22 bw
        clear Rd_22 Re_22 CD_22 CE_22
        have CV4 := Lib.hid (Cursor.code_next HC.out HB_22.out)
        go_wp2_with fail
        refine (Cursor.drawMap W22 a len cap hlen CV4.out).mono ?_
        rintro e W23 ⟨vp, b3, rows3, out3, vt, tab, tbase, hok3, ht2, ht4, rfl, h23, htab, fb23⟩
        have HB_23 := Lib.hid (HB_22.out.trans (fb23.mono HB_22.out.size))
        have Z32 := Lib.hid (fb23.size)
        have Rp_23 := Lib.hid h23
        clear HB_22 fb23 h23
        have Rt_23 := Lib.hid htab
        clear htab
        have hz3 := ok_size hok3
        clear hok3
        have CMI := Lib.hid (fun (W : World) (u tv : Value) (l : LiesS W u b3 rows3 out3) (k : Lies (Value.int .i64) W tv tab) => impl_map u b3 rows3 out3 W l tv tab k hz3)
        have CMS := Lib.hid (fun (W : World) (u tv : Value) (l : LiesS W u b3 rows3 out3) (k : Lies (Value.int .i64) W tv tab) => spec_map u b3 rows3 out3 W l tv tab k hz3)
        have HML := Lib.hid (fun h : mapK b3 rows3 out3 tab = true => map_law h)
        clear hz3
        obtain ⟨mk, hmk⟩ : ∃ y, y = mapK b3 rows3 out3 tab := ⟨_, rfl⟩
        obtain ⟨mr, hmr⟩ : ∃ y, y = mapR b3 rows3 out3 tab := ⟨_, rfl⟩
        obtain ⟨mo, hmo⟩ : ∃ y, y = mapO b3 rows3 out3 tab := ⟨_, rfl⟩
        obtain ⟨mb, hmb⟩ : ∃ y, y = mapB b3 rows3 out3 tab := ⟨_, rfl⟩
        rw [← hmb, ← hmr, ← hmo, ← hmk] at CMI CMS HML
        have hmm : (mk == mk) = true := by simp
        clear hmb hmr hmo hmk
        obtain ⟨anp, cnp, aop, cop, rfl⟩ := Rp_23.out.form
        obtain ⟨at0, ct0, rfl, htg0⟩ := Rt_23.out.form
        obtain ⟨tg, rfl⟩ := htg0 (by omega)
        go_wp2_with fail
        have bx24 : Below W23.heap.size W23 (W23.alloc (Obj.cells #[.int .i64 b3, .slice anp rows3.length cnp, .slice aop out3.length cop] 27)) := (Below.refl _ _).alloc (Nat.le_refl _) _
        have cx24 := Cells3.new W23 27 (.int .i64 b3) (.slice anp rows3.length cnp) (.slice aop out3.length cop)
        have hz24 : (W23.alloc (Obj.cells #[.int .i64 b3, .slice anp rows3.length cnp, .slice aop out3.length cop] 27)).heap.size = W23.heap.size + 1 := size_alloc' _ _
        obtain ⟨W24, hW24⟩ : ∃ W, W = (W23.alloc (Obj.cells #[.int .i64 b3, .slice anp rows3.length cnp, .slice aop out3.length cop] 27)) := ⟨_, rfl⟩
        rw [← hW24] at bx24 cx24 hz24 ⊢
        have HB_24 := Lib.hid (HB_23.out.trans (bx24.mono HB_23.out.size))
        have Rp_24 := Lib.hid (Rp_23.out.below bx24)
        have Rt_24 := Lib.hid (Rt_23.out.below bx24)
        have Z33 := Lib.hid (bx24.size)
        have CP_24 := Lib.hid cx24
        have Z34 := Lib.hid hz24
        clear Rp_23 Rt_23 HB_23 bx24 hW24 cx24
        clear hz24
        refine (CMI.out _ _ _ Rp_24.out.lies Rt_24.out.lies).mono ?_
        rintro e W25 ⟨vf, rfl, h25, fb25⟩
        have HB_25 := Lib.hid (HB_24.out.trans (fb25.mono HB_24.out.size))
        have CP_25 := Lib.hid (CP_24.out.below fb25)
        have Rp_25 := Lib.hid (Rp_24.out.below fb25)
        have Rt_25 := Lib.hid (Rt_24.out.below fb25)
        have Z35 := Lib.hid (fb25.size)
        have Rf_25 := Lib.hid h25
        clear CP_24 Rp_24 Rt_24 HB_24 fb25 h25
        obtain ⟨anf, cnf, aof, cof, rfl⟩ := Rf_25.out.form
        have kP0 := (CP_25.out.alloc (Obj.cells #[.int .i64 mb, .slice anf mr.length cnf, .slice aof mo.length cof] 27)).c0
        have kP1 := (CP_25.out.alloc (Obj.cells #[.int .i64 mb, .slice anf mr.length cnf, .slice aof mo.length cof] 27)).c1
        have kP2 := (CP_25.out.alloc (Obj.cells #[.int .i64 mb, .slice anf mr.length cnf, .slice aof mo.length cof] 27)).c2
        go_wp2_with fail
        clear kP0 kP1 kP2
        have bx26 : Below W25.heap.size W25 (W25.alloc (Obj.cells #[.int .i64 mb, .slice anf mr.length cnf, .slice aof mo.length cof] 27)) := (Below.refl _ _).alloc (Nat.le_refl _) _
        have cx26 := Cells3.new W25 27 (.int .i64 mb) (.slice anf mr.length cnf) (.slice aof mo.length cof)
        have hz26 : (W25.alloc (Obj.cells #[.int .i64 mb, .slice anf mr.length cnf, .slice aof mo.length cof] 27)).heap.size = W25.heap.size + 1 := size_alloc' _ _
        obtain ⟨W26, hW26⟩ : ∃ W, W = (W25.alloc (Obj.cells #[.int .i64 mb, .slice anf mr.length cnf, .slice aof mo.length cof] 27)) := ⟨_, rfl⟩
        rw [← hW26] at bx26 cx26 hz26 ⊢
        have HB_26 := Lib.hid (HB_25.out.trans (bx26.mono HB_25.out.size))
        have CP_26 := Lib.hid (CP_25.out.below bx26)
        have Rp_26 := Lib.hid (Rp_25.out.below bx26)
        have Rt_26 := Lib.hid (Rt_25.out.below bx26)
        have Rf_26 := Lib.hid (Rf_25.out.below bx26)
        have Z36 := Lib.hid (bx26.size)
        have CF_26 := Lib.hid cx26
        have Z37 := Lib.hid hz26
        clear CP_25 Rp_25 Rt_25 Rf_25 HB_25 bx26 hW26 cx26
        clear hz26
        refine (CMS.out _ _ _ Rp_26.out.lies Rt_26.out.lies).mono ?_
        rintro e W27 ⟨vg, rfl, h27, fb27⟩
        have HB_27 := Lib.hid (HB_26.out.trans (fb27.mono HB_26.out.size))
        have CP_27 := Lib.hid (CP_26.out.below fb27)
        have CF_27 := Lib.hid (CF_26.out.below fb27)
        have Rp_27 := Lib.hid (Rp_26.out.below fb27)
        have Rt_27 := Lib.hid (Rt_26.out.below fb27)
        have Rf_27 := Lib.hid (Rf_26.out.below fb27)
        have Z38 := Lib.hid (fb27.size)
        have Rg_27 := Lib.hid h27
        clear CP_26 CF_26 Rp_26 Rt_26 Rf_26 HB_26 fb27 h27
        obtain ⟨ang, cng, aog, cog, rfl⟩ := Rg_27.out.form
        have kP0 := (CP_27.out.alloc (Obj.cells #[.int .i64 mb, .slice ang mr.length cng, .slice aog mo.length cog] 27)).c0
        have kP1 := (CP_27.out.alloc (Obj.cells #[.int .i64 mb, .slice ang mr.length cng, .slice aog mo.length cog] 27)).c1
        have kP2 := (CP_27.out.alloc (Obj.cells #[.int .i64 mb, .slice ang mr.length cng, .slice aog mo.length cog] 27)).c2
        have kF0 := (CF_27.out.alloc (Obj.cells #[.int .i64 mb, .slice ang mr.length cng, .slice aog mo.length cog] 27)).c0
        have kF1 := (CF_27.out.alloc (Obj.cells #[.int .i64 mb, .slice ang mr.length cng, .slice aog mo.length cog] 27)).c1
        have kF2 := (CF_27.out.alloc (Obj.cells #[.int .i64 mb, .slice ang mr.length cng, .slice aog mo.length cog] 27)).c2
        go_wp2_with fail
        clear kP0 kP1 kP2 kF0 kF1 kF2
        have bx28 : Below W27.heap.size W27 (W27.alloc (Obj.cells #[.int .i64 mb, .slice ang mr.length cng, .slice aog mo.length cog] 27)) := (Below.refl _ _).alloc (Nat.le_refl _) _
        have cx28 := Cells3.new W27 27 (.int .i64 mb) (.slice ang mr.length cng) (.slice aog mo.length cog)
        have hz28 : (W27.alloc (Obj.cells #[.int .i64 mb, .slice ang mr.length cng, .slice aog mo.length cog] 27)).heap.size = W27.heap.size + 1 := size_alloc' _ _
        obtain ⟨W28, hW28⟩ : ∃ W, W = (W27.alloc (Obj.cells #[.int .i64 mb, .slice ang mr.length cng, .slice aog mo.length cog] 27)) := ⟨_, rfl⟩
        rw [← hW28] at bx28 cx28 hz28 ⊢
        have HB_28 := Lib.hid (HB_27.out.trans (bx28.mono HB_27.out.size))
        have CP_28 := Lib.hid (CP_27.out.below bx28)
        have CF_28 := Lib.hid (CF_27.out.below bx28)
        have Rp_28 := Lib.hid (Rp_27.out.below bx28)
        have Rt_28 := Lib.hid (Rt_27.out.below bx28)
        have Rf_28 := Lib.hid (Rf_27.out.below bx28)
        have Rg_28 := Lib.hid (Rg_27.out.below bx28)
        have Z39 := Lib.hid (bx28.size)
        have CG_28 := Lib.hid cx28
        have Z40 := Lib.hid hz28
        clear CP_27 CF_27 Rp_27 Rt_27 Rf_27 Rg_27 HB_27 bx28 hW28 cx28
        clear hz28
        refine (Cursor.drawConst W28 W28 a len cap hlen (Cursor.code_next HC.out HB_28.out) (Below.refl _ _)).mono ?_
        rintro e W29 ⟨q, qv, ⟨hq1, hq5, hqv0, hqv4⟩, rfl, fb29⟩
        have HB_29 := Lib.hid (HB_28.out.trans (fb29.mono HB_28.out.size))
        have CP_29 := Lib.hid (CP_28.out.below fb29)
        have CF_29 := Lib.hid (CF_28.out.below fb29)
        have CG_29 := Lib.hid (CG_28.out.below fb29)
        have Rp_29 := Lib.hid (Rp_28.out.below fb29)
        have Rt_29 := Lib.hid (Rt_28.out.below fb29)
        have Rf_29 := Lib.hid (Rf_28.out.below fb29)
        have Rg_29 := Lib.hid (Rg_28.out.below fb29)
        have Z41 := Lib.hid (fb29.size)
        clear CP_28 CF_28 CG_28 Rp_28 Rt_28 Rf_28 Rg_28 HB_28 fb29
        have CQI := Lib.hid (fun W : World => impl_const q qv W)
        have CQS := Lib.hid (fun W : World => spec_const q qv W)
        obtain ⟨ck, hck⟩ : ∃ y, y = conK q qv := ⟨_, rfl⟩
        obtain ⟨cr, hcr⟩ : ∃ y, y = conR q qv := ⟨_, rfl⟩
        obtain ⟨co, hco⟩ : ∃ y, y = conO q qv := ⟨_, rfl⟩
        obtain ⟨cb, hcb⟩ : ∃ y, y = conB q qv := ⟨_, rfl⟩
        rw [← hcb, ← hcr, ← hco, ← hck] at CQI CQS
        have hcc : (ck == ck) = true := by simp
        clear hcb hcr hco hck
        have kP0 := CP_29.out.c0
        have kP1 := CP_29.out.c1
        have kP2 := CP_29.out.c2
        have kF0 := CF_29.out.c0
        have kF1 := CF_29.out.c1
        have kF2 := CF_29.out.c2
        have kG0 := CG_29.out.c0
        have kG1 := CG_29.out.c1
        have kG2 := CG_29.out.c2
        go_wp2_with fail
        clear kP0 kP1 kP2 kF0 kF1 kF2 kG0 kG1 kG2
        refine (CQI.out _).mono ?_
        rintro e W30 ⟨vh, rfl, h30, fb30⟩
        have HB_30 := Lib.hid (HB_29.out.trans (fb30.mono HB_29.out.size))
        have CP_30 := Lib.hid (CP_29.out.below fb30)
        have CF_30 := Lib.hid (CF_29.out.below fb30)
        have CG_30 := Lib.hid (CG_29.out.below fb30)
        have Rp_30 := Lib.hid (Rp_29.out.below fb30)
        have Rt_30 := Lib.hid (Rt_29.out.below fb30)
        have Rf_30 := Lib.hid (Rf_29.out.below fb30)
        have Rg_30 := Lib.hid (Rg_29.out.below fb30)
        have Z42 := Lib.hid (fb30.size)
        have Rh_30 := Lib.hid h30
        clear CP_29 CF_29 CG_29 Rp_29 Rt_29 Rf_29 Rg_29 HB_29 fb30 h30
        obtain ⟨anh, cnh, aoh, coh, rfl⟩ := Rh_30.out.form
        have kP0 := (CP_30.out.alloc (Obj.cells #[.int .i64 cb, .slice anh cr.length cnh, .slice aoh co.length coh] 27)).c0
        have kP1 := (CP_30.out.alloc (Obj.cells #[.int .i64 cb, .slice anh cr.length cnh, .slice aoh co.length coh] 27)).c1
        have kP2 := (CP_30.out.alloc (Obj.cells #[.int .i64 cb, .slice anh cr.length cnh, .slice aoh co.length coh] 27)).c2
        have kF0 := (CF_30.out.alloc (Obj.cells #[.int .i64 cb, .slice anh cr.length cnh, .slice aoh co.length coh] 27)).c0
        have kF1 := (CF_30.out.alloc (Obj.cells #[.int .i64 cb, .slice anh cr.length cnh, .slice aoh co.length coh] 27)).c1
        have kF2 := (CF_30.out.alloc (Obj.cells #[.int .i64 cb, .slice anh cr.length cnh, .slice aoh co.length coh] 27)).c2
        have kG0 := (CG_30.out.alloc (Obj.cells #[.int .i64 cb, .slice anh cr.length cnh, .slice aoh co.length coh] 27)).c0
        have kG1 := (CG_30.out.alloc (Obj.cells #[.int .i64 cb, .slice anh cr.length cnh, .slice aoh co.length coh] 27)).c1
        have kG2 := (CG_30.out.alloc (Obj.cells #[.int .i64 cb, .slice anh cr.length cnh, .slice aoh co.length coh] 27)).c2
        go_wp2_with fail
        clear kP0 kP1 kP2 kF0 kF1 kF2 kG0 kG1 kG2
        have bx31 : Below W30.heap.size W30 (W30.alloc (Obj.cells #[.int .i64 cb, .slice anh cr.length cnh, .slice aoh co.length coh] 27)) := (Below.refl _ _).alloc (Nat.le_refl _) _
        have cx31 := Cells3.new W30 27 (.int .i64 cb) (.slice anh cr.length cnh) (.slice aoh co.length coh)
        have hz31 : (W30.alloc (Obj.cells #[.int .i64 cb, .slice anh cr.length cnh, .slice aoh co.length coh] 27)).heap.size = W30.heap.size + 1 := size_alloc' _ _
        obtain ⟨W31, hW31⟩ : ∃ W, W = (W30.alloc (Obj.cells #[.int .i64 cb, .slice anh cr.length cnh, .slice aoh co.length coh] 27)) := ⟨_, rfl⟩
        rw [← hW31] at bx31 cx31 hz31 ⊢
        have HB_31 := Lib.hid (HB_30.out.trans (bx31.mono HB_30.out.size))
        have CP_31 := Lib.hid (CP_30.out.below bx31)
        have CF_31 := Lib.hid (CF_30.out.below bx31)
        have CG_31 := Lib.hid (CG_30.out.below bx31)
        have Rp_31 := Lib.hid (Rp_30.out.below bx31)
        have Rt_31 := Lib.hid (Rt_30.out.below bx31)
        have Rf_31 := Lib.hid (Rf_30.out.below bx31)
        have Rg_31 := Lib.hid (Rg_30.out.below bx31)
        have Rh_31 := Lib.hid (Rh_30.out.below bx31)
        have Z43 := Lib.hid (bx31.size)
        have CH_31 := Lib.hid cx31
        have Z44 := Lib.hid hz31
        clear CP_30 CF_30 CG_30 Rp_30 Rt_30 Rf_30 Rg_30 Rh_30 HB_30 bx31 hW31 cx31
        clear hz31
        refine (CQS.out _).mono ?_
        rintro e W32 ⟨vi, rfl, h32, fb32⟩
        have HB_32 := Lib.hid (HB_31.out.trans (fb32.mono HB_31.out.size))
        have CP_32 := Lib.hid (CP_31.out.below fb32)
        have CF_32 := Lib.hid (CF_31.out.below fb32)
        have CG_32 := Lib.hid (CG_31.out.below fb32)
        have CH_32 := Lib.hid (CH_31.out.below fb32)
        have Rp_32 := Lib.hid (Rp_31.out.below fb32)
        have Rt_32 := Lib.hid (Rt_31.out.below fb32)
        have Rf_32 := Lib.hid (Rf_31.out.below fb32)
        have Rg_32 := Lib.hid (Rg_31.out.below fb32)
        have Rh_32 := Lib.hid (Rh_31.out.below fb32)
        have Z45 := Lib.hid (fb32.size)
        have Ri_32 := Lib.hid h32
        clear CP_31 CF_31 CG_31 CH_31 Rp_31 Rt_31 Rf_31 Rg_31 Rh_31 HB_31 fb32 h32
        obtain ⟨ani, cni, aoi, coi, rfl⟩ := Ri_32.out.form
        have kP0 := (CP_32.out.alloc (Obj.cells #[.int .i64 cb, .slice ani cr.length cni, .slice aoi co.length coi] 27)).c0
        have kP1 := (CP_32.out.alloc (Obj.cells #[.int .i64 cb, .slice ani cr.length cni, .slice aoi co.length coi] 27)).c1
        have kP2 := (CP_32.out.alloc (Obj.cells #[.int .i64 cb, .slice ani cr.length cni, .slice aoi co.length coi] 27)).c2
        have kF0 := (CF_32.out.alloc (Obj.cells #[.int .i64 cb, .slice ani cr.length cni, .slice aoi co.length coi] 27)).c0
        have kF1 := (CF_32.out.alloc (Obj.cells #[.int .i64 cb, .slice ani cr.length cni, .slice aoi co.length coi] 27)).c1
        have kF2 := (CF_32.out.alloc (Obj.cells #[.int .i64 cb, .slice ani cr.length cni, .slice aoi co.length coi] 27)).c2
        have kG0 := (CG_32.out.alloc (Obj.cells #[.int .i64 cb, .slice ani cr.length cni, .slice aoi co.length coi] 27)).c0
        have kG1 := (CG_32.out.alloc (Obj.cells #[.int .i64 cb, .slice ani cr.length cni, .slice aoi co.length coi] 27)).c1
        have kG2 := (CG_32.out.alloc (Obj.cells #[.int .i64 cb, .slice ani cr.length cni, .slice aoi co.length coi] 27)).c2
        have kH0 := (CH_32.out.alloc (Obj.cells #[.int .i64 cb, .slice ani cr.length cni, .slice aoi co.length coi] 27)).c0
        have kH1 := (CH_32.out.alloc (Obj.cells #[.int .i64 cb, .slice ani cr.length cni, .slice aoi co.length coi] 27)).c1
        have kH2 := (CH_32.out.alloc (Obj.cells #[.int .i64 cb, .slice ani cr.length cni, .slice aoi co.length coi] 27)).c2
        go_wp2_with fail
        clear kP0 kP1 kP2 kF0 kF1 kF2 kG0 kG1 kG2 kH0 kH1 kH2
        have bx33 : Below W32.heap.size W32 (W32.alloc (Obj.cells #[.int .i64 cb, .slice ani cr.length cni, .slice aoi co.length coi] 27)) := (Below.refl _ _).alloc (Nat.le_refl _) _
        have cx33 := Cells3.new W32 27 (.int .i64 cb) (.slice ani cr.length cni) (.slice aoi co.length coi)
        have hz33 : (W32.alloc (Obj.cells #[.int .i64 cb, .slice ani cr.length cni, .slice aoi co.length coi] 27)).heap.size = W32.heap.size + 1 := size_alloc' _ _
        obtain ⟨W33, hW33⟩ : ∃ W, W = (W32.alloc (Obj.cells #[.int .i64 cb, .slice ani cr.length cni, .slice aoi co.length coi] 27)) := ⟨_, rfl⟩
        rw [← hW33] at bx33 cx33 hz33 ⊢
        have HB_33 := Lib.hid (HB_32.out.trans (bx33.mono HB_32.out.size))
        have CP_33 := Lib.hid (CP_32.out.below bx33)
        have CF_33 := Lib.hid (CF_32.out.below bx33)
        have CG_33 := Lib.hid (CG_32.out.below bx33)
        have CH_33 := Lib.hid (CH_32.out.below bx33)
        have Rp_33 := Lib.hid (Rp_32.out.below bx33)
        have Rt_33 := Lib.hid (Rt_32.out.below bx33)
        have Rf_33 := Lib.hid (Rf_32.out.below bx33)
        have Rg_33 := Lib.hid (Rg_32.out.below bx33)
        have Rh_33 := Lib.hid (Rh_32.out.below bx33)
        have Ri_33 := Lib.hid (Ri_32.out.below bx33)
        have Z46 := Lib.hid (bx33.size)
        have CI_33 := Lib.hid cx33
        have Z47 := Lib.hid hz33
        clear CP_32 CF_32 CG_32 CH_32 Rp_32 Rt_32 Rf_32 Rg_32 Rh_32 Ri_32 HB_32 bx33 hW33 cx33
        clear hz33
        refine (Cursor.drawCombV W33 W33 a len cap hlen (Cursor.code_next HC.out HB_33.out) (Below.refl _ _)).mono ?_
        rintro e W34 ⟨j, l, o, ⟨hj0, hj1, hl0, hl1, ho0, ho1⟩, rfl, fb34⟩
        have HB_34 := Lib.hid (HB_33.out.trans (fb34.mono HB_33.out.size))
        have CP_34 := Lib.hid (CP_33.out.below fb34)
        have CF_34 := Lib.hid (CF_33.out.below fb34)
        have CG_34 := Lib.hid (CG_33.out.below fb34)
        have CH_34 := Lib.hid (CH_33.out.below fb34)
        have CI_34 := Lib.hid (CI_33.out.below fb34)
        have Rp_34 := Lib.hid (Rp_33.out.below fb34)
        have Rt_34 := Lib.hid (Rt_33.out.below fb34)
        have Rf_34 := Lib.hid (Rf_33.out.below fb34)
        have Rg_34 := Lib.hid (Rg_33.out.below fb34)
        have Rh_34 := Lib.hid (Rh_33.out.below fb34)
        have Ri_34 := Lib.hid (Ri_33.out.below fb34)
        have Z48 := Lib.hid (fb34.size)
        clear CP_33 CF_33 CG_33 CH_33 CI_33 Rp_33 Rt_33 Rf_33 Rg_33 Rh_33 Ri_33 HB_33 fb34
        have CVI := Lib.hid (fun W : World => impl_values j l o W)
        have CVS := Lib.hid (fun W : World => spec_values j l o W)
        obtain ⟨cv, hcv⟩ : ∃ t, t = combV j l o := ⟨_, rfl⟩
        rw [← hcv] at CVI CVS
        have hvv : (cv == cv) = true := by simp
        clear hcv
        have kP0 := CP_34.out.c0
        have kP1 := CP_34.out.c1
        have kP2 := CP_34.out.c2
        have kF0 := CF_34.out.c0
        have kF1 := CF_34.out.c1
        have kF2 := CF_34.out.c2
        have kG0 := CG_34.out.c0
        have kG1 := CG_34.out.c1
        have kG2 := CG_34.out.c2
        have kH0 := CH_34.out.c0
        have kH1 := CH_34.out.c1
        have kH2 := CH_34.out.c2
        have kI0 := CI_34.out.c0
        have kI1 := CI_34.out.c1
        have kI2 := CI_34.out.c2
        go_wp2_with fail
        clear kP0 kP1 kP2 kF0 kF1 kF2 kG0 kG1 kG2 kH0 kH1 kH2 kI0 kI1 kI2
        cases mk with
        | false =>
          as_aux_lemma =>
            have fb := below_drew' W34
            refine wp_region_held_drew (S := (fun w' => w'.cell? ⟨W23.heap.size, 0, none⟩ = some (.int .i64 b3) ∧ w'.cell? ⟨W23.heap.size, 1, none⟩ = some (.slice anp rows3.length cnp) ∧ w'.cell? ⟨W23.heap.size, 2, none⟩ = some (.slice aop out3.length cop) ∧ w'.cell? ⟨W25.heap.size, 0, none⟩ = some (.int .i64 mb) ∧ w'.cell? ⟨W25.heap.size, 1, none⟩ = some (.slice anf mr.length cnf) ∧ w'.cell? ⟨W25.heap.size, 2, none⟩ = some (.slice aof mo.length cof) ∧ w'.cell? ⟨W27.heap.size, 0, none⟩ = some (.int .i64 mb) ∧ w'.cell? ⟨W27.heap.size, 1, none⟩ = some (.slice ang mr.length cng) ∧ w'.cell? ⟨W27.heap.size, 2, none⟩ = some (.slice aog mo.length cog) ∧ w'.cell? ⟨W30.heap.size, 0, none⟩ = some (.int .i64 cb) ∧ w'.cell? ⟨W30.heap.size, 1, none⟩ = some (.slice anh cr.length cnh) ∧ w'.cell? ⟨W30.heap.size, 2, none⟩ = some (.slice aoh co.length coh) ∧ w'.cell? ⟨W32.heap.size, 0, none⟩ = some (.int .i64 cb) ∧ w'.cell? ⟨W32.heap.size, 1, none⟩ = some (.slice ani cr.length cni) ∧ w'.cell? ⟨W32.heap.size, 2, none⟩ = some (.slice aoi co.length coi))) (by kernel_rfl) ?_ (fun hHeld => ?_)
            · exact ⟨(CP_34.out.below fb).c0, (CP_34.out.below fb).c1, (CP_34.out.below fb).c2, (CF_34.out.below fb).c0, (CF_34.out.below fb).c1, (CF_34.out.below fb).c2, (CG_34.out.below fb).c0, (CG_34.out.below fb).c1, (CG_34.out.below fb).c2, (CH_34.out.below fb).c0, (CH_34.out.below fb).c1, (CH_34.out.below fb).c2, (CI_34.out.below fb).c0, (CI_34.out.below fb).c1, (CI_34.out.below fb).c2⟩
            refine wpAnyH_take (i := 0) (oi := { dst := some 199, op := Op.move (Operand.tmp 25), type := 4, pos := "laws.go:283", after := #[], guard := none }) (v := ?_) rfl (by kernel_rfl) (by kernel_rfl) (by kernel_rfl) (fun _ _ _ h => h) (Or.inl ⟨by rfl, ?_⟩) (by assumption) ?_
            rotate_left
            focus (intro w hSw; (try dsimp only at hSw); first | (go_simp; done) | (go_simp; with_reducible rfl))
            try simp only [Act.put, List.setIfInBounds_toArray, List.set_cons_zero, List.set_cons_succ]
            refine wpAnyH_take (i := 1) (oi := { dst := some 200, op := Op.move (Operand.tmp 27), type := 4, pos := "laws.go:283", after := #[], guard := none }) (v := ?_) rfl (by kernel_rfl) (by kernel_rfl) (by kernel_rfl) (fun _ _ _ h => h) (Or.inl ⟨by rfl, ?_⟩) (by assumption) ?_
            rotate_left
            focus (intro w hSw; (try dsimp only at hSw); first | (go_simp; done) | (go_simp; with_reducible rfl))
            try simp only [Act.put, List.setIfInBounds_toArray, List.set_cons_zero, List.set_cons_succ]
            refine wpAnyH_take (i := 2) (oi := { dst := some 201, op := Op.binOp BinOp.eql 4 (Operand.tmp 199) (Operand.tmp 200) 4, type := 4, pos := "laws.go:283", after := #[{ on := 0, ground := Ground.data }, { on := 1, ground := Ground.data }], guard := none }) (v := ?_) rfl (by kernel_rfl) (by kernel_rfl) (by kernel_rfl) (fun _ _ _ h => h) (Or.inl ⟨by rfl, ?_⟩) (by assumption) ?_
            rotate_left
            focus (intro w hSw; (try dsimp only at hSw); first | (go_simp; done) | (go_simp; with_reducible rfl))
            try simp only [Act.put, List.setIfInBounds_toArray, List.set_cons_zero, List.set_cons_succ]
            refine wpAnyH_take (i := 3) (oi := { dst := some 202, op := Op.move (Operand.tmp 201), type := 4, pos := "laws.go:283", after := #[{ on := 2, ground := Ground.data }], guard := none }) (v := ?_) rfl (by kernel_rfl) (by kernel_rfl) (by kernel_rfl) (fun _ _ _ h => h) (Or.inl ⟨by rfl, ?_⟩) (by assumption) ?_
            rotate_left
            focus (intro w hSw; (try dsimp only at hSw); first | (go_simp; done) | (go_simp; with_reducible rfl))
            try simp only [Act.put, List.setIfInBounds_toArray, List.set_cons_zero, List.set_cons_succ]
            refine wpAnyH_take (i := 4) (oi := { dst := some 203, op := Op.load 27 (Operand.tmp 24), type := 27, pos := "laws.go:283", after := #[{ on := 3, ground := Ground.guard }], guard := some (3, true) }) (v := ?_) rfl (by kernel_rfl) (by kernel_rfl) (by kernel_rfl) (fun _ _ _ h => h) (Or.inl ⟨by rfl, ?_⟩) (by assumption) ?_
            rotate_left
            focus (intro w hSw; (try dsimp only at hSw); first | (go_simp; done) | (go_simp; with_reducible rfl))
            try simp only [Act.put, List.setIfInBounds_toArray, List.set_cons_zero, List.set_cons_succ]
            refine wpAnyH_take (i := 5) (oi := { dst := some 204, op := Op.load 27 (Operand.tmp 26), type := 27, pos := "laws.go:283", after := #[{ on := 3, ground := Ground.guard }], guard := some (3, true) }) (v := ?_) rfl (by kernel_rfl) (by kernel_rfl) (by kernel_rfl) (fun _ _ _ h => h) (Or.inl ⟨by rfl, ?_⟩) (by assumption) ?_
            rotate_left
            focus (intro w hSw; (try dsimp only at hSw); first | (go_simp; done) | (go_simp; with_reducible rfl))
            try simp only [Act.put, List.setIfInBounds_toArray, List.set_cons_zero, List.set_cons_succ]
            refine wpAnyH_ready (rs := [6]) (by kernel_rfl) (by simp) ?_
            refine AllReadyH.cons (o := { dst := some 205, op := Op.call { callee := Callee.value (Operand.func 8), args := #[Operand.tmp 203, Operand.tmp 204], argTypes := #[27, 27] }, type := 4, pos := "laws.go:283", after := #[{ on := 4, ground := Ground.data }, { on := 5, ground := Ground.data }, { on := 3, ground := Ground.chain }, { on := 3, ground := Ground.guard }], guard := some (3, true) }) rfl (fun K hK => ?_) AllReadyH.nil
            go_simp
            go_at_call 8
            refine (equal_own _ _ mb mr mo _ (Rf_34.out.below fb).lies (Rg_34.out.below fb).lies).mono ?_
            rintro e Wn ⟨rfl, fbn⟩
            replace fb := fb.trans (fbn.mono fb.size)
            refine hK.out _ _ ?_ (fun hHeld => ?_)
            · exact ⟨(CP_34.out.below fb).c0, (CP_34.out.below fb).c1, (CP_34.out.below fb).c2, (CF_34.out.below fb).c0, (CF_34.out.below fb).c1, (CF_34.out.below fb).c2, (CG_34.out.below fb).c0, (CG_34.out.below fb).c1, (CG_34.out.below fb).c2, (CH_34.out.below fb).c0, (CH_34.out.below fb).c1, (CH_34.out.below fb).c2, (CI_34.out.below fb).c0, (CI_34.out.below fb).c1, (CI_34.out.below fb).c2⟩
            clear hK K
            try simp only [Act.put, List.setIfInBounds_toArray, List.set_cons_zero, List.set_cons_succ]
            refine wpAnyH_take (i := 7) (oi := { dst := some 206, op := Op.pick (Operand.tmp 202) (Operand.tmp 205) (Operand.const (Value.bool false)), type := 4, pos := "laws.go:283", after := #[{ on := 3, ground := Ground.data }, { on := 6, ground := Ground.data }], guard := none }) (v := ?_) rfl (by kernel_rfl) (by kernel_rfl) (by kernel_rfl) (fun _ _ _ h => h) (Or.inl ⟨by rfl, ?_⟩) (by assumption) ?_
            rotate_left
            focus (intro w hSw; (try dsimp only at hSw); first | (go_simp; done) | (go_simp; with_reducible rfl))
            try simp only [Act.put, List.setIfInBounds_toArray, List.set_cons_zero, List.set_cons_succ]
            refine wpAnyH_take (i := 8) (oi := { dst := some 207, op := Op.move (Operand.tmp 206), type := 4, pos := "laws.go:283", after := #[{ on := 7, ground := Ground.data }, { on := 6, ground := Ground.chain }], guard := none }) (v := ?_) rfl (by kernel_rfl) (by kernel_rfl) (by kernel_rfl) (fun _ _ _ h => h) (Or.inl ⟨by rfl, ?_⟩) (by assumption) ?_
            rotate_left
            focus (intro w hSw; (try dsimp only at hSw); first | (go_simp; done) | (go_simp; with_reducible rfl))
            try simp only [Act.put, List.setIfInBounds_toArray, List.set_cons_zero, List.set_cons_succ]
            refine wpAnyH_take (i := 9) (oi := { dst := some 208, op := Op.move (Operand.tmp 25), type := 4, pos := "laws.go:283", after := #[{ on := 8, ground := Ground.guard }], guard := some (8, true) }) (v := ?_) rfl (by kernel_rfl) (by kernel_rfl) (by kernel_rfl) (fun _ _ _ h => h) (Or.inl ⟨by rfl, ?_⟩) (by assumption) ?_
            rotate_left
            focus (intro w hSw; (try dsimp only at hSw); first | (go_simp; done) | (go_simp; with_reducible rfl))
            try simp only [Act.put, List.setIfInBounds_toArray, List.set_cons_zero, List.set_cons_succ]
            refine wpAnyH_take (i := 10) (oi := { dst := some 209, op := Op.unOp UnOp.not 4 (Operand.tmp 208), type := 4, pos := "laws.go:283", after := #[{ on := 9, ground := Ground.data }, { on := 8, ground := Ground.guard }], guard := some (8, true) }) (v := ?_) rfl (by kernel_rfl) (by kernel_rfl) (by kernel_rfl) (fun _ _ _ h => h) (Or.inl ⟨by rfl, ?_⟩) (by assumption) ?_
            rotate_left
            focus (intro w hSw; (try dsimp only at hSw); first | (go_simp; done) | (go_simp; with_reducible rfl))
            try simp only [Act.put, List.setIfInBounds_toArray, List.set_cons_zero, List.set_cons_succ]
            refine wpAnyH_take (i := 11) (oi := { dst := some 210, op := Op.move (Operand.tmp 209), type := 4, pos := "laws.go:283", after := #[{ on := 10, ground := Ground.data }, { on := 8, ground := Ground.chain }, { on := 8, ground := Ground.guard }], guard := some (8, true) }) (v := ?_) rfl (by kernel_rfl) (by kernel_rfl) (by kernel_rfl) (fun _ _ _ h => h) (Or.inl ⟨by rfl, ?_⟩) (by assumption) ?_
            rotate_left
            focus (intro w hSw; (try dsimp only at hSw); first | (go_simp; done) | (go_simp; with_reducible rfl))
            try simp only [Act.put, List.setIfInBounds_toArray, List.set_cons_zero, List.set_cons_succ]
            refine wpAnyH_take (i := 12) (oi := { dst := some 211, op := Op.load 27 (Operand.tmp 26), type := 27, pos := "laws.go:283", after := #[{ on := 11, ground := Ground.guard }], guard := some (11, false) }) (v := undef) rfl (by kernel_rfl) (by kernel_rfl) (by kernel_rfl) (fun _ _ _ h => h) (Or.inr ⟨by rfl, rfl⟩) (by assumption) ?_
            try simp only [Act.put, List.setIfInBounds_toArray, List.set_cons_zero, List.set_cons_succ]
            refine wpAnyH_take (i := 13) (oi := { dst := some 212, op := Op.move (Operand.tmp 10), type := 3, pos := "laws.go:283", after := #[{ on := 11, ground := Ground.guard }], guard := some (11, false) }) (v := undef) rfl (by kernel_rfl) (by kernel_rfl) (by kernel_rfl) (fun _ _ _ h => h) (Or.inr ⟨by rfl, rfl⟩) (by assumption) ?_
            try simp only [Act.put, List.setIfInBounds_toArray, List.set_cons_zero, List.set_cons_succ]
            refine wpAnyH_take (i := 14) (oi := { dst := some 213, op := Op.call { callee := Callee.value (Operand.func 10), args := #[Operand.tmp 211, Operand.tmp 212], argTypes := #[27, 3] }, type := 3, pos := "laws.go:283", after := #[{ on := 12, ground := Ground.data }, { on := 13, ground := Ground.data }, { on := 11, ground := Ground.chain }, { on := 11, ground := Ground.guard }], guard := some (11, false) }) (v := undef) rfl (by kernel_rfl) (by kernel_rfl) (by kernel_rfl) (fun _ _ _ h => h) (Or.inr ⟨by rfl, rfl⟩) (by assumption) ?_
            try simp only [Act.put, List.setIfInBounds_toArray, List.set_cons_zero, List.set_cons_succ]
            refine wpAnyH_take (i := 15) (oi := { dst := some 214, op := Op.move (Operand.tmp 23), type := 25, pos := "laws.go:283", after := #[{ on := 11, ground := Ground.guard }], guard := some (11, false) }) (v := undef) rfl (by kernel_rfl) (by kernel_rfl) (by kernel_rfl) (fun _ _ _ h => h) (Or.inr ⟨by rfl, rfl⟩) (by assumption) ?_
            try simp only [Act.put, List.setIfInBounds_toArray, List.set_cons_zero, List.set_cons_succ]
            refine wpAnyH_take (i := 16) (oi := { dst := some 215, op := Op.load 27 (Operand.tmp 22), type := 27, pos := "laws.go:283", after := #[{ on := 11, ground := Ground.guard }], guard := some (11, false) }) (v := undef) rfl (by kernel_rfl) (by kernel_rfl) (by kernel_rfl) (fun _ _ _ h => h) (Or.inr ⟨by rfl, rfl⟩) (by assumption) ?_
            try simp only [Act.put, List.setIfInBounds_toArray, List.set_cons_zero, List.set_cons_succ]
            refine wpAnyH_take (i := 17) (oi := { dst := some 216, op := Op.move (Operand.tmp 10), type := 3, pos := "laws.go:283", after := #[{ on := 11, ground := Ground.guard }], guard := some (11, false) }) (v := undef) rfl (by kernel_rfl) (by kernel_rfl) (by kernel_rfl) (fun _ _ _ h => h) (Or.inr ⟨by rfl, rfl⟩) (by assumption) ?_
            try simp only [Act.put, List.setIfInBounds_toArray, List.set_cons_zero, List.set_cons_succ]
            refine wpAnyH_take (i := 18) (oi := { dst := some 217, op := Op.call { callee := Callee.value (Operand.func 12), args := #[Operand.tmp 215, Operand.tmp 216], argTypes := #[27, 3] }, type := 3, pos := "laws.go:283", after := #[{ on := 16, ground := Ground.data }, { on := 17, ground := Ground.data }, { on := 14, ground := Ground.chain }, { on := 11, ground := Ground.guard }], guard := some (11, false) }) (v := undef) rfl (by kernel_rfl) (by kernel_rfl) (by kernel_rfl) (fun _ _ _ h => h) (Or.inr ⟨by rfl, rfl⟩) (by assumption) ?_
            try simp only [Act.put, List.setIfInBounds_toArray, List.set_cons_zero, List.set_cons_succ]
            refine wpAnyH_take (i := 19) (oi := { dst := some 218, op := Op.indexAddr 25 (Operand.tmp 214) (Operand.tmp 217), type := 0, pos := "laws.go:283", after := #[{ on := 15, ground := Ground.data }, { on := 18, ground := Ground.data }, { on := 11, ground := Ground.guard }], guard := some (11, false) }) (v := undef) rfl (by kernel_rfl) (by kernel_rfl) (by kernel_rfl) (fun _ _ _ h => h) (Or.inr ⟨by rfl, rfl⟩) (by assumption) ?_
            try simp only [Act.put, List.setIfInBounds_toArray, List.set_cons_zero, List.set_cons_succ]
            refine wpAnyH_take (i := 20) (oi := { dst := some 219, op := Op.load 3 (Operand.tmp 218), type := 3, pos := "laws.go:283", after := #[{ on := 19, ground := Ground.data }, { on := 11, ground := Ground.guard }], guard := some (11, false) }) (v := undef) rfl (by kernel_rfl) (by kernel_rfl) (by kernel_rfl) (fun _ _ _ h => h) (Or.inr ⟨by rfl, rfl⟩) (by assumption) ?_
            try simp only [Act.put, List.setIfInBounds_toArray, List.set_cons_zero, List.set_cons_succ]
            refine wpAnyH_take (i := 21) (oi := { dst := some 220, op := Op.binOp BinOp.eql 3 (Operand.tmp 213) (Operand.tmp 219) 3, type := 4, pos := "laws.go:283", after := #[{ on := 14, ground := Ground.data }, { on := 20, ground := Ground.data }, { on := 11, ground := Ground.guard }], guard := some (11, false) }) (v := undef) rfl (by kernel_rfl) (by kernel_rfl) (by kernel_rfl) (fun _ _ _ h => h) (Or.inr ⟨by rfl, rfl⟩) (by assumption) ?_
            try simp only [Act.put, List.setIfInBounds_toArray, List.set_cons_zero, List.set_cons_succ]
            refine wpAnyH_take (i := 22) (oi := { dst := some 221, op := Op.pick (Operand.tmp 210) (Operand.const (Value.bool true)) (Operand.tmp 220), type := 4, pos := "laws.go:283", after := #[{ on := 11, ground := Ground.data }, { on := 21, ground := Ground.data }, { on := 8, ground := Ground.guard }], guard := some (8, true) }) (v := ?_) rfl (by kernel_rfl) (by kernel_rfl) (by kernel_rfl) (fun _ _ _ h => h) (Or.inl ⟨by rfl, ?_⟩) (by assumption) ?_
            rotate_left
            focus (intro w hSw; (try dsimp only at hSw); first | (go_simp; done) | (go_simp; with_reducible rfl))
            try simp only [Act.put, List.setIfInBounds_toArray, List.set_cons_zero, List.set_cons_succ]
            refine wpAnyH_take (i := 23) (oi := { dst := some 222, op := Op.pick (Operand.tmp 207) (Operand.tmp 221) (Operand.const (Value.bool false)), type := 4, pos := "laws.go:283", after := #[{ on := 8, ground := Ground.data }, { on := 22, ground := Ground.data }], guard := none }) (v := ?_) rfl (by kernel_rfl) (by kernel_rfl) (by kernel_rfl) (fun _ _ _ h => h) (Or.inl ⟨by rfl, ?_⟩) (by assumption) ?_
            rotate_left
            focus (intro w hSw; (try dsimp only at hSw); first | (go_simp; done) | (go_simp; with_reducible rfl))
            try simp only [Act.put, List.setIfInBounds_toArray, List.set_cons_zero, List.set_cons_succ]
            refine wpAnyH_take (i := 24) (oi := { dst := some 223, op := Op.move (Operand.tmp 222), type := 4, pos := "laws.go:283", after := #[{ on := 23, ground := Ground.data }, { on := 18, ground := Ground.chain }], guard := none }) (v := ?_) rfl (by kernel_rfl) (by kernel_rfl) (by kernel_rfl) (fun _ _ _ h => h) (Or.inl ⟨by rfl, ?_⟩) (by assumption) ?_
            rotate_left
            focus (intro w hSw; (try dsimp only at hSw); first | (go_simp; done) | (go_simp; with_reducible rfl))
            try simp only [Act.put, List.setIfInBounds_toArray, List.set_cons_zero, List.set_cons_succ]
            refine wpAnyH_take (i := 25) (oi := { dst := some 224, op := Op.move (Operand.tmp 31), type := 4, pos := "laws.go:283", after := #[{ on := 24, ground := Ground.guard }], guard := some (24, true) }) (v := ?_) rfl (by kernel_rfl) (by kernel_rfl) (by kernel_rfl) (fun _ _ _ h => h) (Or.inl ⟨by rfl, ?_⟩) (by assumption) ?_
            rotate_left
            focus (intro w hSw; (try dsimp only at hSw); first | (go_simp; done) | (go_simp; with_reducible rfl))
            try simp only [Act.put, List.setIfInBounds_toArray, List.set_cons_zero, List.set_cons_succ]
            refine wpAnyH_take (i := 26) (oi := { dst := some 225, op := Op.move (Operand.tmp 33), type := 4, pos := "laws.go:283", after := #[{ on := 24, ground := Ground.guard }], guard := some (24, true) }) (v := ?_) rfl (by kernel_rfl) (by kernel_rfl) (by kernel_rfl) (fun _ _ _ h => h) (Or.inl ⟨by rfl, ?_⟩) (by assumption) ?_
            rotate_left
            focus (intro w hSw; (try dsimp only at hSw); first | (go_simp; done) | (go_simp; with_reducible rfl))
            try simp only [Act.put, List.setIfInBounds_toArray, List.set_cons_zero, List.set_cons_succ]
            refine wpAnyH_take (i := 27) (oi := { dst := some 226, op := Op.binOp BinOp.eql 4 (Operand.tmp 224) (Operand.tmp 225) 4, type := 4, pos := "laws.go:283", after := #[{ on := 25, ground := Ground.data }, { on := 26, ground := Ground.data }, { on := 24, ground := Ground.guard }], guard := some (24, true) }) (v := ?_) rfl (by kernel_rfl) (by kernel_rfl) (by kernel_rfl) (fun _ _ _ h => h) (Or.inl ⟨by rfl, ?_⟩) (by assumption) ?_
            rotate_left
            focus (intro w hSw; (try dsimp only at hSw); first | (go_simp; done) | (go_simp; with_reducible rfl))
            try simp only [Act.put, List.setIfInBounds_toArray, List.set_cons_zero, List.set_cons_succ]
            refine wpAnyH_take (i := 28) (oi := { dst := some 227, op := Op.pick (Operand.tmp 223) (Operand.tmp 226) (Operand.const (Value.bool false)), type := 4, pos := "laws.go:283", after := #[{ on := 24, ground := Ground.data }, { on := 27, ground := Ground.data }], guard := none }) (v := ?_) rfl (by kernel_rfl) (by kernel_rfl) (by kernel_rfl) (fun _ _ _ h => h) (Or.inl ⟨by rfl, ?_⟩) (by assumption) ?_
            rotate_left
            focus (intro w hSw; (try dsimp only at hSw); first | (go_simp; done) | (go_simp; with_reducible rfl))
            try simp only [Act.put, List.setIfInBounds_toArray, List.set_cons_zero, List.set_cons_succ]
            refine wpAnyH_take (i := 29) (oi := { dst := some 228, op := Op.move (Operand.tmp 227), type := 4, pos := "laws.go:283", after := #[{ on := 28, ground := Ground.data }, { on := 24, ground := Ground.chain }], guard := none }) (v := ?_) rfl (by kernel_rfl) (by kernel_rfl) (by kernel_rfl) (fun _ _ _ h => h) (Or.inl ⟨by rfl, ?_⟩) (by assumption) ?_
            rotate_left
            focus (intro w hSw; (try dsimp only at hSw); first | (go_simp; done) | (go_simp; with_reducible rfl))
            try simp only [Act.put, List.setIfInBounds_toArray, List.set_cons_zero, List.set_cons_succ]
            refine wpAnyH_take (i := 30) (oi := { dst := some 229, op := Op.load 27 (Operand.tmp 30), type := 27, pos := "laws.go:283", after := #[{ on := 29, ground := Ground.guard }], guard := some (29, true) }) (v := ?_) rfl (by kernel_rfl) (by kernel_rfl) (by kernel_rfl) (fun _ _ _ h => h) (Or.inl ⟨by rfl, ?_⟩) (by assumption) ?_
            rotate_left
            focus (intro w hSw; (try dsimp only at hSw); first | (go_simp; done) | (go_simp; with_reducible rfl))
            try simp only [Act.put, List.setIfInBounds_toArray, List.set_cons_zero, List.set_cons_succ]
            refine wpAnyH_take (i := 31) (oi := { dst := some 230, op := Op.load 27 (Operand.tmp 32), type := 27, pos := "laws.go:283", after := #[{ on := 29, ground := Ground.guard }], guard := some (29, true) }) (v := ?_) rfl (by kernel_rfl) (by kernel_rfl) (by kernel_rfl) (fun _ _ _ h => h) (Or.inl ⟨by rfl, ?_⟩) (by assumption) ?_
            rotate_left
            focus (intro w hSw; (try dsimp only at hSw); first | (go_simp; done) | (go_simp; with_reducible rfl))
            try simp only [Act.put, List.setIfInBounds_toArray, List.set_cons_zero, List.set_cons_succ]
            refine wpAnyH_ready (rs := [32]) (by kernel_rfl) (by simp) ?_
            refine AllReadyH.cons (o := { dst := some 231, op := Op.call { callee := Callee.value (Operand.func 8), args := #[Operand.tmp 229, Operand.tmp 230], argTypes := #[27, 27] }, type := 4, pos := "laws.go:283", after := #[{ on := 30, ground := Ground.data }, { on := 31, ground := Ground.data }, { on := 29, ground := Ground.chain }, { on := 29, ground := Ground.guard }], guard := some (29, true) }) rfl (fun K hK => ?_) AllReadyH.nil
            go_simp
            go_at_call 8
            refine (equal_own _ _ cb cr co _ (Rh_34.out.below fb).lies (Ri_34.out.below fb).lies).mono ?_
            rintro e Wn ⟨rfl, fbn⟩
            replace fb := fb.trans (fbn.mono fb.size)
            refine hK.out _ _ ?_ (fun hHeld => ?_)
            · exact ⟨(CP_34.out.below fb).c0, (CP_34.out.below fb).c1, (CP_34.out.below fb).c2, (CF_34.out.below fb).c0, (CF_34.out.below fb).c1, (CF_34.out.below fb).c2, (CG_34.out.below fb).c0, (CG_34.out.below fb).c1, (CG_34.out.below fb).c2, (CH_34.out.below fb).c0, (CH_34.out.below fb).c1, (CH_34.out.below fb).c2, (CI_34.out.below fb).c0, (CI_34.out.below fb).c1, (CI_34.out.below fb).c2⟩
            clear hK K
            try simp only [Act.put, List.setIfInBounds_toArray, List.set_cons_zero, List.set_cons_succ]
            refine wpAnyH_take (i := 33) (oi := { dst := some 232, op := Op.pick (Operand.tmp 228) (Operand.tmp 231) (Operand.const (Value.bool false)), type := 4, pos := "laws.go:283", after := #[{ on := 29, ground := Ground.data }, { on := 32, ground := Ground.data }], guard := none }) (v := ?_) rfl (by kernel_rfl) (by kernel_rfl) (by kernel_rfl) (fun _ _ _ h => h) (Or.inl ⟨by rfl, ?_⟩) (by assumption) ?_
            rotate_left
            focus (intro w hSw; (try dsimp only at hSw); first | (go_simp; done) | (go_simp; with_reducible rfl))
            try simp only [Act.put, List.setIfInBounds_toArray, List.set_cons_zero, List.set_cons_succ]
            refine wpAnyH_take (i := 34) (oi := { dst := some 233, op := Op.move (Operand.tmp 232), type := 4, pos := "laws.go:283", after := #[{ on := 33, ground := Ground.data }, { on := 32, ground := Ground.chain }], guard := none }) (v := ?_) rfl (by kernel_rfl) (by kernel_rfl) (by kernel_rfl) (fun _ _ _ h => h) (Or.inl ⟨by rfl, ?_⟩) (by assumption) ?_
            rotate_left
            focus (intro w hSw; (try dsimp only at hSw); first | (go_simp; done) | (go_simp; with_reducible rfl))
            try simp only [Act.put, List.setIfInBounds_toArray, List.set_cons_zero, List.set_cons_succ]
            refine wpAnyH_take (i := 35) (oi := { dst := some 234, op := Op.move (Operand.tmp 34), type := 3, pos := "laws.go:283", after := #[{ on := 34, ground := Ground.guard }], guard := some (34, true) }) (v := ?_) rfl (by kernel_rfl) (by kernel_rfl) (by kernel_rfl) (fun _ _ _ h => h) (Or.inl ⟨by rfl, ?_⟩) (by assumption) ?_
            rotate_left
            focus (intro w hSw; (try dsimp only at hSw); first | (go_simp; done) | (go_simp; with_reducible rfl))
            try simp only [Act.put, List.setIfInBounds_toArray, List.set_cons_zero, List.set_cons_succ]
            refine wpAnyH_take (i := 36) (oi := { dst := some 235, op := Op.move (Operand.tmp 35), type := 3, pos := "laws.go:283", after := #[{ on := 34, ground := Ground.guard }], guard := some (34, true) }) (v := ?_) rfl (by kernel_rfl) (by kernel_rfl) (by kernel_rfl) (fun _ _ _ h => h) (Or.inl ⟨by rfl, ?_⟩) (by assumption) ?_
            rotate_left
            focus (intro w hSw; (try dsimp only at hSw); first | (go_simp; done) | (go_simp; with_reducible rfl))
            try simp only [Act.put, List.setIfInBounds_toArray, List.set_cons_zero, List.set_cons_succ]
            refine wpAnyH_take (i := 37) (oi := { dst := some 236, op := Op.move (Operand.tmp 36), type := 3, pos := "laws.go:283", after := #[{ on := 34, ground := Ground.guard }], guard := some (34, true) }) (v := ?_) rfl (by kernel_rfl) (by kernel_rfl) (by kernel_rfl) (fun _ _ _ h => h) (Or.inl ⟨by rfl, ?_⟩) (by assumption) ?_
            rotate_left
            focus (intro w hSw; (try dsimp only at hSw); first | (go_simp; done) | (go_simp; with_reducible rfl))
            try simp only [Act.put, List.setIfInBounds_toArray, List.set_cons_zero, List.set_cons_succ]
            refine wpAnyH_take (i := 39) (oi := { dst := some 238, op := Op.move (Operand.tmp 34), type := 3, pos := "laws.go:283", after := #[{ on := 34, ground := Ground.guard }], guard := some (34, true) }) (v := ?_) rfl (by kernel_rfl) (by kernel_rfl) (by kernel_rfl) (fun _ _ _ h => h) (Or.inl ⟨by rfl, ?_⟩) (by assumption) ?_
            rotate_left
            focus (intro w hSw; (try dsimp only at hSw); first | (go_simp; done) | (go_simp; with_reducible rfl))
            try simp only [Act.put, List.setIfInBounds_toArray, List.set_cons_zero, List.set_cons_succ]
            refine wpAnyH_take (i := 40) (oi := { dst := some 239, op := Op.move (Operand.tmp 35), type := 3, pos := "laws.go:283", after := #[{ on := 34, ground := Ground.guard }], guard := some (34, true) }) (v := ?_) rfl (by kernel_rfl) (by kernel_rfl) (by kernel_rfl) (fun _ _ _ h => h) (Or.inl ⟨by rfl, ?_⟩) (by assumption) ?_
            rotate_left
            focus (intro w hSw; (try dsimp only at hSw); first | (go_simp; done) | (go_simp; with_reducible rfl))
            try simp only [Act.put, List.setIfInBounds_toArray, List.set_cons_zero, List.set_cons_succ]
            refine wpAnyH_take (i := 41) (oi := { dst := some 240, op := Op.move (Operand.tmp 36), type := 3, pos := "laws.go:283", after := #[{ on := 34, ground := Ground.guard }], guard := some (34, true) }) (v := ?_) rfl (by kernel_rfl) (by kernel_rfl) (by kernel_rfl) (fun _ _ _ h => h) (Or.inl ⟨by rfl, ?_⟩) (by assumption) ?_
            rotate_left
            focus (intro w hSw; (try dsimp only at hSw); first | (go_simp; done) | (go_simp; with_reducible rfl))
            try simp only [Act.put, List.setIfInBounds_toArray, List.set_cons_zero, List.set_cons_succ]
            refine wpAnyH_ready (rs := [38]) (by kernel_rfl) (by simp) ?_
            refine AllReadyH.cons (o := { dst := some 237, op := Op.call { callee := Callee.value (Operand.func 11), args := #[Operand.tmp 234, Operand.tmp 235, Operand.tmp 236], argTypes := #[3, 3, 3] }, type := 3, pos := "laws.go:283", after := #[{ on := 35, ground := Ground.data }, { on := 36, ground := Ground.data }, { on := 37, ground := Ground.data }, { on := 34, ground := Ground.chain }, { on := 34, ground := Ground.guard }], guard := some (34, true) }) rfl (fun K hK => ?_) AllReadyH.nil
            go_simp
            go_at_call 11
            refine (CVI.out _).mono ?_
            rintro e Wn ⟨rfl, fbn⟩
            replace fb := fb.trans (fbn.mono fb.size)
            refine hK.out _ _ ?_ (fun hHeld => ?_)
            · exact ⟨(CP_34.out.below fb).c0, (CP_34.out.below fb).c1, (CP_34.out.below fb).c2, (CF_34.out.below fb).c0, (CF_34.out.below fb).c1, (CF_34.out.below fb).c2, (CG_34.out.below fb).c0, (CG_34.out.below fb).c1, (CG_34.out.below fb).c2, (CH_34.out.below fb).c0, (CH_34.out.below fb).c1, (CH_34.out.below fb).c2, (CI_34.out.below fb).c0, (CI_34.out.below fb).c1, (CI_34.out.below fb).c2⟩
            clear hK K
            try simp only [Act.put, List.setIfInBounds_toArray, List.set_cons_zero, List.set_cons_succ]
            refine wpAnyH_ready (rs := [42]) (by kernel_rfl) (by simp) ?_
            refine AllReadyH.cons (o := { dst := some 241, op := Op.call { callee := Callee.value (Operand.func 27), args := #[Operand.tmp 238, Operand.tmp 239, Operand.tmp 240], argTypes := #[3, 3, 3] }, type := 3, pos := "laws.go:283", after := #[{ on := 39, ground := Ground.data }, { on := 40, ground := Ground.data }, { on := 41, ground := Ground.data }, { on := 38, ground := Ground.chain }, { on := 34, ground := Ground.guard }], guard := some (34, true) }) rfl (fun K hK => ?_) AllReadyH.nil
            go_simp
            go_at_call 27
            refine (CVS.out _).mono ?_
            rintro e Wn ⟨rfl, rfl⟩
            refine hK.out _ _ ?_ (fun hHeld => ?_)
            · exact ⟨(CP_34.out.below fb).c0, (CP_34.out.below fb).c1, (CP_34.out.below fb).c2, (CF_34.out.below fb).c0, (CF_34.out.below fb).c1, (CF_34.out.below fb).c2, (CG_34.out.below fb).c0, (CG_34.out.below fb).c1, (CG_34.out.below fb).c2, (CH_34.out.below fb).c0, (CH_34.out.below fb).c1, (CH_34.out.below fb).c2, (CI_34.out.below fb).c0, (CI_34.out.below fb).c1, (CI_34.out.below fb).c2⟩
            clear hK K
            try simp only [Act.put, List.setIfInBounds_toArray, List.set_cons_zero, List.set_cons_succ]
            refine wpAnyH_take (i := 43) (oi := { dst := some 242, op := Op.binOp BinOp.eql 3 (Operand.tmp 237) (Operand.tmp 241) 3, type := 4, pos := "laws.go:283", after := #[{ on := 38, ground := Ground.data }, { on := 42, ground := Ground.data }, { on := 34, ground := Ground.guard }], guard := some (34, true) }) (v := ?_) rfl (by kernel_rfl) (by kernel_rfl) (by kernel_rfl) (fun _ _ _ h => h) (Or.inl ⟨by rfl, ?_⟩) (by assumption) ?_
            rotate_left
            focus (intro w hSw; (try dsimp only at hSw); first | (go_simp; done) | (go_simp; with_reducible rfl))
            try simp only [Act.put, List.setIfInBounds_toArray, List.set_cons_zero, List.set_cons_succ]
            refine wpAnyH_take (i := 44) (oi := { dst := some 243, op := Op.pick (Operand.tmp 233) (Operand.tmp 242) (Operand.const (Value.bool false)), type := 4, pos := "laws.go:283", after := #[{ on := 34, ground := Ground.data }, { on := 43, ground := Ground.data }], guard := none }) (v := ?_) rfl (by kernel_rfl) (by kernel_rfl) (by kernel_rfl) (fun _ _ _ h => h) (Or.inl ⟨by rfl, ?_⟩) (by assumption) ?_
            rotate_left
            focus (intro w hSw; (try dsimp only at hSw); first | (go_simp; done) | (go_simp; with_reducible rfl))
            try simp only [Act.put, List.setIfInBounds_toArray, List.set_cons_zero, List.set_cons_succ]
            refine wpAnyH_take (i := 45) (oi := { dst := some 2, op := Op.assign (Operand.tmp 243), type := 4, pos := "laws.go:283", after := #[{ on := 44, ground := Ground.data }, { on := 42, ground := Ground.chain }, { on := 0, ground := Ground.phase }, { on := 1, ground := Ground.phase }, { on := 2, ground := Ground.phase }, { on := 3, ground := Ground.phase }, { on := 4, ground := Ground.phase }, { on := 5, ground := Ground.phase }, { on := 6, ground := Ground.phase }, { on := 7, ground := Ground.phase }, { on := 8, ground := Ground.phase }, { on := 9, ground := Ground.phase }, { on := 10, ground := Ground.phase }, { on := 11, ground := Ground.phase }, { on := 12, ground := Ground.phase }, { on := 13, ground := Ground.phase }, { on := 14, ground := Ground.phase }, { on := 15, ground := Ground.phase }, { on := 16, ground := Ground.phase }, { on := 17, ground := Ground.phase }, { on := 18, ground := Ground.phase }, { on := 19, ground := Ground.phase }, { on := 20, ground := Ground.phase }, { on := 21, ground := Ground.phase }, { on := 22, ground := Ground.phase }, { on := 23, ground := Ground.phase }, { on := 24, ground := Ground.phase }, { on := 25, ground := Ground.phase }, { on := 26, ground := Ground.phase }, { on := 27, ground := Ground.phase }, { on := 28, ground := Ground.phase }, { on := 29, ground := Ground.phase }, { on := 30, ground := Ground.phase }, { on := 31, ground := Ground.phase }, { on := 32, ground := Ground.phase }, { on := 33, ground := Ground.phase }, { on := 34, ground := Ground.phase }, { on := 35, ground := Ground.phase }, { on := 36, ground := Ground.phase }, { on := 37, ground := Ground.phase }, { on := 38, ground := Ground.phase }, { on := 39, ground := Ground.phase }, { on := 40, ground := Ground.phase }, { on := 41, ground := Ground.phase }, { on := 42, ground := Ground.phase }, { on := 43, ground := Ground.phase }, { on := 44, ground := Ground.phase }], guard := none }) (v := ?_) rfl (by kernel_rfl) (by kernel_rfl) (by kernel_rfl) (fun _ _ _ h => h) (Or.inl ⟨by rfl, ?_⟩) (by assumption) ?_
            rotate_left
            focus (intro w hSw; (try dsimp only at hSw); first | (go_simp; done) | (go_simp; with_reducible rfl))
            try simp only [Act.put, List.setIfInBounds_toArray, List.set_cons_zero, List.set_cons_succ]
            refine wpAnyH_done (by kernel_rfl) ?_ _
            go_wp2
            go_ret
            exact ⟨rfl, HB_34.out.trans (fb.mono HB_34.out.size)⟩
        | true =>
          as_aux_lemma =>
            obtain ⟨hl0, hl1, hl2⟩ := HML.out rfl n hn0 (by omega)
            have CTG := Lib.hid (fun (W : World) (u : Value) (l : LiesS W u mb mr mo) => impl_termat u mb mr mo W l n)
            have CTP := Lib.hid (fun (W : World) (u : Value) (l : LiesS W u b3 rows3 out3) => spec_termat u b3 rows3 out3 W l n)
            obtain ⟨tp, htp⟩ : ∃ t : Nat, termV b3 rows3 out3 n = (t : Int) := ⟨(termV b3 rows3 out3 n).toNat, by omega⟩
            rw [htp] at CTP hl1 hl2
            rw [hl2] at CTG
            have htl : tp < tab.length := by omega
            obtain ⟨y, hy⟩ : ∃ y, tab[tp]? = some y := ⟨_, List.getElem?_eq_getElem htl⟩
            have hty : tabV tab (tp : Int) = y := by rw [tabV, Int.toNat_natCast, List.getD_eq_getElem?_getD, hy]; rfl
            rw [hty] at CTG
            have hyy2 : (y == y) = true := by simp
            have HTC := Lib.hid (fun W (hb : Below W34.heap.size W34 W) => tab_cell (Rt_34.out.below hb) hy)
            clear hl0 hl1 hl2 htp hty hy
            have fb := below_drew' W34
            refine wp_region_held_drew (S := (fun w' => w'.cell? ⟨W23.heap.size, 0, none⟩ = some (.int .i64 b3) ∧ w'.cell? ⟨W23.heap.size, 1, none⟩ = some (.slice anp rows3.length cnp) ∧ w'.cell? ⟨W23.heap.size, 2, none⟩ = some (.slice aop out3.length cop) ∧ w'.cell? ⟨W25.heap.size, 0, none⟩ = some (.int .i64 mb) ∧ w'.cell? ⟨W25.heap.size, 1, none⟩ = some (.slice anf mr.length cnf) ∧ w'.cell? ⟨W25.heap.size, 2, none⟩ = some (.slice aof mo.length cof) ∧ w'.cell? ⟨W27.heap.size, 0, none⟩ = some (.int .i64 mb) ∧ w'.cell? ⟨W27.heap.size, 1, none⟩ = some (.slice ang mr.length cng) ∧ w'.cell? ⟨W27.heap.size, 2, none⟩ = some (.slice aog mo.length cog) ∧ w'.cell? ⟨W30.heap.size, 0, none⟩ = some (.int .i64 cb) ∧ w'.cell? ⟨W30.heap.size, 1, none⟩ = some (.slice anh cr.length cnh) ∧ w'.cell? ⟨W30.heap.size, 2, none⟩ = some (.slice aoh co.length coh) ∧ w'.cell? ⟨W32.heap.size, 0, none⟩ = some (.int .i64 cb) ∧ w'.cell? ⟨W32.heap.size, 1, none⟩ = some (.slice ani cr.length cni) ∧ w'.cell? ⟨W32.heap.size, 2, none⟩ = some (.slice aoi co.length coi) ∧ w'.cell? ⟨tg, tp, none⟩ = some (.int .i64 y))) (by kernel_rfl) ?_ (fun hHeld => ?_)
            · exact ⟨(CP_34.out.below fb).c0, (CP_34.out.below fb).c1, (CP_34.out.below fb).c2, (CF_34.out.below fb).c0, (CF_34.out.below fb).c1, (CF_34.out.below fb).c2, (CG_34.out.below fb).c0, (CG_34.out.below fb).c1, (CG_34.out.below fb).c2, (CH_34.out.below fb).c0, (CH_34.out.below fb).c1, (CH_34.out.below fb).c2, (CI_34.out.below fb).c0, (CI_34.out.below fb).c1, (CI_34.out.below fb).c2, HTC.out _ fb⟩
            refine wpAnyH_take (i := 0) (oi := { dst := some 199, op := Op.move (Operand.tmp 25), type := 4, pos := "laws.go:283", after := #[], guard := none }) (v := ?_) rfl (by kernel_rfl) (by kernel_rfl) (by kernel_rfl) (fun _ _ _ h => h) (Or.inl ⟨by rfl, ?_⟩) (by assumption) ?_
            rotate_left
            focus (intro w hSw; (try dsimp only at hSw); first | (go_simp; done) | (go_simp; with_reducible rfl))
            try simp only [Act.put, List.setIfInBounds_toArray, List.set_cons_zero, List.set_cons_succ]
            refine wpAnyH_take (i := 1) (oi := { dst := some 200, op := Op.move (Operand.tmp 27), type := 4, pos := "laws.go:283", after := #[], guard := none }) (v := ?_) rfl (by kernel_rfl) (by kernel_rfl) (by kernel_rfl) (fun _ _ _ h => h) (Or.inl ⟨by rfl, ?_⟩) (by assumption) ?_
            rotate_left
            focus (intro w hSw; (try dsimp only at hSw); first | (go_simp; done) | (go_simp; with_reducible rfl))
            try simp only [Act.put, List.setIfInBounds_toArray, List.set_cons_zero, List.set_cons_succ]
            refine wpAnyH_take (i := 2) (oi := { dst := some 201, op := Op.binOp BinOp.eql 4 (Operand.tmp 199) (Operand.tmp 200) 4, type := 4, pos := "laws.go:283", after := #[{ on := 0, ground := Ground.data }, { on := 1, ground := Ground.data }], guard := none }) (v := ?_) rfl (by kernel_rfl) (by kernel_rfl) (by kernel_rfl) (fun _ _ _ h => h) (Or.inl ⟨by rfl, ?_⟩) (by assumption) ?_
            rotate_left
            focus (intro w hSw; (try dsimp only at hSw); first | (go_simp; done) | (go_simp; with_reducible rfl))
            try simp only [Act.put, List.setIfInBounds_toArray, List.set_cons_zero, List.set_cons_succ]
            refine wpAnyH_take (i := 3) (oi := { dst := some 202, op := Op.move (Operand.tmp 201), type := 4, pos := "laws.go:283", after := #[{ on := 2, ground := Ground.data }], guard := none }) (v := ?_) rfl (by kernel_rfl) (by kernel_rfl) (by kernel_rfl) (fun _ _ _ h => h) (Or.inl ⟨by rfl, ?_⟩) (by assumption) ?_
            rotate_left
            focus (intro w hSw; (try dsimp only at hSw); first | (go_simp; done) | (go_simp; with_reducible rfl))
            try simp only [Act.put, List.setIfInBounds_toArray, List.set_cons_zero, List.set_cons_succ]
            refine wpAnyH_take (i := 4) (oi := { dst := some 203, op := Op.load 27 (Operand.tmp 24), type := 27, pos := "laws.go:283", after := #[{ on := 3, ground := Ground.guard }], guard := some (3, true) }) (v := ?_) rfl (by kernel_rfl) (by kernel_rfl) (by kernel_rfl) (fun _ _ _ h => h) (Or.inl ⟨by rfl, ?_⟩) (by assumption) ?_
            rotate_left
            focus (intro w hSw; (try dsimp only at hSw); first | (go_simp; done) | (go_simp; with_reducible rfl))
            try simp only [Act.put, List.setIfInBounds_toArray, List.set_cons_zero, List.set_cons_succ]
            refine wpAnyH_take (i := 5) (oi := { dst := some 204, op := Op.load 27 (Operand.tmp 26), type := 27, pos := "laws.go:283", after := #[{ on := 3, ground := Ground.guard }], guard := some (3, true) }) (v := ?_) rfl (by kernel_rfl) (by kernel_rfl) (by kernel_rfl) (fun _ _ _ h => h) (Or.inl ⟨by rfl, ?_⟩) (by assumption) ?_
            rotate_left
            focus (intro w hSw; (try dsimp only at hSw); first | (go_simp; done) | (go_simp; with_reducible rfl))
            try simp only [Act.put, List.setIfInBounds_toArray, List.set_cons_zero, List.set_cons_succ]
            refine wpAnyH_ready (rs := [6]) (by kernel_rfl) (by simp) ?_
            refine AllReadyH.cons (o := { dst := some 205, op := Op.call { callee := Callee.value (Operand.func 8), args := #[Operand.tmp 203, Operand.tmp 204], argTypes := #[27, 27] }, type := 4, pos := "laws.go:283", after := #[{ on := 4, ground := Ground.data }, { on := 5, ground := Ground.data }, { on := 3, ground := Ground.chain }, { on := 3, ground := Ground.guard }], guard := some (3, true) }) rfl (fun K hK => ?_) AllReadyH.nil
            go_simp
            go_at_call 8
            refine (equal_own _ _ mb mr mo _ (Rf_34.out.below fb).lies (Rg_34.out.below fb).lies).mono ?_
            rintro e Wn ⟨rfl, fbn⟩
            replace fb := fb.trans (fbn.mono fb.size)
            refine hK.out _ _ ?_ (fun hHeld => ?_)
            · exact ⟨(CP_34.out.below fb).c0, (CP_34.out.below fb).c1, (CP_34.out.below fb).c2, (CF_34.out.below fb).c0, (CF_34.out.below fb).c1, (CF_34.out.below fb).c2, (CG_34.out.below fb).c0, (CG_34.out.below fb).c1, (CG_34.out.below fb).c2, (CH_34.out.below fb).c0, (CH_34.out.below fb).c1, (CH_34.out.below fb).c2, (CI_34.out.below fb).c0, (CI_34.out.below fb).c1, (CI_34.out.below fb).c2, HTC.out _ fb⟩
            clear hK K
            try simp only [Act.put, List.setIfInBounds_toArray, List.set_cons_zero, List.set_cons_succ]
            refine wpAnyH_take (i := 7) (oi := { dst := some 206, op := Op.pick (Operand.tmp 202) (Operand.tmp 205) (Operand.const (Value.bool false)), type := 4, pos := "laws.go:283", after := #[{ on := 3, ground := Ground.data }, { on := 6, ground := Ground.data }], guard := none }) (v := ?_) rfl (by kernel_rfl) (by kernel_rfl) (by kernel_rfl) (fun _ _ _ h => h) (Or.inl ⟨by rfl, ?_⟩) (by assumption) ?_
            rotate_left
            focus (intro w hSw; (try dsimp only at hSw); first | (go_simp; done) | (go_simp; with_reducible rfl))
            try simp only [Act.put, List.setIfInBounds_toArray, List.set_cons_zero, List.set_cons_succ]
            refine wpAnyH_take (i := 8) (oi := { dst := some 207, op := Op.move (Operand.tmp 206), type := 4, pos := "laws.go:283", after := #[{ on := 7, ground := Ground.data }, { on := 6, ground := Ground.chain }], guard := none }) (v := ?_) rfl (by kernel_rfl) (by kernel_rfl) (by kernel_rfl) (fun _ _ _ h => h) (Or.inl ⟨by rfl, ?_⟩) (by assumption) ?_
            rotate_left
            focus (intro w hSw; (try dsimp only at hSw); first | (go_simp; done) | (go_simp; with_reducible rfl))
            try simp only [Act.put, List.setIfInBounds_toArray, List.set_cons_zero, List.set_cons_succ]
            refine wpAnyH_take (i := 9) (oi := { dst := some 208, op := Op.move (Operand.tmp 25), type := 4, pos := "laws.go:283", after := #[{ on := 8, ground := Ground.guard }], guard := some (8, true) }) (v := ?_) rfl (by kernel_rfl) (by kernel_rfl) (by kernel_rfl) (fun _ _ _ h => h) (Or.inl ⟨by rfl, ?_⟩) (by assumption) ?_
            rotate_left
            focus (intro w hSw; (try dsimp only at hSw); first | (go_simp; done) | (go_simp; with_reducible rfl))
            try simp only [Act.put, List.setIfInBounds_toArray, List.set_cons_zero, List.set_cons_succ]
            refine wpAnyH_take (i := 10) (oi := { dst := some 209, op := Op.unOp UnOp.not 4 (Operand.tmp 208), type := 4, pos := "laws.go:283", after := #[{ on := 9, ground := Ground.data }, { on := 8, ground := Ground.guard }], guard := some (8, true) }) (v := ?_) rfl (by kernel_rfl) (by kernel_rfl) (by kernel_rfl) (fun _ _ _ h => h) (Or.inl ⟨by rfl, ?_⟩) (by assumption) ?_
            rotate_left
            focus (intro w hSw; (try dsimp only at hSw); first | (go_simp; done) | (go_simp; with_reducible rfl))
            try simp only [Act.put, List.setIfInBounds_toArray, List.set_cons_zero, List.set_cons_succ]
            refine wpAnyH_take (i := 11) (oi := { dst := some 210, op := Op.move (Operand.tmp 209), type := 4, pos := "laws.go:283", after := #[{ on := 10, ground := Ground.data }, { on := 8, ground := Ground.chain }, { on := 8, ground := Ground.guard }], guard := some (8, true) }) (v := ?_) rfl (by kernel_rfl) (by kernel_rfl) (by kernel_rfl) (fun _ _ _ h => h) (Or.inl ⟨by rfl, ?_⟩) (by assumption) ?_
            rotate_left
            focus (intro w hSw; (try dsimp only at hSw); first | (go_simp; done) | (go_simp; with_reducible rfl))
            try simp only [Act.put, List.setIfInBounds_toArray, List.set_cons_zero, List.set_cons_succ]
            refine wpAnyH_take (i := 12) (oi := { dst := some 211, op := Op.load 27 (Operand.tmp 26), type := 27, pos := "laws.go:283", after := #[{ on := 11, ground := Ground.guard }], guard := some (11, false) }) (v := ?_) rfl (by kernel_rfl) (by kernel_rfl) (by kernel_rfl) (fun _ _ _ h => h) (Or.inl ⟨by rfl, ?_⟩) (by assumption) ?_
            rotate_left
            focus (intro w hSw; (try dsimp only at hSw); first | (go_simp; done) | (go_simp; with_reducible rfl))
            try simp only [Act.put, List.setIfInBounds_toArray, List.set_cons_zero, List.set_cons_succ]
            refine wpAnyH_take (i := 13) (oi := { dst := some 212, op := Op.move (Operand.tmp 10), type := 3, pos := "laws.go:283", after := #[{ on := 11, ground := Ground.guard }], guard := some (11, false) }) (v := ?_) rfl (by kernel_rfl) (by kernel_rfl) (by kernel_rfl) (fun _ _ _ h => h) (Or.inl ⟨by rfl, ?_⟩) (by assumption) ?_
            rotate_left
            focus (intro w hSw; (try dsimp only at hSw); first | (go_simp; done) | (go_simp; with_reducible rfl))
            try simp only [Act.put, List.setIfInBounds_toArray, List.set_cons_zero, List.set_cons_succ]
            refine wpAnyH_take (i := 15) (oi := { dst := some 214, op := Op.move (Operand.tmp 23), type := 25, pos := "laws.go:283", after := #[{ on := 11, ground := Ground.guard }], guard := some (11, false) }) (v := ?_) rfl (by kernel_rfl) (by kernel_rfl) (by kernel_rfl) (fun _ _ _ h => h) (Or.inl ⟨by rfl, ?_⟩) (by assumption) ?_
            rotate_left
            focus (intro w hSw; (try dsimp only at hSw); first | (go_simp; done) | (go_simp; with_reducible rfl))
            try simp only [Act.put, List.setIfInBounds_toArray, List.set_cons_zero, List.set_cons_succ]
            refine wpAnyH_take (i := 16) (oi := { dst := some 215, op := Op.load 27 (Operand.tmp 22), type := 27, pos := "laws.go:283", after := #[{ on := 11, ground := Ground.guard }], guard := some (11, false) }) (v := ?_) rfl (by kernel_rfl) (by kernel_rfl) (by kernel_rfl) (fun _ _ _ h => h) (Or.inl ⟨by rfl, ?_⟩) (by assumption) ?_
            rotate_left
            focus (intro w hSw; (try dsimp only at hSw); first | (go_simp; done) | (go_simp; with_reducible rfl))
            try simp only [Act.put, List.setIfInBounds_toArray, List.set_cons_zero, List.set_cons_succ]
            refine wpAnyH_take (i := 17) (oi := { dst := some 216, op := Op.move (Operand.tmp 10), type := 3, pos := "laws.go:283", after := #[{ on := 11, ground := Ground.guard }], guard := some (11, false) }) (v := ?_) rfl (by kernel_rfl) (by kernel_rfl) (by kernel_rfl) (fun _ _ _ h => h) (Or.inl ⟨by rfl, ?_⟩) (by assumption) ?_
            rotate_left
            focus (intro w hSw; (try dsimp only at hSw); first | (go_simp; done) | (go_simp; with_reducible rfl))
            try simp only [Act.put, List.setIfInBounds_toArray, List.set_cons_zero, List.set_cons_succ]
            refine wpAnyH_ready (rs := [14]) (by kernel_rfl) (by simp) ?_
            refine AllReadyH.cons (o := { dst := some 213, op := Op.call { callee := Callee.value (Operand.func 10), args := #[Operand.tmp 211, Operand.tmp 212], argTypes := #[27, 3] }, type := 3, pos := "laws.go:283", after := #[{ on := 12, ground := Ground.data }, { on := 13, ground := Ground.data }, { on := 11, ground := Ground.chain }, { on := 11, ground := Ground.guard }], guard := some (11, false) }) rfl (fun K hK => ?_) AllReadyH.nil
            go_simp
            go_at_call 10
            refine (CTG.out _ _ (Rg_34.out.below fb).lies).mono ?_
            rintro e Wn ⟨rfl, fbn⟩
            replace fb := fb.trans (fbn.mono fb.size)
            refine hK.out _ _ ?_ (fun hHeld => ?_)
            · exact ⟨(CP_34.out.below fb).c0, (CP_34.out.below fb).c1, (CP_34.out.below fb).c2, (CF_34.out.below fb).c0, (CF_34.out.below fb).c1, (CF_34.out.below fb).c2, (CG_34.out.below fb).c0, (CG_34.out.below fb).c1, (CG_34.out.below fb).c2, (CH_34.out.below fb).c0, (CH_34.out.below fb).c1, (CH_34.out.below fb).c2, (CI_34.out.below fb).c0, (CI_34.out.below fb).c1, (CI_34.out.below fb).c2, HTC.out _ fb⟩
            clear hK K
            try simp only [Act.put, List.setIfInBounds_toArray, List.set_cons_zero, List.set_cons_succ]
            refine wpAnyH_ready (rs := [18]) (by kernel_rfl) (by simp) ?_
            refine AllReadyH.cons (o := { dst := some 217, op := Op.call { callee := Callee.value (Operand.func 12), args := #[Operand.tmp 215, Operand.tmp 216], argTypes := #[27, 3] }, type := 3, pos := "laws.go:283", after := #[{ on := 16, ground := Ground.data }, { on := 17, ground := Ground.data }, { on := 14, ground := Ground.chain }, { on := 11, ground := Ground.guard }], guard := some (11, false) }) rfl (fun K hK => ?_) AllReadyH.nil
            go_simp
            go_at_call 12
            refine (CTP.out _ _ (Rp_34.out.below fb).lies).mono ?_
            rintro e Wn ⟨rfl, fbn⟩
            replace fb := fb.trans (fbn.mono fb.size)
            refine hK.out _ _ ?_ (fun hHeld => ?_)
            · exact ⟨(CP_34.out.below fb).c0, (CP_34.out.below fb).c1, (CP_34.out.below fb).c2, (CF_34.out.below fb).c0, (CF_34.out.below fb).c1, (CF_34.out.below fb).c2, (CG_34.out.below fb).c0, (CG_34.out.below fb).c1, (CG_34.out.below fb).c2, (CH_34.out.below fb).c0, (CH_34.out.below fb).c1, (CH_34.out.below fb).c2, (CI_34.out.below fb).c0, (CI_34.out.below fb).c1, (CI_34.out.below fb).c2, HTC.out _ fb⟩
            clear hK K
            try simp only [Act.put, List.setIfInBounds_toArray, List.set_cons_zero, List.set_cons_succ]
            refine wpAnyH_take (i := 19) (oi := { dst := some 218, op := Op.indexAddr 25 (Operand.tmp 214) (Operand.tmp 217), type := 0, pos := "laws.go:283", after := #[{ on := 15, ground := Ground.data }, { on := 18, ground := Ground.data }, { on := 11, ground := Ground.guard }], guard := some (11, false) }) (v := ?_) rfl (by kernel_rfl) (by kernel_rfl) (by kernel_rfl) (fun _ _ _ h => h) (Or.inl ⟨by rfl, ?_⟩) (by assumption) ?_
            rotate_left
            focus (intro w hSw; (try dsimp only at hSw); first | (go_simp; done) | (go_simp; with_reducible rfl))
            try simp only [Act.put, List.setIfInBounds_toArray, List.set_cons_zero, List.set_cons_succ]
            refine wpAnyH_take (i := 20) (oi := { dst := some 219, op := Op.load 3 (Operand.tmp 218), type := 3, pos := "laws.go:283", after := #[{ on := 19, ground := Ground.data }, { on := 11, ground := Ground.guard }], guard := some (11, false) }) (v := ?_) rfl (by kernel_rfl) (by kernel_rfl) (by kernel_rfl) (fun _ _ _ h => h) (Or.inl ⟨by rfl, ?_⟩) (by assumption) ?_
            rotate_left
            focus (intro w hSw; (try dsimp only at hSw); first | (go_simp; done) | (go_simp; with_reducible rfl))
            try simp only [Act.put, List.setIfInBounds_toArray, List.set_cons_zero, List.set_cons_succ]
            refine wpAnyH_take (i := 21) (oi := { dst := some 220, op := Op.binOp BinOp.eql 3 (Operand.tmp 213) (Operand.tmp 219) 3, type := 4, pos := "laws.go:283", after := #[{ on := 14, ground := Ground.data }, { on := 20, ground := Ground.data }, { on := 11, ground := Ground.guard }], guard := some (11, false) }) (v := ?_) rfl (by kernel_rfl) (by kernel_rfl) (by kernel_rfl) (fun _ _ _ h => h) (Or.inl ⟨by rfl, ?_⟩) (by assumption) ?_
            rotate_left
            focus (intro w hSw; (try dsimp only at hSw); first | (go_simp; done) | (go_simp; with_reducible rfl))
            try simp only [Act.put, List.setIfInBounds_toArray, List.set_cons_zero, List.set_cons_succ]
            refine wpAnyH_take (i := 22) (oi := { dst := some 221, op := Op.pick (Operand.tmp 210) (Operand.const (Value.bool true)) (Operand.tmp 220), type := 4, pos := "laws.go:283", after := #[{ on := 11, ground := Ground.data }, { on := 21, ground := Ground.data }, { on := 8, ground := Ground.guard }], guard := some (8, true) }) (v := ?_) rfl (by kernel_rfl) (by kernel_rfl) (by kernel_rfl) (fun _ _ _ h => h) (Or.inl ⟨by rfl, ?_⟩) (by assumption) ?_
            rotate_left
            focus (intro w hSw; (try dsimp only at hSw); first | (go_simp; done) | (go_simp; with_reducible rfl))
            try simp only [Act.put, List.setIfInBounds_toArray, List.set_cons_zero, List.set_cons_succ]
            refine wpAnyH_take (i := 23) (oi := { dst := some 222, op := Op.pick (Operand.tmp 207) (Operand.tmp 221) (Operand.const (Value.bool false)), type := 4, pos := "laws.go:283", after := #[{ on := 8, ground := Ground.data }, { on := 22, ground := Ground.data }], guard := none }) (v := ?_) rfl (by kernel_rfl) (by kernel_rfl) (by kernel_rfl) (fun _ _ _ h => h) (Or.inl ⟨by rfl, ?_⟩) (by assumption) ?_
            rotate_left
            focus (intro w hSw; (try dsimp only at hSw); first | (go_simp; done) | (go_simp; with_reducible rfl))
            try simp only [Act.put, List.setIfInBounds_toArray, List.set_cons_zero, List.set_cons_succ]
            refine wpAnyH_take (i := 24) (oi := { dst := some 223, op := Op.move (Operand.tmp 222), type := 4, pos := "laws.go:283", after := #[{ on := 23, ground := Ground.data }, { on := 18, ground := Ground.chain }], guard := none }) (v := ?_) rfl (by kernel_rfl) (by kernel_rfl) (by kernel_rfl) (fun _ _ _ h => h) (Or.inl ⟨by rfl, ?_⟩) (by assumption) ?_
            rotate_left
            focus (intro w hSw; (try dsimp only at hSw); first | (go_simp; done) | (go_simp; with_reducible rfl))
            try simp only [Act.put, List.setIfInBounds_toArray, List.set_cons_zero, List.set_cons_succ]
            refine wpAnyH_take (i := 25) (oi := { dst := some 224, op := Op.move (Operand.tmp 31), type := 4, pos := "laws.go:283", after := #[{ on := 24, ground := Ground.guard }], guard := some (24, true) }) (v := ?_) rfl (by kernel_rfl) (by kernel_rfl) (by kernel_rfl) (fun _ _ _ h => h) (Or.inl ⟨by rfl, ?_⟩) (by assumption) ?_
            rotate_left
            focus (intro w hSw; (try dsimp only at hSw); first | (go_simp; done) | (go_simp; with_reducible rfl))
            try simp only [Act.put, List.setIfInBounds_toArray, List.set_cons_zero, List.set_cons_succ]
            refine wpAnyH_take (i := 26) (oi := { dst := some 225, op := Op.move (Operand.tmp 33), type := 4, pos := "laws.go:283", after := #[{ on := 24, ground := Ground.guard }], guard := some (24, true) }) (v := ?_) rfl (by kernel_rfl) (by kernel_rfl) (by kernel_rfl) (fun _ _ _ h => h) (Or.inl ⟨by rfl, ?_⟩) (by assumption) ?_
            rotate_left
            focus (intro w hSw; (try dsimp only at hSw); first | (go_simp; done) | (go_simp; with_reducible rfl))
            try simp only [Act.put, List.setIfInBounds_toArray, List.set_cons_zero, List.set_cons_succ]
            refine wpAnyH_take (i := 27) (oi := { dst := some 226, op := Op.binOp BinOp.eql 4 (Operand.tmp 224) (Operand.tmp 225) 4, type := 4, pos := "laws.go:283", after := #[{ on := 25, ground := Ground.data }, { on := 26, ground := Ground.data }, { on := 24, ground := Ground.guard }], guard := some (24, true) }) (v := ?_) rfl (by kernel_rfl) (by kernel_rfl) (by kernel_rfl) (fun _ _ _ h => h) (Or.inl ⟨by rfl, ?_⟩) (by assumption) ?_
            rotate_left
            focus (intro w hSw; (try dsimp only at hSw); first | (go_simp; done) | (go_simp; with_reducible rfl))
            try simp only [Act.put, List.setIfInBounds_toArray, List.set_cons_zero, List.set_cons_succ]
            refine wpAnyH_take (i := 28) (oi := { dst := some 227, op := Op.pick (Operand.tmp 223) (Operand.tmp 226) (Operand.const (Value.bool false)), type := 4, pos := "laws.go:283", after := #[{ on := 24, ground := Ground.data }, { on := 27, ground := Ground.data }], guard := none }) (v := ?_) rfl (by kernel_rfl) (by kernel_rfl) (by kernel_rfl) (fun _ _ _ h => h) (Or.inl ⟨by rfl, ?_⟩) (by assumption) ?_
            rotate_left
            focus (intro w hSw; (try dsimp only at hSw); first | (go_simp; done) | (go_simp; with_reducible rfl))
            try simp only [Act.put, List.setIfInBounds_toArray, List.set_cons_zero, List.set_cons_succ]
            refine wpAnyH_take (i := 29) (oi := { dst := some 228, op := Op.move (Operand.tmp 227), type := 4, pos := "laws.go:283", after := #[{ on := 28, ground := Ground.data }, { on := 24, ground := Ground.chain }], guard := none }) (v := ?_) rfl (by kernel_rfl) (by kernel_rfl) (by kernel_rfl) (fun _ _ _ h => h) (Or.inl ⟨by rfl, ?_⟩) (by assumption) ?_
            rotate_left
            focus (intro w hSw; (try dsimp only at hSw); first | (go_simp; done) | (go_simp; with_reducible rfl))
            try simp only [Act.put, List.setIfInBounds_toArray, List.set_cons_zero, List.set_cons_succ]
            refine wpAnyH_take (i := 30) (oi := { dst := some 229, op := Op.load 27 (Operand.tmp 30), type := 27, pos := "laws.go:283", after := #[{ on := 29, ground := Ground.guard }], guard := some (29, true) }) (v := ?_) rfl (by kernel_rfl) (by kernel_rfl) (by kernel_rfl) (fun _ _ _ h => h) (Or.inl ⟨by rfl, ?_⟩) (by assumption) ?_
            rotate_left
            focus (intro w hSw; (try dsimp only at hSw); first | (go_simp; done) | (go_simp; with_reducible rfl))
            try simp only [Act.put, List.setIfInBounds_toArray, List.set_cons_zero, List.set_cons_succ]
            refine wpAnyH_take (i := 31) (oi := { dst := some 230, op := Op.load 27 (Operand.tmp 32), type := 27, pos := "laws.go:283", after := #[{ on := 29, ground := Ground.guard }], guard := some (29, true) }) (v := ?_) rfl (by kernel_rfl) (by kernel_rfl) (by kernel_rfl) (fun _ _ _ h => h) (Or.inl ⟨by rfl, ?_⟩) (by assumption) ?_
            rotate_left
            focus (intro w hSw; (try dsimp only at hSw); first | (go_simp; done) | (go_simp; with_reducible rfl))
            try simp only [Act.put, List.setIfInBounds_toArray, List.set_cons_zero, List.set_cons_succ]
            refine wpAnyH_ready (rs := [32]) (by kernel_rfl) (by simp) ?_
            refine AllReadyH.cons (o := { dst := some 231, op := Op.call { callee := Callee.value (Operand.func 8), args := #[Operand.tmp 229, Operand.tmp 230], argTypes := #[27, 27] }, type := 4, pos := "laws.go:283", after := #[{ on := 30, ground := Ground.data }, { on := 31, ground := Ground.data }, { on := 29, ground := Ground.chain }, { on := 29, ground := Ground.guard }], guard := some (29, true) }) rfl (fun K hK => ?_) AllReadyH.nil
            go_simp
            go_at_call 8
            refine (equal_own _ _ cb cr co _ (Rh_34.out.below fb).lies (Ri_34.out.below fb).lies).mono ?_
            rintro e Wn ⟨rfl, fbn⟩
            replace fb := fb.trans (fbn.mono fb.size)
            refine hK.out _ _ ?_ (fun hHeld => ?_)
            · exact ⟨(CP_34.out.below fb).c0, (CP_34.out.below fb).c1, (CP_34.out.below fb).c2, (CF_34.out.below fb).c0, (CF_34.out.below fb).c1, (CF_34.out.below fb).c2, (CG_34.out.below fb).c0, (CG_34.out.below fb).c1, (CG_34.out.below fb).c2, (CH_34.out.below fb).c0, (CH_34.out.below fb).c1, (CH_34.out.below fb).c2, (CI_34.out.below fb).c0, (CI_34.out.below fb).c1, (CI_34.out.below fb).c2, HTC.out _ fb⟩
            clear hK K
            try simp only [Act.put, List.setIfInBounds_toArray, List.set_cons_zero, List.set_cons_succ]
            refine wpAnyH_take (i := 33) (oi := { dst := some 232, op := Op.pick (Operand.tmp 228) (Operand.tmp 231) (Operand.const (Value.bool false)), type := 4, pos := "laws.go:283", after := #[{ on := 29, ground := Ground.data }, { on := 32, ground := Ground.data }], guard := none }) (v := ?_) rfl (by kernel_rfl) (by kernel_rfl) (by kernel_rfl) (fun _ _ _ h => h) (Or.inl ⟨by rfl, ?_⟩) (by assumption) ?_
            rotate_left
            focus (intro w hSw; (try dsimp only at hSw); first | (go_simp; done) | (go_simp; with_reducible rfl))
            try simp only [Act.put, List.setIfInBounds_toArray, List.set_cons_zero, List.set_cons_succ]
            refine wpAnyH_take (i := 34) (oi := { dst := some 233, op := Op.move (Operand.tmp 232), type := 4, pos := "laws.go:283", after := #[{ on := 33, ground := Ground.data }, { on := 32, ground := Ground.chain }], guard := none }) (v := ?_) rfl (by kernel_rfl) (by kernel_rfl) (by kernel_rfl) (fun _ _ _ h => h) (Or.inl ⟨by rfl, ?_⟩) (by assumption) ?_
            rotate_left
            focus (intro w hSw; (try dsimp only at hSw); first | (go_simp; done) | (go_simp; with_reducible rfl))
            try simp only [Act.put, List.setIfInBounds_toArray, List.set_cons_zero, List.set_cons_succ]
            refine wpAnyH_take (i := 35) (oi := { dst := some 234, op := Op.move (Operand.tmp 34), type := 3, pos := "laws.go:283", after := #[{ on := 34, ground := Ground.guard }], guard := some (34, true) }) (v := ?_) rfl (by kernel_rfl) (by kernel_rfl) (by kernel_rfl) (fun _ _ _ h => h) (Or.inl ⟨by rfl, ?_⟩) (by assumption) ?_
            rotate_left
            focus (intro w hSw; (try dsimp only at hSw); first | (go_simp; done) | (go_simp; with_reducible rfl))
            try simp only [Act.put, List.setIfInBounds_toArray, List.set_cons_zero, List.set_cons_succ]
            refine wpAnyH_take (i := 36) (oi := { dst := some 235, op := Op.move (Operand.tmp 35), type := 3, pos := "laws.go:283", after := #[{ on := 34, ground := Ground.guard }], guard := some (34, true) }) (v := ?_) rfl (by kernel_rfl) (by kernel_rfl) (by kernel_rfl) (fun _ _ _ h => h) (Or.inl ⟨by rfl, ?_⟩) (by assumption) ?_
            rotate_left
            focus (intro w hSw; (try dsimp only at hSw); first | (go_simp; done) | (go_simp; with_reducible rfl))
            try simp only [Act.put, List.setIfInBounds_toArray, List.set_cons_zero, List.set_cons_succ]
            refine wpAnyH_take (i := 37) (oi := { dst := some 236, op := Op.move (Operand.tmp 36), type := 3, pos := "laws.go:283", after := #[{ on := 34, ground := Ground.guard }], guard := some (34, true) }) (v := ?_) rfl (by kernel_rfl) (by kernel_rfl) (by kernel_rfl) (fun _ _ _ h => h) (Or.inl ⟨by rfl, ?_⟩) (by assumption) ?_
            rotate_left
            focus (intro w hSw; (try dsimp only at hSw); first | (go_simp; done) | (go_simp; with_reducible rfl))
            try simp only [Act.put, List.setIfInBounds_toArray, List.set_cons_zero, List.set_cons_succ]
            refine wpAnyH_take (i := 39) (oi := { dst := some 238, op := Op.move (Operand.tmp 34), type := 3, pos := "laws.go:283", after := #[{ on := 34, ground := Ground.guard }], guard := some (34, true) }) (v := ?_) rfl (by kernel_rfl) (by kernel_rfl) (by kernel_rfl) (fun _ _ _ h => h) (Or.inl ⟨by rfl, ?_⟩) (by assumption) ?_
            rotate_left
            focus (intro w hSw; (try dsimp only at hSw); first | (go_simp; done) | (go_simp; with_reducible rfl))
            try simp only [Act.put, List.setIfInBounds_toArray, List.set_cons_zero, List.set_cons_succ]
            refine wpAnyH_take (i := 40) (oi := { dst := some 239, op := Op.move (Operand.tmp 35), type := 3, pos := "laws.go:283", after := #[{ on := 34, ground := Ground.guard }], guard := some (34, true) }) (v := ?_) rfl (by kernel_rfl) (by kernel_rfl) (by kernel_rfl) (fun _ _ _ h => h) (Or.inl ⟨by rfl, ?_⟩) (by assumption) ?_
            rotate_left
            focus (intro w hSw; (try dsimp only at hSw); first | (go_simp; done) | (go_simp; with_reducible rfl))
            try simp only [Act.put, List.setIfInBounds_toArray, List.set_cons_zero, List.set_cons_succ]
            refine wpAnyH_take (i := 41) (oi := { dst := some 240, op := Op.move (Operand.tmp 36), type := 3, pos := "laws.go:283", after := #[{ on := 34, ground := Ground.guard }], guard := some (34, true) }) (v := ?_) rfl (by kernel_rfl) (by kernel_rfl) (by kernel_rfl) (fun _ _ _ h => h) (Or.inl ⟨by rfl, ?_⟩) (by assumption) ?_
            rotate_left
            focus (intro w hSw; (try dsimp only at hSw); first | (go_simp; done) | (go_simp; with_reducible rfl))
            try simp only [Act.put, List.setIfInBounds_toArray, List.set_cons_zero, List.set_cons_succ]
            refine wpAnyH_ready (rs := [38]) (by kernel_rfl) (by simp) ?_
            refine AllReadyH.cons (o := { dst := some 237, op := Op.call { callee := Callee.value (Operand.func 11), args := #[Operand.tmp 234, Operand.tmp 235, Operand.tmp 236], argTypes := #[3, 3, 3] }, type := 3, pos := "laws.go:283", after := #[{ on := 35, ground := Ground.data }, { on := 36, ground := Ground.data }, { on := 37, ground := Ground.data }, { on := 34, ground := Ground.chain }, { on := 34, ground := Ground.guard }], guard := some (34, true) }) rfl (fun K hK => ?_) AllReadyH.nil
            go_simp
            go_at_call 11
            refine (CVI.out _).mono ?_
            rintro e Wn ⟨rfl, fbn⟩
            replace fb := fb.trans (fbn.mono fb.size)
            refine hK.out _ _ ?_ (fun hHeld => ?_)
            · exact ⟨(CP_34.out.below fb).c0, (CP_34.out.below fb).c1, (CP_34.out.below fb).c2, (CF_34.out.below fb).c0, (CF_34.out.below fb).c1, (CF_34.out.below fb).c2, (CG_34.out.below fb).c0, (CG_34.out.below fb).c1, (CG_34.out.below fb).c2, (CH_34.out.below fb).c0, (CH_34.out.below fb).c1, (CH_34.out.below fb).c2, (CI_34.out.below fb).c0, (CI_34.out.below fb).c1, (CI_34.out.below fb).c2, HTC.out _ fb⟩
            clear hK K
            try simp only [Act.put, List.setIfInBounds_toArray, List.set_cons_zero, List.set_cons_succ]
            refine wpAnyH_ready (rs := [42]) (by kernel_rfl) (by simp) ?_
            refine AllReadyH.cons (o := { dst := some 241, op := Op.call { callee := Callee.value (Operand.func 27), args := #[Operand.tmp 238, Operand.tmp 239, Operand.tmp 240], argTypes := #[3, 3, 3] }, type := 3, pos := "laws.go:283", after := #[{ on := 39, ground := Ground.data }, { on := 40, ground := Ground.data }, { on := 41, ground := Ground.data }, { on := 38, ground := Ground.chain }, { on := 34, ground := Ground.guard }], guard := some (34, true) }) rfl (fun K hK => ?_) AllReadyH.nil
            go_simp
            go_at_call 27
            refine (CVS.out _).mono ?_
            rintro e Wn ⟨rfl, rfl⟩
            refine hK.out _ _ ?_ (fun hHeld => ?_)
            · exact ⟨(CP_34.out.below fb).c0, (CP_34.out.below fb).c1, (CP_34.out.below fb).c2, (CF_34.out.below fb).c0, (CF_34.out.below fb).c1, (CF_34.out.below fb).c2, (CG_34.out.below fb).c0, (CG_34.out.below fb).c1, (CG_34.out.below fb).c2, (CH_34.out.below fb).c0, (CH_34.out.below fb).c1, (CH_34.out.below fb).c2, (CI_34.out.below fb).c0, (CI_34.out.below fb).c1, (CI_34.out.below fb).c2, HTC.out _ fb⟩
            clear hK K
            try simp only [Act.put, List.setIfInBounds_toArray, List.set_cons_zero, List.set_cons_succ]
            refine wpAnyH_take (i := 43) (oi := { dst := some 242, op := Op.binOp BinOp.eql 3 (Operand.tmp 237) (Operand.tmp 241) 3, type := 4, pos := "laws.go:283", after := #[{ on := 38, ground := Ground.data }, { on := 42, ground := Ground.data }, { on := 34, ground := Ground.guard }], guard := some (34, true) }) (v := ?_) rfl (by kernel_rfl) (by kernel_rfl) (by kernel_rfl) (fun _ _ _ h => h) (Or.inl ⟨by rfl, ?_⟩) (by assumption) ?_
            rotate_left
            focus (intro w hSw; (try dsimp only at hSw); first | (go_simp; done) | (go_simp; with_reducible rfl))
            try simp only [Act.put, List.setIfInBounds_toArray, List.set_cons_zero, List.set_cons_succ]
            refine wpAnyH_take (i := 44) (oi := { dst := some 243, op := Op.pick (Operand.tmp 233) (Operand.tmp 242) (Operand.const (Value.bool false)), type := 4, pos := "laws.go:283", after := #[{ on := 34, ground := Ground.data }, { on := 43, ground := Ground.data }], guard := none }) (v := ?_) rfl (by kernel_rfl) (by kernel_rfl) (by kernel_rfl) (fun _ _ _ h => h) (Or.inl ⟨by rfl, ?_⟩) (by assumption) ?_
            rotate_left
            focus (intro w hSw; (try dsimp only at hSw); first | (go_simp; done) | (go_simp; with_reducible rfl))
            try simp only [Act.put, List.setIfInBounds_toArray, List.set_cons_zero, List.set_cons_succ]
            refine wpAnyH_take (i := 45) (oi := { dst := some 2, op := Op.assign (Operand.tmp 243), type := 4, pos := "laws.go:283", after := #[{ on := 44, ground := Ground.data }, { on := 42, ground := Ground.chain }, { on := 0, ground := Ground.phase }, { on := 1, ground := Ground.phase }, { on := 2, ground := Ground.phase }, { on := 3, ground := Ground.phase }, { on := 4, ground := Ground.phase }, { on := 5, ground := Ground.phase }, { on := 6, ground := Ground.phase }, { on := 7, ground := Ground.phase }, { on := 8, ground := Ground.phase }, { on := 9, ground := Ground.phase }, { on := 10, ground := Ground.phase }, { on := 11, ground := Ground.phase }, { on := 12, ground := Ground.phase }, { on := 13, ground := Ground.phase }, { on := 14, ground := Ground.phase }, { on := 15, ground := Ground.phase }, { on := 16, ground := Ground.phase }, { on := 17, ground := Ground.phase }, { on := 18, ground := Ground.phase }, { on := 19, ground := Ground.phase }, { on := 20, ground := Ground.phase }, { on := 21, ground := Ground.phase }, { on := 22, ground := Ground.phase }, { on := 23, ground := Ground.phase }, { on := 24, ground := Ground.phase }, { on := 25, ground := Ground.phase }, { on := 26, ground := Ground.phase }, { on := 27, ground := Ground.phase }, { on := 28, ground := Ground.phase }, { on := 29, ground := Ground.phase }, { on := 30, ground := Ground.phase }, { on := 31, ground := Ground.phase }, { on := 32, ground := Ground.phase }, { on := 33, ground := Ground.phase }, { on := 34, ground := Ground.phase }, { on := 35, ground := Ground.phase }, { on := 36, ground := Ground.phase }, { on := 37, ground := Ground.phase }, { on := 38, ground := Ground.phase }, { on := 39, ground := Ground.phase }, { on := 40, ground := Ground.phase }, { on := 41, ground := Ground.phase }, { on := 42, ground := Ground.phase }, { on := 43, ground := Ground.phase }, { on := 44, ground := Ground.phase }], guard := none }) (v := ?_) rfl (by kernel_rfl) (by kernel_rfl) (by kernel_rfl) (fun _ _ _ h => h) (Or.inl ⟨by rfl, ?_⟩) (by assumption) ?_
            rotate_left
            focus (intro w hSw; (try dsimp only at hSw); first | (go_simp; done) | (go_simp; with_reducible rfl))
            try simp only [Act.put, List.setIfInBounds_toArray, List.set_cons_zero, List.set_cons_succ]
            refine wpAnyH_done (by kernel_rfl) ?_ _
            go_wp2
            go_ret
            exact ⟨rfl, HB_34.out.trans (fb.mono HB_34.out.size)⟩
end Comb
end Go.Proofs.Ytodnkkofammhbaa
