/- The walk of the law on Lyndon words: it returns true for every code of bytes. No conditions beyond those that it states. -/
import Derived.Test.YtfpdikohlafpiaaGreatPW7
import Derived.Test.YtfpdikohlafpiaaGreatPW5
import Derived.Test.YtfpdikohlafpiaaGreatPW6
import Derived.Test.YtfpdikohlafpiaaGreatPW4
import Derived.Test.YtfpdikohlafpiaaGreatDigits
import Derived.Deep.DeepCutAuto
import Derived.Deep.RegionHeld3
namespace Go.Proofs.YtfpdikohlafpiaaGreat
open Go.ChangeShapes Go.WideShapes Go.ChangeAt Go.RowKit
open Go.PlainAid Plain
set_option linter.unusedVariables false
namespace LynL
open Seqs Ints Cursor Fac
theorem ownV_form {w : World} {lo hi : Nat} {v : Value} {rows : List (List Int)} (h : OwnV w lo hi v rows) : ∃ a c, v = .slice a rows.length c := by
  obtain ⟨us, h1, _, _, h2, _⟩ := h
  obtain ⟨a, c, e, _⟩ := h1.form
  exact ⟨a, c, by rw [e, h2]⟩
theorem lyn_yes {r : List Int} (h : lyB r = true) (hl : r.length ≤ 301) : ∀ (W : World) (u : Value), Lies (Value.int .i64) W u r → Calls Tryz.prog 9 #[u] W fun e w' => e = .returned (.bool true) ∧ Below W.heap.size W w' := fun W u l => by
  have h1 := Lynd.impl_lyn u r W l (by omega)
  rw [h] at h1
  exact h1
theorem cmp_lt0 {x y : List Int} (h : cmpW x y < 0) : ∃ z : Int, decide (z < 0) = true ∧ ∀ (W : World) (u v : Value), Lies (Value.int .i64) W u x → Lies (Value.int .i64) W v y → Calls Tryz.prog 16 #[u, v] W fun e w' => e = .returned (.int .i64 z) ∧ Below W.heap.size W w' :=
  ⟨_, decide_eq_true h, fun W u v l l' => Fac.spec_cmp u v x y W l l'⟩
theorem lies_below {w w' : World} {v : Value} {rows : List (List Int)} (h : LiesR w v rows) (hb : Below w.heap.size w w') : LiesR w' v rows := by
  obtain ⟨us, h1, h2, h3⟩ := h
  exact ⟨us, h1.below hb, h2, fun i u r hu hr => (h3 i u r hu hr).below hb⟩
set_option maxRecDepth 100000 in
set_option maxHeartbeats 8000000 in
theorem walk (w : World) (a : Option Addr) (len cap : Nat) (hlen : len ≤ 1048576) (hcode : Cursor.CodeIs w w.heap.size a len) :
    Calls Tryz.prog 3 #[.slice a len cap] w fun e w' => e = .returned (.bool true) ∧ Below w.heap.size w w' := by
  obtain ⟨i0, hi, hz0, hz1, hz2⟩ := info_parts Ints.infoI
  have HC := Lib.hid hcode
  clear hcode
  have HB_0 : Hid (Below w.heap.size w w) := Below.refl _ _
  go_enter Tryz.func3, Tryz.ntmps3
  go_wp2_with fail
  refine (Cursor.big_no w a len cap hlen).mono ?_
  rintro e W' ⟨rfl, rfl⟩
  go_wp2_with fail
  refine (Cursor.drawLF w a len cap hlen HC.out).mono ?_
  rintro e W1 ⟨vx, xs, hxl, rfl, h1, fb1⟩
  have HB_1 := Lib.hid (HB_0.out.trans (fb1.mono HB_0.out.size))
  have Z1 := Lib.hid (fb1.size)
  have Rx_1 := Lib.hid h1
  clear HB_0 fb1 h1
  obtain ⟨xa, xc, rfl⟩ := Rx_1.out.form
  have CFI := Lib.hid (fun (W : World) (u : Value) (l : Fac.LiesC W u xs) => Lynd.impl_lf u xs W l (by omega))
  have CFS := Lib.hid (fun (W : World) (u : Value) (l : Fac.LiesC W u xs) => Lynd.spec_lf u xs W l (by omega))
  have CYI := Lib.hid (fun (W : World) (u : Value) (l : Lies (Value.int .i64) W u xs) => Lynd.impl_lyn u xs W l (by omega))
  have CYS := Lib.hid (fun (W : World) (u : Value) (l : Fac.LiesC W u xs) => Lynd.spec_lyn u xs W l)
  have CLI := Lib.hid (fun (W : World) (u : Value) (l : Lies (Value.int .i64) W u xs) => Lynd.impl_lc u xs W l (by omega))
  have CLS := Lib.hid (fun (W : World) (u : Value) (l : Fac.LiesC W u xs) => Lynd.spec_lc u xs W l (by omega))
  have CCI := Lib.hid (fun (W : World) (u : Value) (l : Lies (Value.int .i64) W u xs) => Lynd.impl_conj u xs W l (by omega))
  have CCS := Lib.hid (fun (W : World) (u : Value) (l : Fac.LiesC W u xs) => Lynd.spec_conj u xs W l (by omega))
  have HFL := Lib.hid (fun (i : Nat) (x : List Int) (h : (lynF xs)[i]? = some x) => fac_lyn h)
  have HFD := Lib.hid (fun (i : Nat) (x y : List Int) (h : (lynF xs)[i]? = some x) (h' : (lynF xs)[i + 1]? = some y) => fac_down h h')
  have HFJ := Lib.hid (lynF_join xs)
  have HF1 := Lib.hid (fun h : 0 < xs.length => fac_one h)
  have hfl := lynF_len xs
  obtain ⟨F, hF⟩ : ∃ y, y = lynF xs := ⟨_, rfl⟩
  obtain ⟨b, hb⟩ : ∃ y, y = lyB xs := ⟨_, rfl⟩
  obtain ⟨lc, hlc⟩ : ∃ y, y = lcV xs := ⟨_, rfl⟩
  obtain ⟨cj, hcj⟩ : ∃ y, y = conjV xs := ⟨_, rfl⟩
  rw [← hF] at CFI CFS HFL HFD HFJ HF1 hfl
  rw [← hb] at CYI CYS HF1
  rw [← hlc] at CLI CLS
  rw [← hcj] at CCI CCS
  have hn1 : (b != b) = false := by simp
  have hFl : F.length ≤ 301 := by omega
  have HXL := Lib.hid hxl
  clear hF hb hlc hcj hfl
  go_wp2_with fail
  refine (CFI.out _ _ (Fac.LiesC.of_has Rx_1.out.has)).mono ?_
  rintro e W2 ⟨vl, usl, rfl, h2, fb2⟩
  have HB_2 := Lib.hid (HB_1.out.trans (fb2.mono HB_1.out.size))
  have Rx_2 := Lib.hid (Rx_1.out.below fb2)
  have Z2 := Lib.hid (fb2.size)
  have Rl_2 := Lib.hid h2
  clear Rx_1 HB_1 fb2 h2
  obtain ⟨la, lcc, rfl⟩ := Lynd.ownR_form Rl_2.out
  go_wp2_with fail
  refine (CFS.out _ _ (Fac.LiesC.of_has Rx_2.out.has)).mono ?_
  rintro e W3 ⟨vm, rfl, h3, fb3⟩
  have HB_3 := Lib.hid (HB_2.out.trans (fb3.mono HB_2.out.size))
  have Rx_3 := Lib.hid (Rx_2.out.below fb3)
  have Rl_3 := Lib.hid (Rl_2.out.below fb3)
  have Z3 := Lib.hid (fb3.size)
  have Rm_3 := Lib.hid h3
  clear Rx_2 Rl_2 HB_2 fb3 h3
  go_wp2_with fail
  refine (Lynd.same_words _ _ F _ Rl_3.out.lies Rm_3.out.lies).mono ?_
  rintro e W4 ⟨rfl, fb4⟩
  have HB_4 := Lib.hid (HB_3.out.trans (fb4.mono HB_3.out.size))
  have Rx_4 := Lib.hid (Rx_3.out.below fb4)
  have Rl_4 := Lib.hid (Rl_3.out.below fb4)
  have Rm_4 := Lib.hid (Rm_3.out.below fb4)
  have Z4 := Lib.hid (fb4.size)
  clear Rx_3 Rl_3 Rm_3 HB_3 fb4
  clear Rm_4
  go_wp2_with fail
  refine (CYI.out _ _ Rx_4.out.lies).mono ?_
  rintro e W5 ⟨rfl, fb5⟩
  have HB_5 := Lib.hid (HB_4.out.trans (fb5.mono HB_4.out.size))
  have Rx_5 := Lib.hid (Rx_4.out.below fb5)
  have Rl_5 := Lib.hid (Rl_4.out.below fb5)
  have Z5 := Lib.hid (fb5.size)
  clear Rx_4 Rl_4 HB_4 fb5
  go_wp2_with fail
  refine (CYS.out _ _ (Fac.LiesC.of_has Rx_5.out.has)).mono ?_
  rintro e W6 ⟨rfl, fb6⟩
  have HB_6 := Lib.hid (HB_5.out.trans (fb6.mono HB_5.out.size))
  have Rx_6 := Lib.hid (Rx_5.out.below fb6)
  have Rl_6 := Lib.hid (Rl_5.out.below fb6)
  have Z6 := Lib.hid (fb6.size)
  clear Rx_5 Rl_5 HB_5 fb6
  go_wp2_with fail
  refine (CLI.out _ _ Rx_6.out.lies).mono ?_
  rintro e W7 ⟨vp, rfl, h7, fb7⟩
  have HB_7 := Lib.hid (HB_6.out.trans (fb7.mono HB_6.out.size))
  have Rx_7 := Lib.hid (Rx_6.out.below fb7)
  have Rl_7 := Lib.hid (Rl_6.out.below fb7)
  have Z7 := Lib.hid (fb7.size)
  have Rp_7 := Lib.hid (OwnI.of_gives h7)
  clear Rx_6 Rl_6 HB_6 fb7 h7
  go_wp2_with fail
  refine (CLS.out _ _ (Fac.LiesC.of_has Rx_7.out.has)).mono ?_
  rintro e W8 ⟨vq, rfl, h8, fb8⟩
  have HB_8 := Lib.hid (HB_7.out.trans (fb8.mono HB_7.out.size))
  have Rx_8 := Lib.hid (Rx_7.out.below fb8)
  have Rl_8 := Lib.hid (Rl_7.out.below fb8)
  have Rp_8 := Lib.hid (Rp_7.out.below fb8)
  have Z8 := Lib.hid (fb8.size)
  have Rq_8 := Lib.hid (OwnI.of_gives h8)
  clear Rx_7 Rl_7 Rp_7 HB_7 fb8 h8
  go_wp2_with fail
  refine (Ints.same_yes _ _ lc _ Rp_8.out.lies Rq_8.out.lies).mono ?_
  rintro e W9 ⟨rfl, fb9⟩
  have HB_9 := Lib.hid (HB_8.out.trans (fb9.mono HB_8.out.size))
  have Rx_9 := Lib.hid (Rx_8.out.below fb9)
  have Rl_9 := Lib.hid (Rl_8.out.below fb9)
  have Rp_9 := Lib.hid (Rp_8.out.below fb9)
  have Rq_9 := Lib.hid (Rq_8.out.below fb9)
  have Z9 := Lib.hid (fb9.size)
  clear Rx_8 Rl_8 Rp_8 Rq_8 HB_8 fb9
  clear Rp_9 Rq_9
  go_wp2_with fail
  refine (CCI.out _ _ Rx_9.out.lies).mono ?_
  rintro e W10 ⟨vc, usc, rfl, h10, fb10⟩
  have HB_10 := Lib.hid (HB_9.out.trans (fb10.mono HB_9.out.size))
  have Rx_10 := Lib.hid (Rx_9.out.below fb10)
  have Rl_10 := Lib.hid (Rl_9.out.below fb10)
  have Z10 := Lib.hid (fb10.size)
  have Rc_10 := Lib.hid h10
  clear Rx_9 Rl_9 HB_9 fb10 h10
  go_wp2_with fail
  refine (CCS.out _ _ (Fac.LiesC.of_has Rx_10.out.has)).mono ?_
  rintro e W11 ⟨vd, rfl, h11, fb11⟩
  have HB_11 := Lib.hid (HB_10.out.trans (fb11.mono HB_10.out.size))
  have Rx_11 := Lib.hid (Rx_10.out.below fb11)
  have Rl_11 := Lib.hid (Rl_10.out.below fb11)
  have Rc_11 := Lib.hid (Rc_10.out.below fb11)
  have Z11 := Lib.hid (fb11.size)
  have Rd_11 := Lib.hid h11
  clear Rx_10 Rl_10 Rc_10 HB_10 fb11 h11
  go_wp2_with fail
  refine (Lynd.same_words _ _ cj _ Rc_11.out.lies Rd_11.out.lies).mono ?_
  rintro e W12 ⟨rfl, fb12⟩
  have HB_12 := Lib.hid (HB_11.out.trans (fb12.mono HB_11.out.size))
  have Rx_12 := Lib.hid (Rx_11.out.below fb12)
  have Rl_12 := Lib.hid (Rl_11.out.below fb12)
  have Rc_12 := Lib.hid (Rc_11.out.below fb12)
  have Rd_12 := Lib.hid (Rd_11.out.below fb12)
  have Z12 := Lib.hid (fb12.size)
  clear Rx_11 Rl_11 Rc_11 Rd_11 HB_11 fb12
  clear Rc_12 Rd_12
  obtain ⟨_, _, e, _, hrow⟩ := Rl_12.out.lies.row
  injection e with e1 e2 e3
  subst e1
  subst e3
  have HROW := Lib.hid hrow
  clear hrow e2
  go_wp2_with fail
  go_loopw [5, 6] (fun j' i' wr => ∃ (i : Nat) (vj : Value), i ≤ F.length ∧ vj = j' ∧ i' = .int .i64 i ∧ Hid (Has (Value.int .i64) 3 wr W12.heap.size vj (F.take i).flatten) ∧ Hid (Below W12.heap.size W12 wr)) (fun _ i' _ => F.length - (intOf i').toNat)
  case atStart => exact ⟨0, _, Nat.zero_le _, rfl, rfl, has_lit0 rfl (Nat.le_refl _), (Below.refl _ _).alloc (Nat.le_refl _) _⟩
  case round =>
    obtain ⟨i, vj, hil, rfl, rfl, HJ, HBr⟩ := hrel
    obtain ⟨W9, hW9⟩ : ∃ W : World, W = wr := ⟨_, rfl⟩
    rw [← hW9] at HJ HBr ⊢
    clear hW9
    have hjl : (F.take i).flatten.length ≤ 301 := by have := flat_le F i; rw [HFJ.out] at this; have := HXL.out; omega
    by_cases hlt : i < F.length
    case pos =>
      cases i with
      | zero =>
        obtain ⟨r, hr⟩ : ∃ x, F[0]? = some x := ⟨_, List.getElem?_eq_getElem hlt⟩
        have hfn := flat_next hr
        have hrl : r.length ≤ 301 := by
          have h1 := flat_le F (0 + 1)
          rw [hfn, List.length_append, HFJ.out] at h1
          have := HXL.out
          omega
        have hry := HFL.out 0 r hr
        obtain ⟨g, o, ru, ea, c0, l0⟩ := HROW.out 0 r hr
        obtain ⟨_, ra, rc, rfl, _, _⟩ := id l0
        subst ea
        have HC0 := Lib.hid c0
        have HL0 := Lib.hid l0
        have CY := Lib.hid (fun (W : World) (u : Value) (l : Lies (Value.int .i64) W u r) => by have h := Lynd.impl_lyn u r W l (by omega); rw [hry] at h; exact h)
        obtain ⟨ja, jc, rfl, _⟩ := HJ.out.form
        obtain ⟨J, hJ⟩ : ∃ J, J = (F.take 0).flatten := ⟨_, rfl⟩
        rw [← hJ] at HJ hfn hjl
        try rw [← hJ]
        have HFN := Lib.hid hfn
        have c1 := (HBr.out.cell (World.block_lt_of_cell? _ _ HC0.out)).trans HC0.out
        have HL1 := Lib.hid (HL0.out.below HBr.out)
        rw [Nat.add_zero] at c1
        clear hJ hfn hr c0 l0 hry
        go_upto_region 12 with (at_builtin; refine append_lies (enc := (Value.int .i64)) (e := 3) W9 rfl (.tmp 61) (.tmp 65) 24 rfl W12.heap.size i0 (.int .i64 0) 8 Tryz.underlying24 hi hz0 hz1 hz2 rfl (.slice ja J.length jc) J rfl HJ.out (.slice ra r.length rc) r rfl HL1.out (fun _ => rfl) (by omega) (by omega) HBr.out.size ?_; intro vk wk hok hgk; have HJ2 := Lib.hid hok; have HB2 := Lib.hid (HJ.out.frame HBr.out (Nat.le_refl _) hgk); clear hok hgk)
        have c1 := (HB2.out.cell (World.block_lt_of_cell? _ _ HC0.out)).trans HC0.out
        rw [Nat.add_zero] at c1
        have HL2 := Lib.hid (HL0.out.below HB2.out)
        skip
        have fb := below_drew' wk
        refine wp_region_held_drew (S := (fun w' => w'.cell? ⟨g, o, none⟩ = some (.slice ra r.length rc))) (by kernel_rfl) ?_ (fun hHeld => ?_)
        · exact (fb.cell (World.block_lt_of_cell? _ _ c1)).trans c1
        refine wpAnyH_take (i := 0) (oi := { dst := some 67, op := Op.move (Operand.tmp 4), type := 26, pos := "laws.go:504", after := #[], guard := none }) (v := ?_) rfl (by kernel_rfl) (by kernel_rfl) (by kernel_rfl) (fun _ _ _ h => h) (Or.inl ⟨by rfl, ?_⟩) (by assumption) ?_
        rotate_left
        focus (intro w hSw; (try dsimp only at hSw); first | (go_simp; done) | (go_simp; with_reducible rfl))
        try simp only [Act.put, List.setIfInBounds_toArray, List.set_cons_zero, List.set_cons_succ]
        refine wpAnyH_take (i := 1) (oi := { dst := some 68, op := Op.move (Operand.tmp 6), type := 3, pos := "laws.go:504", after := #[], guard := none }) (v := ?_) rfl (by kernel_rfl) (by kernel_rfl) (by kernel_rfl) (fun _ _ _ h => h) (Or.inl ⟨by rfl, ?_⟩) (by assumption) ?_
        rotate_left
        focus (intro w hSw; (try dsimp only at hSw); first | (go_simp; done) | (go_simp; with_reducible rfl))
        try simp only [Act.put, List.setIfInBounds_toArray, List.set_cons_zero, List.set_cons_succ]
        refine wpAnyH_take (i := 2) (oi := { dst := some 69, op := Op.indexAddr 26 (Operand.tmp 67) (Operand.tmp 68), type := 0, pos := "laws.go:504", after := #[{ on := 0, ground := Ground.data }, { on := 1, ground := Ground.data }], guard := none }) (v := ?_) rfl (by kernel_rfl) (by kernel_rfl) (by kernel_rfl) (fun _ _ _ h => h) (Or.inl ⟨by rfl, ?_⟩) (by assumption) ?_
        rotate_left
        focus (intro w hSw; (try dsimp only at hSw); first | (go_simp; done) | (go_simp; with_reducible rfl))
        try simp only [Act.put, List.setIfInBounds_toArray, List.set_cons_zero, List.set_cons_succ]
        refine wpAnyH_take (i := 3) (oi := { dst := some 70, op := Op.load 24 (Operand.tmp 69), type := 24, pos := "laws.go:504", after := #[{ on := 2, ground := Ground.data }], guard := none }) (v := ?_) rfl (by kernel_rfl) (by kernel_rfl) (by kernel_rfl) (fun _ _ _ h => h) (Or.inl ⟨by rfl, ?_⟩) (by assumption) ?_
        rotate_left
        focus (intro w hSw; (try dsimp only at hSw); first | (go_simp; done) | (go_simp; with_reducible rfl))
        try simp only [Act.put, List.setIfInBounds_toArray, List.set_cons_zero, List.set_cons_succ]
        refine wpAnyH_ready (rs := [4]) (by kernel_rfl) (by simp) ?_
        refine AllReadyH.cons (o := { dst := some 71, op := Op.call { callee := Callee.value (Operand.func 9), args := #[Operand.tmp 70], argTypes := #[24] }, type := 4, pos := "laws.go:504", after := #[{ on := 3, ground := Ground.data }], guard := none }) rfl (fun K hK => ?_) AllReadyH.nil
        go_simp
        go_at_call 9
        refine (CY.out _ _ (HL2.out.below fb)).mono ?_
        rintro e Wn ⟨rfl, fbn⟩
        replace fb := fb.trans (fbn.mono fb.size)
        refine hK.out _ _ ?_ (fun hHeld => ?_)
        · exact (fb.cell (World.block_lt_of_cell? _ _ c1)).trans c1
        clear hK K
        try simp only [Act.put, List.setIfInBounds_toArray, List.set_cons_zero, List.set_cons_succ]
        refine wpAnyH_take (i := 5) (oi := { dst := some 72, op := Op.unOp UnOp.not 4 (Operand.tmp 71), type := 4, pos := "laws.go:504", after := #[{ on := 4, ground := Ground.data }], guard := none }) (v := ?_) rfl (by kernel_rfl) (by kernel_rfl) (by kernel_rfl) (fun _ _ _ h => h) (Or.inl ⟨by rfl, ?_⟩) (by assumption) ?_
        rotate_left
        focus (intro w hSw; (try dsimp only at hSw); first | (go_simp; done) | (go_simp; with_reducible rfl))
        try simp only [Act.put, List.setIfInBounds_toArray, List.set_cons_zero, List.set_cons_succ]
        refine wpAnyH_take (i := 6) (oi := { dst := some 73, op := Op.move (Operand.tmp 72), type := 4, pos := "laws.go:504", after := #[{ on := 5, ground := Ground.data }, { on := 4, ground := Ground.chain }], guard := none }) (v := ?_) rfl (by kernel_rfl) (by kernel_rfl) (by kernel_rfl) (fun _ _ _ h => h) (Or.inl ⟨by rfl, ?_⟩) (by assumption) ?_
        rotate_left
        focus (intro w hSw; (try dsimp only at hSw); first | (go_simp; done) | (go_simp; with_reducible rfl))
        try simp only [Act.put, List.setIfInBounds_toArray, List.set_cons_zero, List.set_cons_succ]
        refine wpAnyH_take (i := 7) (oi := { dst := some 74, op := Op.move (Operand.tmp 6), type := 3, pos := "laws.go:504", after := #[{ on := 6, ground := Ground.guard }], guard := some (6, false) }) (v := ?_) rfl (by kernel_rfl) (by kernel_rfl) (by kernel_rfl) (fun _ _ _ h => h) (Or.inl ⟨by rfl, ?_⟩) (by assumption) ?_
        rotate_left
        focus (intro w hSw; (try dsimp only at hSw); first | (go_simp; done) | (go_simp; with_reducible rfl))
        try simp only [Act.put, List.setIfInBounds_toArray, List.set_cons_zero, List.set_cons_succ]
        refine wpAnyH_take (i := 8) (oi := { dst := some 75, op := Op.binOp BinOp.gtr 3 (Operand.tmp 74) (Operand.const (Value.int IntKind.i64 0)) 3, type := 4, pos := "laws.go:504", after := #[{ on := 7, ground := Ground.data }, { on := 6, ground := Ground.guard }], guard := some (6, false) }) (v := ?_) rfl (by kernel_rfl) (by kernel_rfl) (by kernel_rfl) (fun _ _ _ h => h) (Or.inl ⟨by rfl, ?_⟩) (by assumption) ?_
        rotate_left
        focus (intro w hSw; (try dsimp only at hSw); first | (go_simp; done) | (go_simp; with_reducible rfl))
        try simp only [Act.put, List.setIfInBounds_toArray, List.set_cons_zero, List.set_cons_succ]
        refine wpAnyH_take (i := 9) (oi := { dst := some 76, op := Op.move (Operand.tmp 75), type := 4, pos := "laws.go:504", after := #[{ on := 8, ground := Ground.data }, { on := 6, ground := Ground.chain }, { on := 6, ground := Ground.guard }], guard := some (6, false) }) (v := ?_) rfl (by kernel_rfl) (by kernel_rfl) (by kernel_rfl) (fun _ _ _ h => h) (Or.inl ⟨by rfl, ?_⟩) (by assumption) ?_
        rotate_left
        focus (intro w hSw; (try dsimp only at hSw); first | (go_simp; done) | (go_simp; with_reducible rfl))
        try simp only [Act.put, List.setIfInBounds_toArray, List.set_cons_zero, List.set_cons_succ]
        refine wpAnyH_take (i := 10) (oi := { dst := some 77, op := Op.move (Operand.tmp 4), type := 26, pos := "laws.go:504", after := #[{ on := 9, ground := Ground.guard }], guard := some (9, true) }) (v := undef) rfl (by kernel_rfl) (by kernel_rfl) (by kernel_rfl) (fun _ _ _ h => h) (Or.inr ⟨by rfl, rfl⟩) (by assumption) ?_
        try simp only [Act.put, List.setIfInBounds_toArray, List.set_cons_zero, List.set_cons_succ]
        refine wpAnyH_take (i := 11) (oi := { dst := some 78, op := Op.move (Operand.tmp 6), type := 3, pos := "laws.go:504", after := #[{ on := 9, ground := Ground.guard }], guard := some (9, true) }) (v := undef) rfl (by kernel_rfl) (by kernel_rfl) (by kernel_rfl) (fun _ _ _ h => h) (Or.inr ⟨by rfl, rfl⟩) (by assumption) ?_
        try simp only [Act.put, List.setIfInBounds_toArray, List.set_cons_zero, List.set_cons_succ]
        refine wpAnyH_take (i := 12) (oi := { dst := some 79, op := Op.binOp BinOp.sub 3 (Operand.tmp 78) (Operand.const (Value.int IntKind.i64 1)) 3, type := 3, pos := "laws.go:504", after := #[{ on := 11, ground := Ground.data }, { on := 9, ground := Ground.guard }], guard := some (9, true) }) (v := undef) rfl (by kernel_rfl) (by kernel_rfl) (by kernel_rfl) (fun _ _ _ h => h) (Or.inr ⟨by rfl, rfl⟩) (by assumption) ?_
        try simp only [Act.put, List.setIfInBounds_toArray, List.set_cons_zero, List.set_cons_succ]
        refine wpAnyH_take (i := 13) (oi := { dst := some 80, op := Op.indexAddr 26 (Operand.tmp 77) (Operand.tmp 79), type := 0, pos := "laws.go:504", after := #[{ on := 10, ground := Ground.data }, { on := 12, ground := Ground.data }, { on := 9, ground := Ground.guard }], guard := some (9, true) }) (v := undef) rfl (by kernel_rfl) (by kernel_rfl) (by kernel_rfl) (fun _ _ _ h => h) (Or.inr ⟨by rfl, rfl⟩) (by assumption) ?_
        try simp only [Act.put, List.setIfInBounds_toArray, List.set_cons_zero, List.set_cons_succ]
        refine wpAnyH_take (i := 14) (oi := { dst := some 81, op := Op.load 24 (Operand.tmp 80), type := 24, pos := "laws.go:504", after := #[{ on := 13, ground := Ground.data }, { on := 9, ground := Ground.guard }], guard := some (9, true) }) (v := undef) rfl (by kernel_rfl) (by kernel_rfl) (by kernel_rfl) (fun _ _ _ h => h) (Or.inr ⟨by rfl, rfl⟩) (by assumption) ?_
        try simp only [Act.put, List.setIfInBounds_toArray, List.set_cons_zero, List.set_cons_succ]
        refine wpAnyH_take (i := 15) (oi := { dst := some 82, op := Op.move (Operand.tmp 4), type := 26, pos := "laws.go:504", after := #[{ on := 9, ground := Ground.guard }], guard := some (9, true) }) (v := undef) rfl (by kernel_rfl) (by kernel_rfl) (by kernel_rfl) (fun _ _ _ h => h) (Or.inr ⟨by rfl, rfl⟩) (by assumption) ?_
        try simp only [Act.put, List.setIfInBounds_toArray, List.set_cons_zero, List.set_cons_succ]
        refine wpAnyH_take (i := 16) (oi := { dst := some 83, op := Op.move (Operand.tmp 6), type := 3, pos := "laws.go:504", after := #[{ on := 9, ground := Ground.guard }], guard := some (9, true) }) (v := undef) rfl (by kernel_rfl) (by kernel_rfl) (by kernel_rfl) (fun _ _ _ h => h) (Or.inr ⟨by rfl, rfl⟩) (by assumption) ?_
        try simp only [Act.put, List.setIfInBounds_toArray, List.set_cons_zero, List.set_cons_succ]
        refine wpAnyH_take (i := 17) (oi := { dst := some 84, op := Op.indexAddr 26 (Operand.tmp 82) (Operand.tmp 83), type := 0, pos := "laws.go:504", after := #[{ on := 15, ground := Ground.data }, { on := 16, ground := Ground.data }, { on := 9, ground := Ground.guard }], guard := some (9, true) }) (v := undef) rfl (by kernel_rfl) (by kernel_rfl) (by kernel_rfl) (fun _ _ _ h => h) (Or.inr ⟨by rfl, rfl⟩) (by assumption) ?_
        try simp only [Act.put, List.setIfInBounds_toArray, List.set_cons_zero, List.set_cons_succ]
        refine wpAnyH_take (i := 18) (oi := { dst := some 85, op := Op.load 24 (Operand.tmp 84), type := 24, pos := "laws.go:504", after := #[{ on := 17, ground := Ground.data }, { on := 9, ground := Ground.guard }], guard := some (9, true) }) (v := undef) rfl (by kernel_rfl) (by kernel_rfl) (by kernel_rfl) (fun _ _ _ h => h) (Or.inr ⟨by rfl, rfl⟩) (by assumption) ?_
        try simp only [Act.put, List.setIfInBounds_toArray, List.set_cons_zero, List.set_cons_succ]
        refine wpAnyH_take (i := 19) (oi := { dst := some 86, op := Op.call { callee := Callee.value (Operand.func 16), args := #[Operand.tmp 81, Operand.tmp 85], argTypes := #[24, 24] }, type := 3, pos := "laws.go:504", after := #[{ on := 14, ground := Ground.data }, { on := 18, ground := Ground.data }, { on := 9, ground := Ground.chain }, { on := 9, ground := Ground.guard }], guard := some (9, true) }) (v := undef) rfl (by kernel_rfl) (by kernel_rfl) (by kernel_rfl) (fun _ _ _ h => h) (Or.inr ⟨by rfl, rfl⟩) (by assumption) ?_
        try simp only [Act.put, List.setIfInBounds_toArray, List.set_cons_zero, List.set_cons_succ]
        refine wpAnyH_take (i := 20) (oi := { dst := some 87, op := Op.binOp BinOp.lss 3 (Operand.tmp 86) (Operand.const (Value.int IntKind.i64 0)) 3, type := 4, pos := "laws.go:504", after := #[{ on := 19, ground := Ground.data }, { on := 9, ground := Ground.guard }], guard := some (9, true) }) (v := undef) rfl (by kernel_rfl) (by kernel_rfl) (by kernel_rfl) (fun _ _ _ h => h) (Or.inr ⟨by rfl, rfl⟩) (by assumption) ?_
        try simp only [Act.put, List.setIfInBounds_toArray, List.set_cons_zero, List.set_cons_succ]
        refine wpAnyH_take (i := 21) (oi := { dst := some 88, op := Op.pick (Operand.tmp 76) (Operand.tmp 87) (Operand.const (Value.bool false)), type := 4, pos := "laws.go:504", after := #[{ on := 9, ground := Ground.data }, { on := 20, ground := Ground.data }, { on := 6, ground := Ground.guard }], guard := some (6, false) }) (v := ?_) rfl (by kernel_rfl) (by kernel_rfl) (by kernel_rfl) (fun _ _ _ h => h) (Or.inl ⟨by rfl, ?_⟩) (by assumption) ?_
        rotate_left
        focus (intro w hSw; (try dsimp only at hSw); first | (go_simp; done) | (go_simp; with_reducible rfl))
        try simp only [Act.put, List.setIfInBounds_toArray, List.set_cons_zero, List.set_cons_succ]
        refine wpAnyH_take (i := 22) (oi := { dst := some 89, op := Op.pick (Operand.tmp 73) (Operand.const (Value.bool true)) (Operand.tmp 88), type := 4, pos := "laws.go:504", after := #[{ on := 6, ground := Ground.data }, { on := 21, ground := Ground.data }], guard := none }) (v := ?_) rfl (by kernel_rfl) (by kernel_rfl) (by kernel_rfl) (fun _ _ _ h => h) (Or.inl ⟨by rfl, ?_⟩) (by assumption) ?_
        rotate_left
        focus (intro w hSw; (try dsimp only at hSw); first | (go_simp; done) | (go_simp; with_reducible rfl))
        try simp only [Act.put, List.setIfInBounds_toArray, List.set_cons_zero, List.set_cons_succ]
        refine wpAnyH_done (by kernel_rfl) ?_ _
        have HB8 := Lib.hid (HB2.out.trans (fb.mono HB2.out.size))
        have HJ8 : Hid (Has (Value.int .i64) 3 Wn W12.heap.size vk (F.take (0 + 1)).flatten) := by rw [HFN.out]; exact HJ2.out.below fb
        clear fb c1
        go_wp2
        go_roundw
        case rel => exact ⟨0 + 1, _, by omega, rfl, by go_num, HJ8, HB8⟩
        case measure => simp [intOf]; omega
      | succ k =>
        obtain ⟨r, hr⟩ : ∃ x, F[(k + 1)]? = some x := ⟨_, List.getElem?_eq_getElem hlt⟩
        have hfn := flat_next hr
        have hrl : r.length ≤ 301 := by
          have h1 := flat_le F ((k + 1) + 1)
          rw [hfn, List.length_append, HFJ.out] at h1
          have := HXL.out
          omega
        have hry := HFL.out (k + 1) r hr
        obtain ⟨g, o, ru, ea, c0, l0⟩ := HROW.out (k + 1) r hr
        obtain ⟨_, ra, rc, rfl, _, _⟩ := id l0
        subst ea
        have HC0 := Lib.hid c0
        have HL0 := Lib.hid l0
        have CY := Lib.hid (fun (W : World) (u : Value) (l : Lies (Value.int .i64) W u r) => by have h := Lynd.impl_lyn u r W l (by omega); rw [hry] at h; exact h)
        obtain ⟨r2, hr2⟩ : ∃ x, F[k]? = some x := ⟨_, List.getElem?_eq_getElem (by omega)⟩
        obtain ⟨_, _, ru2, ea, d0, m0⟩ := HROW.out k r2 hr2
        cases ea
        obtain ⟨_, rb, rd, rfl, _, _⟩ := id m0
        have HD0 := Lib.hid d0
        have HM0 := Lib.hid m0
        have hz := HFD.out k r2 r hr2 hr
        have CP := Lib.hid (fun (W : World) (u v : Value) (l : Lies (Value.int .i64) W u r2) (l' : Lies (Value.int .i64) W v r) => Fac.spec_cmp u v r2 r W l l')
        obtain ⟨z, hzz⟩ : ∃ z, z = cmpW r2 r := ⟨_, rfl⟩
        rw [← hzz] at hz CP
        have hzd := decide_eq_false (show ¬ z < 0 by omega)
        have hk1 : ((k : Int) + 1).toNat = k + 1 := by omega
        have hk2 : (0 : Int) ≤ (k : Int) + 1 := by omega
        have hk3 : (k : Int) + 1 < (F.length : Int) := by omega
        have hk4 := decide_eq_true (show (k : Int) + 1 > 0 by omega)
        have hk5 : IntKind.i64.wrap ((k : Int) + 1 - 1) = (k : Int) := by rw [IntKind.wrap_i64]; omega
        have hk6 : (k : Int) < (F.length : Int) := by omega
        have hk8 : IntKind.i64.wrap (k : Int) = (k : Int) := by rw [IntKind.wrap_i64]; omega
        have hk9 : (0 : Int) ≤ (k : Int) := by omega
        have hk7 : k < F.length := by omega
        clear hzz hr2 d0 m0
        obtain ⟨ja, jc, rfl, _⟩ := HJ.out.form
        obtain ⟨J, hJ⟩ : ∃ J, J = (F.take (k + 1)).flatten := ⟨_, rfl⟩
        rw [← hJ] at HJ hfn hjl
        rw [← hJ]
        have HFN := Lib.hid hfn
        have c1 := (HBr.out.cell (World.block_lt_of_cell? _ _ HC0.out)).trans HC0.out
        have HL1 := Lib.hid (HL0.out.below HBr.out)
        skip
        clear hJ hfn hr c0 l0 hry
        go_upto_region 12 with (at_builtin; refine append_lies (enc := (Value.int .i64)) (e := 3) W9 rfl (.tmp 61) (.tmp 65) 24 rfl W12.heap.size i0 (.int .i64 0) 8 Tryz.underlying24 hi hz0 hz1 hz2 rfl (.slice ja J.length jc) J rfl HJ.out (.slice ra r.length rc) r rfl HL1.out (fun _ => rfl) (by omega) (by omega) HBr.out.size ?_; intro vk wk hok hgk; have HJ2 := Lib.hid hok; have HB2 := Lib.hid (HJ.out.frame HBr.out (Nat.le_refl _) hgk); clear hok hgk)
        have c1 := (HB2.out.cell (World.block_lt_of_cell? _ _ HC0.out)).trans HC0.out
        have d1 := (HB2.out.cell (World.block_lt_of_cell? _ _ HD0.out)).trans HD0.out
        have HL2 := Lib.hid (HL0.out.below HB2.out)
        have HM2 := Lib.hid (HM0.out.below HB2.out)
        have fb := below_drew' wk
        refine wp_region_held_drew (S := (fun w' => w'.cell? ⟨g, o + (k + 1), none⟩ = some (.slice ra r.length rc) ∧ w'.cell? ⟨g, o + k, none⟩ = some (.slice rb r2.length rd))) (by kernel_rfl) ?_ (fun hHeld => ?_)
        · exact ⟨(fb.cell (World.block_lt_of_cell? _ _ c1)).trans c1, (fb.cell (World.block_lt_of_cell? _ _ d1)).trans d1⟩
        refine wpAnyH_take (i := 0) (oi := { dst := some 67, op := Op.move (Operand.tmp 4), type := 26, pos := "laws.go:504", after := #[], guard := none }) (v := ?_) rfl (by kernel_rfl) (by kernel_rfl) (by kernel_rfl) (fun _ _ _ h => h) (Or.inl ⟨by rfl, ?_⟩) (by assumption) ?_
        rotate_left
        focus (intro w hSw; (try dsimp only at hSw); first | (go_simp; done) | (go_simp; with_reducible rfl))
        try simp only [Act.put, List.setIfInBounds_toArray, List.set_cons_zero, List.set_cons_succ]
        refine wpAnyH_take (i := 1) (oi := { dst := some 68, op := Op.move (Operand.tmp 6), type := 3, pos := "laws.go:504", after := #[], guard := none }) (v := ?_) rfl (by kernel_rfl) (by kernel_rfl) (by kernel_rfl) (fun _ _ _ h => h) (Or.inl ⟨by rfl, ?_⟩) (by assumption) ?_
        rotate_left
        focus (intro w hSw; (try dsimp only at hSw); first | (go_simp; done) | (go_simp; with_reducible rfl))
        try simp only [Act.put, List.setIfInBounds_toArray, List.set_cons_zero, List.set_cons_succ]
        refine wpAnyH_take (i := 2) (oi := { dst := some 69, op := Op.indexAddr 26 (Operand.tmp 67) (Operand.tmp 68), type := 0, pos := "laws.go:504", after := #[{ on := 0, ground := Ground.data }, { on := 1, ground := Ground.data }], guard := none }) (v := ?_) rfl (by kernel_rfl) (by kernel_rfl) (by kernel_rfl) (fun _ _ _ h => h) (Or.inl ⟨by rfl, ?_⟩) (by assumption) ?_
        rotate_left
        focus (intro w hSw; (try dsimp only at hSw); first | (go_simp; done) | (go_simp; with_reducible rfl))
        try simp only [Act.put, List.setIfInBounds_toArray, List.set_cons_zero, List.set_cons_succ]
        refine wpAnyH_take (i := 3) (oi := { dst := some 70, op := Op.load 24 (Operand.tmp 69), type := 24, pos := "laws.go:504", after := #[{ on := 2, ground := Ground.data }], guard := none }) (v := ?_) rfl (by kernel_rfl) (by kernel_rfl) (by kernel_rfl) (fun _ _ _ h => h) (Or.inl ⟨by rfl, ?_⟩) (by assumption) ?_
        rotate_left
        focus (intro w hSw; (try dsimp only at hSw); first | (go_simp; done) | (go_simp; with_reducible rfl))
        try simp only [Act.put, List.setIfInBounds_toArray, List.set_cons_zero, List.set_cons_succ]
        refine wpAnyH_ready (rs := [4]) (by kernel_rfl) (by simp) ?_
        refine AllReadyH.cons (o := { dst := some 71, op := Op.call { callee := Callee.value (Operand.func 9), args := #[Operand.tmp 70], argTypes := #[24] }, type := 4, pos := "laws.go:504", after := #[{ on := 3, ground := Ground.data }], guard := none }) rfl (fun K hK => ?_) AllReadyH.nil
        go_simp
        go_at_call 9
        refine (CY.out _ _ (HL2.out.below fb)).mono ?_
        rintro e Wn ⟨rfl, fbn⟩
        replace fb := fb.trans (fbn.mono fb.size)
        refine hK.out _ _ ?_ (fun hHeld => ?_)
        · exact ⟨(fb.cell (World.block_lt_of_cell? _ _ c1)).trans c1, (fb.cell (World.block_lt_of_cell? _ _ d1)).trans d1⟩
        clear hK K
        try simp only [Act.put, List.setIfInBounds_toArray, List.set_cons_zero, List.set_cons_succ]
        refine wpAnyH_take (i := 5) (oi := { dst := some 72, op := Op.unOp UnOp.not 4 (Operand.tmp 71), type := 4, pos := "laws.go:504", after := #[{ on := 4, ground := Ground.data }], guard := none }) (v := ?_) rfl (by kernel_rfl) (by kernel_rfl) (by kernel_rfl) (fun _ _ _ h => h) (Or.inl ⟨by rfl, ?_⟩) (by assumption) ?_
        rotate_left
        focus (intro w hSw; (try dsimp only at hSw); first | (go_simp; done) | (go_simp; with_reducible rfl))
        try simp only [Act.put, List.setIfInBounds_toArray, List.set_cons_zero, List.set_cons_succ]
        refine wpAnyH_take (i := 6) (oi := { dst := some 73, op := Op.move (Operand.tmp 72), type := 4, pos := "laws.go:504", after := #[{ on := 5, ground := Ground.data }, { on := 4, ground := Ground.chain }], guard := none }) (v := ?_) rfl (by kernel_rfl) (by kernel_rfl) (by kernel_rfl) (fun _ _ _ h => h) (Or.inl ⟨by rfl, ?_⟩) (by assumption) ?_
        rotate_left
        focus (intro w hSw; (try dsimp only at hSw); first | (go_simp; done) | (go_simp; with_reducible rfl))
        try simp only [Act.put, List.setIfInBounds_toArray, List.set_cons_zero, List.set_cons_succ]
        refine wpAnyH_take (i := 7) (oi := { dst := some 74, op := Op.move (Operand.tmp 6), type := 3, pos := "laws.go:504", after := #[{ on := 6, ground := Ground.guard }], guard := some (6, false) }) (v := ?_) rfl (by kernel_rfl) (by kernel_rfl) (by kernel_rfl) (fun _ _ _ h => h) (Or.inl ⟨by rfl, ?_⟩) (by assumption) ?_
        rotate_left
        focus (intro w hSw; (try dsimp only at hSw); first | (go_simp; done) | (go_simp; with_reducible rfl))
        try simp only [Act.put, List.setIfInBounds_toArray, List.set_cons_zero, List.set_cons_succ]
        refine wpAnyH_take (i := 8) (oi := { dst := some 75, op := Op.binOp BinOp.gtr 3 (Operand.tmp 74) (Operand.const (Value.int IntKind.i64 0)) 3, type := 4, pos := "laws.go:504", after := #[{ on := 7, ground := Ground.data }, { on := 6, ground := Ground.guard }], guard := some (6, false) }) (v := ?_) rfl (by kernel_rfl) (by kernel_rfl) (by kernel_rfl) (fun _ _ _ h => h) (Or.inl ⟨by rfl, ?_⟩) (by assumption) ?_
        rotate_left
        focus (intro w hSw; (try dsimp only at hSw); first | (go_simp; done) | (go_simp; with_reducible rfl))
        try simp only [Act.put, List.setIfInBounds_toArray, List.set_cons_zero, List.set_cons_succ]
        refine wpAnyH_take (i := 9) (oi := { dst := some 76, op := Op.move (Operand.tmp 75), type := 4, pos := "laws.go:504", after := #[{ on := 8, ground := Ground.data }, { on := 6, ground := Ground.chain }, { on := 6, ground := Ground.guard }], guard := some (6, false) }) (v := ?_) rfl (by kernel_rfl) (by kernel_rfl) (by kernel_rfl) (fun _ _ _ h => h) (Or.inl ⟨by rfl, ?_⟩) (by assumption) ?_
        rotate_left
        focus (intro w hSw; (try dsimp only at hSw); first | (go_simp; done) | (go_simp; with_reducible rfl))
        try simp only [Act.put, List.setIfInBounds_toArray, List.set_cons_zero, List.set_cons_succ]
        refine wpAnyH_take (i := 10) (oi := { dst := some 77, op := Op.move (Operand.tmp 4), type := 26, pos := "laws.go:504", after := #[{ on := 9, ground := Ground.guard }], guard := some (9, true) }) (v := ?_) rfl (by kernel_rfl) (by kernel_rfl) (by kernel_rfl) (fun _ _ _ h => h) (Or.inl ⟨by rfl, ?_⟩) (by assumption) ?_
        rotate_left
        focus (intro w hSw; (try dsimp only at hSw); first | (go_simp; done) | (go_simp; with_reducible rfl))
        try simp only [Act.put, List.setIfInBounds_toArray, List.set_cons_zero, List.set_cons_succ]
        refine wpAnyH_take (i := 11) (oi := { dst := some 78, op := Op.move (Operand.tmp 6), type := 3, pos := "laws.go:504", after := #[{ on := 9, ground := Ground.guard }], guard := some (9, true) }) (v := ?_) rfl (by kernel_rfl) (by kernel_rfl) (by kernel_rfl) (fun _ _ _ h => h) (Or.inl ⟨by rfl, ?_⟩) (by assumption) ?_
        rotate_left
        focus (intro w hSw; (try dsimp only at hSw); first | (go_simp; done) | (go_simp; with_reducible rfl))
        try simp only [Act.put, List.setIfInBounds_toArray, List.set_cons_zero, List.set_cons_succ]
        refine wpAnyH_take (i := 12) (oi := { dst := some 79, op := Op.binOp BinOp.sub 3 (Operand.tmp 78) (Operand.const (Value.int IntKind.i64 1)) 3, type := 3, pos := "laws.go:504", after := #[{ on := 11, ground := Ground.data }, { on := 9, ground := Ground.guard }], guard := some (9, true) }) (v := ?_) rfl (by kernel_rfl) (by kernel_rfl) (by kernel_rfl) (fun _ _ _ h => h) (Or.inl ⟨by rfl, ?_⟩) (by assumption) ?_
        rotate_left
        focus (intro w hSw; (try dsimp only at hSw); first | (go_simp; done) | (go_simp; with_reducible rfl))
        try simp only [Act.put, List.setIfInBounds_toArray, List.set_cons_zero, List.set_cons_succ]
        refine wpAnyH_take (i := 13) (oi := { dst := some 80, op := Op.indexAddr 26 (Operand.tmp 77) (Operand.tmp 79), type := 0, pos := "laws.go:504", after := #[{ on := 10, ground := Ground.data }, { on := 12, ground := Ground.data }, { on := 9, ground := Ground.guard }], guard := some (9, true) }) (v := ?_) rfl (by kernel_rfl) (by kernel_rfl) (by kernel_rfl) (fun _ _ _ h => h) (Or.inl ⟨by rfl, ?_⟩) (by assumption) ?_
        rotate_left
        focus (intro w hSw; (try dsimp only at hSw); first | (go_simp; done) | (go_simp; with_reducible rfl))
        try simp only [Act.put, List.setIfInBounds_toArray, List.set_cons_zero, List.set_cons_succ]
        refine wpAnyH_take (i := 14) (oi := { dst := some 81, op := Op.load 24 (Operand.tmp 80), type := 24, pos := "laws.go:504", after := #[{ on := 13, ground := Ground.data }, { on := 9, ground := Ground.guard }], guard := some (9, true) }) (v := ?_) rfl (by kernel_rfl) (by kernel_rfl) (by kernel_rfl) (fun _ _ _ h => h) (Or.inl ⟨by rfl, ?_⟩) (by assumption) ?_
        rotate_left
        focus (intro w hSw; (try dsimp only at hSw); first | (go_simp; done) | (go_simp; with_reducible rfl))
        try simp only [Act.put, List.setIfInBounds_toArray, List.set_cons_zero, List.set_cons_succ]
        refine wpAnyH_take (i := 15) (oi := { dst := some 82, op := Op.move (Operand.tmp 4), type := 26, pos := "laws.go:504", after := #[{ on := 9, ground := Ground.guard }], guard := some (9, true) }) (v := ?_) rfl (by kernel_rfl) (by kernel_rfl) (by kernel_rfl) (fun _ _ _ h => h) (Or.inl ⟨by rfl, ?_⟩) (by assumption) ?_
        rotate_left
        focus (intro w hSw; (try dsimp only at hSw); first | (go_simp; done) | (go_simp; with_reducible rfl))
        try simp only [Act.put, List.setIfInBounds_toArray, List.set_cons_zero, List.set_cons_succ]
        refine wpAnyH_take (i := 16) (oi := { dst := some 83, op := Op.move (Operand.tmp 6), type := 3, pos := "laws.go:504", after := #[{ on := 9, ground := Ground.guard }], guard := some (9, true) }) (v := ?_) rfl (by kernel_rfl) (by kernel_rfl) (by kernel_rfl) (fun _ _ _ h => h) (Or.inl ⟨by rfl, ?_⟩) (by assumption) ?_
        rotate_left
        focus (intro w hSw; (try dsimp only at hSw); first | (go_simp; done) | (go_simp; with_reducible rfl))
        try simp only [Act.put, List.setIfInBounds_toArray, List.set_cons_zero, List.set_cons_succ]
        refine wpAnyH_take (i := 17) (oi := { dst := some 84, op := Op.indexAddr 26 (Operand.tmp 82) (Operand.tmp 83), type := 0, pos := "laws.go:504", after := #[{ on := 15, ground := Ground.data }, { on := 16, ground := Ground.data }, { on := 9, ground := Ground.guard }], guard := some (9, true) }) (v := ?_) rfl (by kernel_rfl) (by kernel_rfl) (by kernel_rfl) (fun _ _ _ h => h) (Or.inl ⟨by rfl, ?_⟩) (by assumption) ?_
        rotate_left
        focus (intro w hSw; (try dsimp only at hSw); first | (go_simp; done) | (go_simp; with_reducible rfl))
        try simp only [Act.put, List.setIfInBounds_toArray, List.set_cons_zero, List.set_cons_succ]
        refine wpAnyH_take (i := 18) (oi := { dst := some 85, op := Op.load 24 (Operand.tmp 84), type := 24, pos := "laws.go:504", after := #[{ on := 17, ground := Ground.data }, { on := 9, ground := Ground.guard }], guard := some (9, true) }) (v := ?_) rfl (by kernel_rfl) (by kernel_rfl) (by kernel_rfl) (fun _ _ _ h => h) (Or.inl ⟨by rfl, ?_⟩) (by assumption) ?_
        rotate_left
        focus (intro w hSw; (try dsimp only at hSw); first | (go_simp; done) | (go_simp; with_reducible rfl))
        try simp only [Act.put, List.setIfInBounds_toArray, List.set_cons_zero, List.set_cons_succ]
        refine wpAnyH_ready (rs := [19]) (by kernel_rfl) (by simp) ?_
        refine AllReadyH.cons (o := { dst := some 86, op := Op.call { callee := Callee.value (Operand.func 16), args := #[Operand.tmp 81, Operand.tmp 85], argTypes := #[24, 24] }, type := 3, pos := "laws.go:504", after := #[{ on := 14, ground := Ground.data }, { on := 18, ground := Ground.data }, { on := 9, ground := Ground.chain }, { on := 9, ground := Ground.guard }], guard := some (9, true) }) rfl (fun K hK => ?_) AllReadyH.nil
        go_simp
        go_at_call 16
        refine (CP.out _ _ _ (HM2.out.below fb) (HL2.out.below fb)).mono ?_
        rintro e Wn ⟨rfl, fbn⟩
        replace fb := fb.trans (fbn.mono fb.size)
        refine hK.out _ _ ?_ (fun hHeld => ?_)
        · exact ⟨(fb.cell (World.block_lt_of_cell? _ _ c1)).trans c1, (fb.cell (World.block_lt_of_cell? _ _ d1)).trans d1⟩
        clear hK K
        try simp only [Act.put, List.setIfInBounds_toArray, List.set_cons_zero, List.set_cons_succ]
        refine wpAnyH_take (i := 20) (oi := { dst := some 87, op := Op.binOp BinOp.lss 3 (Operand.tmp 86) (Operand.const (Value.int IntKind.i64 0)) 3, type := 4, pos := "laws.go:504", after := #[{ on := 19, ground := Ground.data }, { on := 9, ground := Ground.guard }], guard := some (9, true) }) (v := ?_) rfl (by kernel_rfl) (by kernel_rfl) (by kernel_rfl) (fun _ _ _ h => h) (Or.inl ⟨by rfl, ?_⟩) (by assumption) ?_
        rotate_left
        focus (intro w hSw; (try dsimp only at hSw); first | (go_simp; done) | (go_simp; with_reducible rfl))
        try simp only [Act.put, List.setIfInBounds_toArray, List.set_cons_zero, List.set_cons_succ]
        refine wpAnyH_take (i := 21) (oi := { dst := some 88, op := Op.pick (Operand.tmp 76) (Operand.tmp 87) (Operand.const (Value.bool false)), type := 4, pos := "laws.go:504", after := #[{ on := 9, ground := Ground.data }, { on := 20, ground := Ground.data }, { on := 6, ground := Ground.guard }], guard := some (6, false) }) (v := ?_) rfl (by kernel_rfl) (by kernel_rfl) (by kernel_rfl) (fun _ _ _ h => h) (Or.inl ⟨by rfl, ?_⟩) (by assumption) ?_
        rotate_left
        focus (intro w hSw; (try dsimp only at hSw); first | (go_simp; done) | (go_simp; with_reducible rfl))
        try simp only [Act.put, List.setIfInBounds_toArray, List.set_cons_zero, List.set_cons_succ]
        refine wpAnyH_take (i := 22) (oi := { dst := some 89, op := Op.pick (Operand.tmp 73) (Operand.const (Value.bool true)) (Operand.tmp 88), type := 4, pos := "laws.go:504", after := #[{ on := 6, ground := Ground.data }, { on := 21, ground := Ground.data }], guard := none }) (v := ?_) rfl (by kernel_rfl) (by kernel_rfl) (by kernel_rfl) (fun _ _ _ h => h) (Or.inl ⟨by rfl, ?_⟩) (by assumption) ?_
        rotate_left
        focus (intro w hSw; (try dsimp only at hSw); first | (go_simp; done) | (go_simp; with_reducible rfl))
        try simp only [Act.put, List.setIfInBounds_toArray, List.set_cons_zero, List.set_cons_succ]
        refine wpAnyH_done (by kernel_rfl) ?_ _
        have HB8 := Lib.hid (HB2.out.trans (fb.mono HB2.out.size))
        have HJ8 : Hid (Has (Value.int .i64) 3 Wn W12.heap.size vk (F.take ((k + 1) + 1)).flatten) := by rw [HFN.out]; exact HJ2.out.below fb
        clear fb c1
        go_wp2
        go_roundw
        case rel => exact ⟨(k + 1) + 1, _, by omega, rfl, by go_num, HJ8, HB8⟩
        case measure => simp [intOf]; omega
    case neg =>
      obtain ⟨W13, rfl⟩ : ∃ W : World, W = W9 := ⟨_, rfl⟩
      have HJE : Hid (Has (Value.int .i64) 3 W13 W12.heap.size vj xs) := by have h := HJ.out; rw [List.take_of_length_le (by omega), HFJ.out] at h; exact h
      obtain ⟨ja, jc, rfl, _⟩ := HJE.out.form
      have bw := HBr.out
      have HB_13 := Lib.hid (HB_12.out.trans (bw.mono HB_12.out.size))
      have Rx_13 := Lib.hid (Rx_12.out.below bw)
      have Rl_13 := Lib.hid (Rl_12.out.below bw)
      have Z13 := Lib.hid (bw.size)
      have Rj_13 := Lib.hid (own_of_has HJE.out)
      clear Rx_12 Rl_12 HB_12 bw HBr HJ HJE
      obtain rfl : i = F.length := by omega
      go_upto_region 14 with fail
      go_cut [106] (fun s wx => s = .bool false ∧ Hid (Below W13.heap.size W13 wx))
      case first =>
        as_aux_lemma =>
          have fb : Below W13.heap.size W13 W13 := Below.refl _ _
          by_cases h0 : 0 < xs.length
          case pos =>
            have hl0 := decide_eq_true (show (xs.length : Int) > 0 by omega)
            have hF1 : ((F.length : Int) == 1) = b := by rw [← HF1.out h0, Bool.eq_iff_iff]; simp; omega
            go_wp2_with (first | (go_at_call 11; refine (Ints.same_yes _ _ xs _ (Rj_13.out.below fb).lies (Rx_13.out.below fb).lies).mono ?_; rintro e Wn ⟨rfl, fbn⟩; replace fb := fb.trans (fbn.mono fb.size)) | (go_at_call 10; refine (CYS.out _ _ (Fac.LiesC.of_has (Rx_13.out.below fb).has)).mono ?_; rintro e Wn ⟨rfl, fbn⟩; replace fb := fb.trans (fbn.mono fb.size)))
            go_meet
            exact ⟨rfl, fb⟩
          case neg =>
            have hl0 := decide_eq_false (show ¬ (xs.length : Int) > 0 by omega)
            go_wp2_with (go_at_call 11; refine (Ints.same_yes _ _ xs _ (Rj_13.out.below fb).lies (Rx_13.out.below fb).lies).mono ?_; rintro e Wn ⟨rfl, fbn⟩; replace fb := fb.trans (fbn.mono fb.size))
            go_meet
            exact ⟨rfl, fb⟩
      case rest =>
        obtain ⟨rfl, bw14⟩ := hcut
        obtain ⟨W14, rfl⟩ : ∃ W, W = wc := ⟨_, rfl⟩
        have bw := bw14.out
        have HB_14 := Lib.hid (HB_13.out.trans (bw.mono HB_13.out.size))
        have Rx_14 := Lib.hid (Rx_13.out.below bw)
        have Rl_14 := Lib.hid (Rl_13.out.below bw)
        have Rj_14 := Lib.hid (Rj_13.out.below bw)
        have Z14 := Lib.hid (bw.size)
        clear Rx_13 Rl_13 Rj_13 HB_13 bw14 bw
        clear Rx_14 Rl_14 Rj_14
        have CV4 := Lib.hid (Cursor.code_next HC.out HB_14.out)
        go_wp2_with fail
        refine (Cursor.drawLW W14 a len cap hlen CV4.out).mono ?_
        rintro e W15 ⟨y1, y2, rfl, fb15⟩
        have HB_15 := Lib.hid (HB_14.out.trans (fb15.mono HB_14.out.size))
        have Z15 := Lib.hid (fb15.size)
        clear HB_14 fb15
        have CWI := Lib.hid (fun (W : World) => Lynd.impl_lw y1 y2 W)
        have CWS := Lib.hid (fun (W : World) => Lynd.spec_lw y1 y2 W)
        have CKI := Lib.hid (fun (W : World) => Lynd.impl_cl y1 y2 W)
        have CKS := Lib.hid (fun (W : World) => Lynd.spec_cl y1 y2 W)
        have CNI := Lib.hid (fun (W : World) => Lynd.impl_cn y1 y2 W)
        have CNS := Lib.hid (fun (W : World) => Lynd.spec_cn y1 y2 W)
        have HCL := Lib.hid (fun h : lwK y1 y2 = true => count_lyn h)
        have hwl := lwV_len y1 y2
        obtain ⟨lw, hlw⟩ : ∃ y, y = lwV y1 y2 := ⟨_, rfl⟩
        obtain ⟨lk, hlk⟩ : ∃ y, y = lwK y1 y2 := ⟨_, rfl⟩
        obtain ⟨cl, hcl⟩ : ∃ y, y = clN y1 y2 := ⟨_, rfl⟩
        obtain ⟨cn, hcn⟩ : ∃ y, y = cnN y1 y2 := ⟨_, rfl⟩
        rw [← hlw, ← hlk] at CWI CWS
        rw [← hlk, ← hcl, ← hlw] at HCL
        rw [← hcl] at CKI CKS
        rw [← hcn] at CNI CNS
        rw [← hlw] at hwl
        have hm1 : (lk != lk) = false := by simp
        have hm2 : (cl != cl) = false := by simp
        have hm3 : (cn != cn) = false := by simp
        clear hlw hlk hcl hcn
        go_wp2_with fail
        refine (CWI.out _).mono ?_
        rintro e W16 ⟨va4, us4, rfl, h16, fb16⟩
        have HB_16 := Lib.hid (HB_15.out.trans (fb16.mono HB_15.out.size))
        have Z16 := Lib.hid (fb16.size)
        have RA_16 := Lib.hid h16
        clear HB_15 fb16 h16
        go_wp2_with fail
        refine (CWS.out _).mono ?_
        rintro e W17 ⟨vb4, rfl, h17, fb17⟩
        have HB_17 := Lib.hid (HB_16.out.trans (fb17.mono HB_16.out.size))
        have RA_17 := Lib.hid (RA_16.out.below fb17)
        have Z17 := Lib.hid (fb17.size)
        have RB_17 := Lib.hid h17
        clear RA_16 HB_16 fb17 h17
        obtain ⟨ba, bc, rfl⟩ := ownV_form RB_17.out
        obtain ⟨aa, ac, rfl⟩ := Lynd.ownR_form RA_17.out
        go_upto_region 19 with fail
        go_cut [161] (fun s wx => s = .bool false ∧ Hid (Below W17.heap.size W17 wx))
        case first =>
          as_aux_lemma =>
            have fb : Below W17.heap.size W17 W17 := Below.refl _ _
            cases lk with
            | false =>
              go_wp2_with (first | (go_at_call 7; refine (Lynd.same_words _ _ lw _ (RA_17.out.below fb).lies (RB_17.out.below fb).lies).mono ?_; rintro e Wn ⟨rfl, fbn⟩; replace fb := fb.trans (fbn.mono fb.size)) | (go_at_call 20; refine (CKI.out _).mono ?_; rintro e Wn ⟨rfl, fbn⟩; replace fb := fb.trans (fbn.mono fb.size)) | (go_at_call 21; refine (CKS.out _).mono ?_; rintro e Wn ⟨rfl, fbn⟩; replace fb := fb.trans (fbn.mono fb.size)) | (go_at_call 22; refine (CNI.out _).mono ?_; rintro e Wn ⟨rfl, fbn⟩; replace fb := fb.trans (fbn.mono fb.size)) | (go_at_call 23; refine (CNS.out _).mono ?_; rintro e Wn ⟨rfl, fbn⟩; replace fb := fb.trans (fbn.mono fb.size)))
              go_meet
              exact ⟨rfl, fb⟩
            | true =>
              have hcc : (cl != (lw.length : Int)) = false := by rw [HCL.out rfl]; simp
              go_wp2_with (first | (go_at_call 7; refine (Lynd.same_words _ _ lw _ (RA_17.out.below fb).lies (RB_17.out.below fb).lies).mono ?_; rintro e Wn ⟨rfl, fbn⟩; replace fb := fb.trans (fbn.mono fb.size)) | (go_at_call 20; refine (CKI.out _).mono ?_; rintro e Wn ⟨rfl, fbn⟩; replace fb := fb.trans (fbn.mono fb.size)) | (go_at_call 21; refine (CKS.out _).mono ?_; rintro e Wn ⟨rfl, fbn⟩; replace fb := fb.trans (fbn.mono fb.size)) | (go_at_call 22; refine (CNI.out _).mono ?_; rintro e Wn ⟨rfl, fbn⟩; replace fb := fb.trans (fbn.mono fb.size)) | (go_at_call 23; refine (CNS.out _).mono ?_; rintro e Wn ⟨rfl, fbn⟩; replace fb := fb.trans (fbn.mono fb.size)))
              go_meet
              exact ⟨rfl, fb⟩
        case rest =>
          obtain ⟨rfl, bw18⟩ := hcut
          obtain ⟨W18, rfl⟩ : ∃ W, W = wc := ⟨_, rfl⟩
          have bw := bw18.out
          have HB_18 := Lib.hid (HB_17.out.trans (bw.mono HB_17.out.size))
          have RA_18 := Lib.hid (RA_17.out.below bw)
          have RB_18 := Lib.hid (RB_17.out.below bw)
          have Z18 := Lib.hid (bw.size)
          clear RA_17 RB_17 HB_17 bw18 bw
          clear RA_18 RB_18
          have CV5 := Lib.hid (Cursor.code_next HC.out HB_18.out)
          go_wp2_with fail
          refine (Cursor.drawSS W18 a len cap hlen CV5.out).mono ?_
          rintro e W19 ⟨vs, ss, hsl, rfl, h19, fb19⟩
          have HB_19 := Lib.hid (HB_18.out.trans (fb19.mono HB_18.out.size))
          have Z19 := Lib.hid (fb19.size)
          have Rs_19 := Lib.hid h19
          clear HB_18 fb19 h19
          obtain ⟨sa, sc, rfl⟩ := Rs_19.out.form
          have CSI := Lib.hid (fun (W : World) (u : Value) (l : Fac.LiesC W u ss) => Lynd.impl_sp u ss W l (by omega))
          have CSS := Lib.hid (fun (W : World) (u : Value) (l : Fac.LiesC W u ss) => Lynd.spec_sp u ss W l (by omega))
          have CYT := Lib.hid (fun (W : World) (u : Value) (l : Fac.LiesC W u ss) => Lynd.spec_lyn u ss W l)
          have HSP := Lib.hid (split_is ss)
          have HSL := Lib.hid (fun h : spK ss = true => split_lyn h)
          have hzl_ := sp_len ss
          obtain ⟨za, hza⟩ : ∃ y, y = spA ss := ⟨_, rfl⟩
          obtain ⟨zb, hzb⟩ : ∃ y, y = spB ss := ⟨_, rfl⟩
          obtain ⟨zk, hzk⟩ : ∃ y, y = spK ss := ⟨_, rfl⟩
          obtain ⟨zl, hzl⟩ : ∃ y, y = lyB ss := ⟨_, rfl⟩
          rw [← hza, ← hzb, ← hzk] at CSI CSS
          rw [← hzl] at CYT
          rw [← hzk, ← hzl] at HSP
          rw [← hza, ← hzb, ← hzk] at HSL
          rw [← hza, ← hzb] at hzl_
          have hal : za.length ≤ 301 := by omega
          have hbl : zb.length ≤ 301 := by omega
          clear hza hzb hzk hzl hzl_
          go_wp2_with fail
          refine (CSI.out _ _ (Fac.LiesC.of_has Rs_19.out.has)).mono ?_
          rintro e W20 ⟨vu, vv, md, rfl, hu, hv, hd, fb20⟩
          have HB_20 := Lib.hid (HB_19.out.trans (fb20.mono HB_19.out.size))
          have Rs_20 := Lib.hid (Rs_19.out.below fb20)
          have Z20 := Lib.hid (fb20.size)
          clear Rs_19 HB_19 fb20
          have Ru_20 := Lib.hid hu
          have Rv_20 := Lib.hid hv
          clear hu hv hd
          go_wp2_with fail
          refine (CSS.out _ _ (Fac.LiesC.of_has Rs_20.out.has)).mono ?_
          rintro e W21 ⟨vy, vt, rfl, hu, hv, fb21⟩
          have HB_21 := Lib.hid (HB_20.out.trans (fb21.mono HB_20.out.size))
          have Rs_21 := Lib.hid (Rs_20.out.below fb21)
          have Ru_21 := Lib.hid (Ru_20.out.below fb21)
          have Rv_21 := Lib.hid (Rv_20.out.below fb21)
          have Z21 := Lib.hid (fb21.size)
          clear Rs_20 Ru_20 Rv_20 HB_20 fb21
          have Ry_21 := Lib.hid hu
          have Rt_21 := Lib.hid hv
          clear hu hv
          go_upto_region 24 with fail
          obtain ⟨ua, uac, rfl⟩ := Ru_21.out.form
          obtain ⟨va5, va5c, rfl⟩ := Rv_21.out.form
          obtain ⟨ya, yac, rfl⟩ := Ry_21.out.form
          obtain ⟨ta, tac, rfl⟩ := Rt_21.out.form
          have fb : Below W21.heap.size W21 W21 := Below.refl _ _
          have hq1 : (zk == zk) = true := by simp
          cases zl with
          | false =>
            obtain rfl : zk = false := by rw [HSP.out, Bool.false_and]
            go_wp2_with fail
            refine (Ints.same_yes _ _ za _ (Ru_21.out.below fb).lies (Ry_21.out.below fb).lies).mono ?_
            rintro e Wn ⟨rfl, fbn⟩
            replace fb := fb.trans (fbn.mono fb.size)
            clear fbn
            go_wp2_with fail
            refine (Ints.same_yes _ _ zb _ (Rv_21.out.below fb).lies (Rt_21.out.below fb).lies).mono ?_
            rintro e Wn ⟨rfl, fbn⟩
            replace fb := fb.trans (fbn.mono fb.size)
            clear fbn
            go_wp2_with fail
            refine (CYT.out _ _ (Fac.LiesC.of_has (Rs_21.out.below fb).has)).mono ?_
            rintro e Wn ⟨rfl, fbn⟩
            replace fb := fb.trans (fbn.mono fb.size)
            clear fbn
            go_wp2
            go_ret
            exact ⟨rfl, HB_21.out.trans (fb.mono HB_21.out.size)⟩
          | true =>
            by_cases h1 : 1 < ss.length
            · have hd1 := decide_eq_true (show (ss.length : Int) > 1 by omega)
              obtain rfl : zk = true := by rw [HSP.out, decide_eq_true h1, Bool.true_and]
              obtain ⟨ha, hb, hz⟩ := HSL.out rfl
              have CA := Lib.hid (lyn_yes ha hal)
              have CB := Lib.hid (lyn_yes hb hbl)
              obtain ⟨z, hzd, hcc⟩ := cmp_lt0 hz
              have CC := Lib.hid hcc
              clear hcc hz ha hb
              go_wp2_with fail
              refine (Ints.same_yes _ _ za _ (Ru_21.out.below fb).lies (Ry_21.out.below fb).lies).mono ?_
              rintro e Wn ⟨rfl, fbn⟩
              replace fb := fb.trans (fbn.mono fb.size)
              clear fbn
              go_wp2_with fail
              refine (Ints.same_yes _ _ zb _ (Rv_21.out.below fb).lies (Rt_21.out.below fb).lies).mono ?_
              rintro e Wn ⟨rfl, fbn⟩
              replace fb := fb.trans (fbn.mono fb.size)
              clear fbn
              go_wp2_with fail
              refine (CYT.out _ _ (Fac.LiesC.of_has (Rs_21.out.below fb).has)).mono ?_
              rintro e Wn ⟨rfl, fbn⟩
              replace fb := fb.trans (fbn.mono fb.size)
              clear fbn
              go_wp2_with fail
              refine (CA.out _ _ (Ry_21.out.below fb).lies).mono ?_
              rintro e Wn ⟨rfl, fbn⟩
              replace fb := fb.trans (fbn.mono fb.size)
              clear fbn
              go_wp2_with fail
              refine (CB.out _ _ (Rt_21.out.below fb).lies).mono ?_
              rintro e Wn ⟨rfl, fbn⟩
              replace fb := fb.trans (fbn.mono fb.size)
              clear fbn
              go_wp2_with fail
              refine (CC.out _ _ _ (Ry_21.out.below fb).lies (Rt_21.out.below fb).lies).mono ?_
              rintro e Wn ⟨rfl, fbn⟩
              replace fb := fb.trans (fbn.mono fb.size)
              clear fbn
              go_wp2
              go_ret
              exact ⟨rfl, HB_21.out.trans (fb.mono HB_21.out.size)⟩
            · have hd1 := decide_eq_false (show ¬ (ss.length : Int) > 1 by omega)
              obtain rfl : zk = false := by rw [HSP.out, decide_eq_false h1, Bool.and_false]
              go_wp2_with fail
              refine (Ints.same_yes _ _ za _ (Ru_21.out.below fb).lies (Ry_21.out.below fb).lies).mono ?_
              rintro e Wn ⟨rfl, fbn⟩
              replace fb := fb.trans (fbn.mono fb.size)
              clear fbn
              go_wp2_with fail
              refine (Ints.same_yes _ _ zb _ (Rv_21.out.below fb).lies (Rt_21.out.below fb).lies).mono ?_
              rintro e Wn ⟨rfl, fbn⟩
              replace fb := fb.trans (fbn.mono fb.size)
              clear fbn
              go_wp2_with fail
              refine (CYT.out _ _ (Fac.LiesC.of_has (Rs_21.out.below fb).has)).mono ?_
              rintro e Wn ⟨rfl, fbn⟩
              replace fb := fb.trans (fbn.mono fb.size)
              clear fbn
              go_wp2
              go_ret
              exact ⟨rfl, HB_21.out.trans (fb.mono HB_21.out.size)⟩
end LynL
end Go.Proofs.YtfpdikohlafpiaaGreat
