/- The walk of the law on powers: it returns true for every code of bytes. No conditions beyond those that it states. -/
import Derived.Test.YtidfgfgokcflfaaGreatPW7
import Derived.Test.YtidfgfgokcflfaaGreatPW2
import Derived.Test.YtidfgfgokcflfaaGreatPW4
import Derived.Test.YtidfgfgokcflfaaGreatPW6
import Derived.Test.YtidfgfgokcflfaaGreatDigits
import Derived.Deep.DeepCutAuto
import Derived.Deep.RegionHeld3
namespace Go.Proofs.YtidfgfgokcflfaaGreat
open Go.ChangeShapes Go.WideShapes Go.ChangeAt Go.RowKit
open Go.PlainAid Plain
set_option linter.unusedVariables false
namespace Pows
open Seqs Ints Cursor Fac
theorem own_law {u : List Int} (h0 : 0 < u.length) (hl : u.length ≤ 128) : exN u * gD u ≤ gN u * exD u ∧ exN u ≤ 128 ∧ exD u ≤ 128 := by
  obtain ⟨h1, h2, h3⟩ := per_lp h0
  have h4 := g_own h0 hl h1 h2 h3
  have hn : exN u = u.length / Nat.gcd u.length (lpN u) := by simp [exN]; intro e; rw [e] at h0; simp at h0
  have hd : exD u = lpN u / Nat.gcd u.length (lpN u) := by simp [exD]; intro e; rw [e] at h0; simp at h0
  have h5 := Nat.div_le_self u.length (Nat.gcd u.length (lpN u))
  have h6 := Nat.div_le_self (lpN u) (Nat.gcd u.length (lpN u))
  rw [hn, hd]
  exact ⟨h4, by omega, by omega⟩
set_option maxRecDepth 100000 in
set_option maxHeartbeats 8000000 in
theorem walk (w : World) (a : Option Addr) (len cap : Nat) (hlen : len ≤ 1048576) (hcode : Cursor.CodeIs w w.heap.size a len) :
    Calls Tryz.prog 3 #[.slice a len cap] w fun e w' => e = .returned (.bool true) ∧ Below w.heap.size w w' := by
  have HC := Lib.hid hcode
  clear hcode
  have HB_0 : Hid (Below w.heap.size w w) := Below.refl _ _
  go_enter Tryz.func3, Tryz.ntmps3
  go_wp2_with fail
  refine (Cursor.big_no w a len cap hlen).mono ?_
  rintro e W' ⟨rfl, rfl⟩
  go_wp2_with fail
  refine (Cursor.drawSq w a len cap hlen HC.out).mono ?_
  rintro e W1 ⟨vx, xs, hxl, rfl, h1, fb1⟩
  have HB_1 := Lib.hid (HB_0.out.trans (fb1.mono HB_0.out.size))
  have Z1 := Lib.hid (fb1.size)
  have Rx_1 := Lib.hid h1
  clear HB_0 fb1 h1
  obtain ⟨xa, xc, rfl⟩ := Rx_1.out.form
  have CQI := Lib.hid (fun (W : World) (u : Value) (l : Fac.LiesC W u xs) => Fac.impl_sq u xs W l)
  have CQS := Lib.hid (fun (W : World) (u : Value) (l : Lies (Value.int .i64) W u xs) => Fac.spec_sq u xs W l)
  have CHI := Lib.hid (fun (W : World) (u : Value) (l : Lies (Value.int .i64) W u xs) => Fac.impl_hsq u xs W l (by omega))
  have CHS := Lib.hid (fun (W : World) (u : Value) (l : Lies (Value.int .i64) W u xs) => Fac.spec_hsq u xs W l (by omega))
  have COI := Lib.hid (fun (W : World) (u : Value) (l : Lies (Value.int .i64) W u xs) => Fac.impl_ov u xs W l (by omega))
  have COS := Lib.hid (fun (W : World) (u : Value) (l : Lies (Value.int .i64) W u xs) => Fac.spec_ov u xs W l)
  have CDI := Lib.hid (fun (W : World) (u : Value) (l : Fac.LiesC W u xs) => Fac.impl_dis u xs W l)
  have CDS := Lib.hid (fun (W : World) (u : Value) (l : Fac.LiesC W u xs) => Fac.spec_dis u xs W l)
  have CGI := Lib.hid (fun (W : World) (u : Value) (l : Lies (Value.int .i64) W u xs) => Fac.impl_gr u xs W l (by omega))
  have CGS := Lib.hid (fun (W : World) (u : Value) (l : Lies (Value.int .i64) W u xs) => Fac.spec_gr u xs W l (by omega))
  have CEI := Lib.hid (fun (W : World) (u : Value) (l : Lies (Value.int .i64) W u xs) => Fac.impl_ex u xs W l (by omega))
  have CES := Lib.hid (fun (W : World) (u : Value) (l : Lies (Value.int .i64) W u xs) => Fac.spec_ex u xs W l (by omega))
  have CSI := Lib.hid (fun (W : World) (u : Value) (l : Fac.LiesC W u xs) => Fac.impl_short u xs W l)
  have CSS := Lib.hid (fun (W : World) (u : Value) (l : Lies (Value.int .i64) W u xs) => Fac.spec_short u xs W l)
  have HP1 := Lib.hid (fun h : xs.length ≤ 64 => pow_squares h)
  have HP2 := Lib.hid (fun h : ovB xs = true => ov_pow h)
  have HP3 := Lib.hid (fun h : xs.length ≤ 64 => dsq_bound h)
  have HP4 := Lib.hid (fun (h0 : 0 < xs.length) (h : xs.length ≤ 128) => g_two h0 h)
  have HP5 := Lib.hid (fun (h0 : 0 < xs.length) (h : xs.length ≤ 128) => own_law h0 h)
  have HP6 := Lib.hid (fun (s : Sqr) (h : s ∈ sqV xs) => (⟨sqV_fit h, ((sqV_mem (sqV_fit h).2.2).1 h).2.2⟩ : (0 < s.2 ∧ s.1 + 2 * s.2 ≤ xs.length ∧ xs.length ≤ 64) ∧ sqAt xs s.1 s.2 = true))
  have hdq := dsq_le xs
  obtain ⟨p2, hp2⟩ : ∃ y, y = powB xs 2 1 := ⟨_, rfl⟩
  obtain ⟨ov, hov⟩ : ∃ y, y = ovB xs := ⟨_, rfl⟩
  obtain ⟨dq, hdq_⟩ : ∃ y, y = dsq xs := ⟨_, rfl⟩
  obtain ⟨gn, hgn⟩ : ∃ y, y = gN xs := ⟨_, rfl⟩
  obtain ⟨gd, hgd⟩ : ∃ y, y = gD xs := ⟨_, rfl⟩
  obtain ⟨en, hen⟩ : ∃ y, y = exN xs := ⟨_, rfl⟩
  obtain ⟨ed, hed⟩ : ∃ y, y = exD xs := ⟨_, rfl⟩
  obtain ⟨L, hL⟩ : ∃ y, y = sqV xs := ⟨_, rfl⟩
  have hLl : L.length ≤ 4096 := by rw [hL]; exact sqV_len xs
  rw [← hL] at CQI CQS HP1 HP6 CSI CSS
  rw [← hp2] at CHI CHS HP1 HP2 HP4
  rw [← hov] at COI COS HP2 HP4
  rw [← hdq_] at CDI CDS HP3 hdq
  rw [← hgn, ← hgd] at CGI CGS HP4 HP5
  rw [← hen, ← hed] at CEI CES HP5
  obtain ⟨mx, hmx⟩ : ∃ y, y = (mnE L).1 := ⟨_, rfl⟩
  obtain ⟨my, hmy⟩ : ∃ y, y = (mnE L).2 := ⟨_, rfl⟩
  obtain ⟨mk, hmk⟩ : ∃ y, y = decide (0 < L.length) := ⟨_, rfl⟩
  rw [← hmx, ← hmy, ← hmk] at CSI CSS
  have hn1 : (p2 != p2) = false := by simp
  have hn2 : (ov != ov) = false := by simp
  have hn3 : ((dq : Int) != (dq : Int)) = false := by simp
  have hn4 : ((gn : Int) != (gn : Int)) = false := by simp
  have hn5 : ((gd : Int) != (gd : Int)) = false := by simp
  have hn6 : ((en : Int) != (en : Int)) = false := by simp
  have hn7 : ((ed : Int) != (ed : Int)) = false := by simp
  have hn8 : (mk == mk) = true := by simp
  have hn9 : ((L.length : Int) != (L.length : Int)) = false := by simp
  clear hL hp2 hov hdq_ hgn hgd hen hed hmx hmy hmk
  go_wp2_with fail
  refine (CQI.out _ _ (Fac.LiesC.of_has Rx_1.out.has)).mono ?_
  rintro e W2 ⟨vl, rfl, h2, fb2⟩
  have HB_2 := Lib.hid (HB_1.out.trans (fb2.mono HB_1.out.size))
  have Rx_2 := Lib.hid (Rx_1.out.below fb2)
  have Z2 := Lib.hid (fb2.size)
  have Rl_2 := Lib.hid h2
  clear Rx_1 HB_1 fb2 h2
  obtain ⟨la, lc, hlv⟩ := Rl_2.out.form
  rw [Fac.sqL_len] at hlv
  subst hlv
  go_wp2_with fail
  refine (CQS.out _ _ Rx_2.out.lies).mono ?_
  rintro e W3 ⟨vm, rfl, h3, fb3⟩
  have HB_3 := Lib.hid (HB_2.out.trans (fb3.mono HB_2.out.size))
  have Rx_3 := Lib.hid (Rx_2.out.below fb3)
  have Rl_3 := Lib.hid (Rl_2.out.below fb3)
  have Z3 := Lib.hid (fb3.size)
  have Rm_3 := Lib.hid h3
  clear Rx_2 Rl_2 HB_2 fb3 h3
  obtain ⟨ma, mc, hmv⟩ := Rm_3.out.form
  rw [Fac.sqL_len] at hmv
  subst hmv
  go_wp2_with fail
  refine (CHI.out _ _ Rx_3.out.lies).mono ?_
  rintro e W4 ⟨rfl, fb4⟩
  have HB_4 := Lib.hid (HB_3.out.trans (fb4.mono HB_3.out.size))
  have Rx_4 := Lib.hid (Rx_3.out.below fb4)
  have Rl_4 := Lib.hid (Rl_3.out.below fb4)
  have Rm_4 := Lib.hid (Rm_3.out.below fb4)
  have Z4 := Lib.hid (fb4.size)
  clear Rx_3 Rl_3 Rm_3 HB_3 fb4
  go_wp2_with fail
  refine (CHS.out _ _ Rx_4.out.lies).mono ?_
  rintro e W5 ⟨rfl, fb5⟩
  have HB_5 := Lib.hid (HB_4.out.trans (fb5.mono HB_4.out.size))
  have Rx_5 := Lib.hid (Rx_4.out.below fb5)
  have Rl_5 := Lib.hid (Rl_4.out.below fb5)
  have Rm_5 := Lib.hid (Rm_4.out.below fb5)
  have Z5 := Lib.hid (fb5.size)
  clear Rx_4 Rl_4 Rm_4 HB_4 fb5
  go_wp2_with fail
  refine (COI.out _ _ Rx_5.out.lies).mono ?_
  rintro e W6 ⟨rfl, fb6⟩
  have HB_6 := Lib.hid (HB_5.out.trans (fb6.mono HB_5.out.size))
  have Rx_6 := Lib.hid (Rx_5.out.below fb6)
  have Rl_6 := Lib.hid (Rl_5.out.below fb6)
  have Rm_6 := Lib.hid (Rm_5.out.below fb6)
  have Z6 := Lib.hid (fb6.size)
  clear Rx_5 Rl_5 Rm_5 HB_5 fb6
  go_wp2_with fail
  refine (COS.out _ _ Rx_6.out.lies).mono ?_
  rintro e W7 ⟨rfl, fb7⟩
  have HB_7 := Lib.hid (HB_6.out.trans (fb7.mono HB_6.out.size))
  have Rx_7 := Lib.hid (Rx_6.out.below fb7)
  have Rl_7 := Lib.hid (Rl_6.out.below fb7)
  have Rm_7 := Lib.hid (Rm_6.out.below fb7)
  have Z7 := Lib.hid (fb7.size)
  clear Rx_6 Rl_6 Rm_6 HB_6 fb7
  go_wp2_with fail
  refine (CDI.out _ _ (Fac.LiesC.of_has Rx_7.out.has)).mono ?_
  rintro e W8 ⟨rfl, fb8⟩
  have HB_8 := Lib.hid (HB_7.out.trans (fb8.mono HB_7.out.size))
  have Rx_8 := Lib.hid (Rx_7.out.below fb8)
  have Rl_8 := Lib.hid (Rl_7.out.below fb8)
  have Rm_8 := Lib.hid (Rm_7.out.below fb8)
  have Z8 := Lib.hid (fb8.size)
  clear Rx_7 Rl_7 Rm_7 HB_7 fb8
  go_wp2_with fail
  refine (CDS.out _ _ (Fac.LiesC.of_has Rx_8.out.has)).mono ?_
  rintro e W9 ⟨rfl, fb9⟩
  have HB_9 := Lib.hid (HB_8.out.trans (fb9.mono HB_8.out.size))
  have Rx_9 := Lib.hid (Rx_8.out.below fb9)
  have Rl_9 := Lib.hid (Rl_8.out.below fb9)
  have Rm_9 := Lib.hid (Rm_8.out.below fb9)
  have Z9 := Lib.hid (fb9.size)
  clear Rx_8 Rl_8 Rm_8 HB_8 fb9
  go_wp2_with fail
  go_loopw [6] (fun i' wr => ∃ i : Nat, i ≤ L.length ∧ i' = .int .i64 i ∧ Hid (Below W9.heap.size W9 wr)) (fun i' _ => L.length - (intOf i').toNat)
  case atStart => exact ⟨0, Nat.zero_le _, rfl, Below.refl _ _⟩
  case round =>
    obtain ⟨i, hil, rfl, HBr⟩ := hrel
    obtain ⟨W9, hW9⟩ : ∃ W : World, W = wr := ⟨_, rfl⟩
    rw [← hW9] at HBr ⊢
    clear hW9
    by_cases hlt : i < L.length
    case pos =>
      obtain ⟨s, hs⟩ : ∃ x, L[i]? = some x := ⟨_, List.getElem?_eq_getElem hlt⟩
      obtain ⟨hfit, hsq⟩ := HP6.out s (List.mem_of_getElem? hs)
      have hsl1 := (Rl_9.out.below HBr.out).1
      have hsm1 := (Rm_9.out.below HBr.out).1
      obtain ⟨_, _, hv1, hg1⟩ := hsl1.form
      injection hv1 with hv1 he1 hf1
      subst hv1
      clear he1 hf1
      obtain ⟨lg, rfl⟩ := hg1 (by rw [Fac.sqL_len]; omega)
      obtain ⟨_, _, hv2, hg2⟩ := hsm1.form
      injection hv2 with hv2 he2 hf2
      subst hv2
      clear he2 hf2
      obtain ⟨mg, rfl⟩ := hg2 (by rw [Fac.sqL_len]; omega)
      rw [show L.length = (Fac.sqL L).length from (Fac.sqL_len L).symm] at hsl1 hsm1
      have p0 := hsl1.cell (j := 0) (Fac.sqL_at hs) rfl
      have p1 := hsl1.cell (j := 1) (Fac.sqL_at hs) rfl
      have p2' := hsl1.cell (j := 2) (Fac.sqL_at hs) rfl
      have q0 := hsm1.cell (j := 0) (Fac.sqL_at hs) rfl
      have q1 := hsm1.cell (j := 1) (Fac.sqL_at hs) rfl
      have q2 := hsm1.cell (j := 2) (Fac.sqL_at hs) rfl
      rw [Nat.add_zero] at p0 q0
      obtain ⟨x, y⟩ := s
      dsimp only at p0 p1 p2' q0 q1 q2 hfit hsq
      obtain ⟨hy0, hxy, hx64⟩ := hfit
      have hbx : Below W9.heap.size W9 (W9.alloc (.cells #[.int .i64 (x : Int), .int .i64 (y : Int), .int .i64 (2 * (y : Int))] 31)) := (Below.refl _ _).alloc (Nat.le_refl _) _
      have hX9 := Fac.LiesC.of_has ((Rx_9.out.below HBr.out).below hbx).has
      obtain ⟨a1, c1, hs1, hl1⟩ := hX9.slice (l := x) (h := x + y) (L := (x : Int)) (H := (x : Int) + (y : Int)) (by omega) (by omega) rfl (by omega)
      obtain ⟨a2, c2, hs2, hl2⟩ := hX9.slice (l := x + y) (h := x + 2 * y) (L := (x : Int) + (y : Int)) (H := (x : Int) + 2 * (y : Int)) (by omega) (by omega) (by omega) (by omega)
      rw [show x + y - x = y from by omega] at hs1 hl1
      rw [show x + 2 * y - (x + y) = y from by omega] at hs2 hl2
      rw [← of_decide_eq_true hsq] at hl2
      have hw1 : IntKind.i64.wrap ((x : Int) + (y : Int)) = (x : Int) + (y : Int) := by rw [IntKind.wrap_i64]; omega
      have hw2 : IntKind.i64.wrap ((x : Int) + 2 * (y : Int)) = (x : Int) + 2 * (y : Int) := by rw [IntKind.wrap_i64]; omega
      have hik : (i : Int) < (L.length : Int) := by omega
      clear hs hsl1 hsm1 hg1 hg2 hsq hX9
      go_upto_region 12 with (fail)
      obtain ⟨Wb, hWb⟩ : ∃ W, W = W9.alloc (.cells #[.int .i64 (x : Int), .int .i64 (y : Int), .int .i64 (2 * (y : Int))] 31) := ⟨_, rfl⟩
      have hcx := Cells3.new W9 31 (.int .i64 (x : Int)) (.int .i64 (y : Int)) (.int .i64 (2 * (y : Int)))
      rw [← hWb] at hl1 hl2 hbx hcx ⊢
      have k0 := hcx.c0
      have k1 := hcx.c1
      have k2 := hcx.c2
      have p0 := (hbx.cell (World.block_lt_of_cell? _ _ p0)).trans p0
      have p1 := (hbx.cell (World.block_lt_of_cell? _ _ p1)).trans p1
      have p2' := (hbx.cell (World.block_lt_of_cell? _ _ p2')).trans p2'
      have HBx := Lib.hid (HBr.out.trans (hbx.mono HBr.out.size))
      clear hWb hcx q0 q1 q2
      have fb := below_drew' Wb
      refine wp_region_held_drew (S := (fun w' => w'.cell? ⟨lg, i * 3, none⟩ = some (.int .i64 (x : Int)) ∧ w'.cell? ⟨lg, i * 3 + 1, none⟩ = some (.int .i64 (y : Int)) ∧ w'.cell? ⟨lg, i * 3 + 2, none⟩ = some (.int .i64 (2 * (y : Int))) ∧ w'.cell? ⟨W9.heap.size, 0, none⟩ = some (.int .i64 (x : Int)) ∧ w'.cell? ⟨W9.heap.size, 1, none⟩ = some (.int .i64 (y : Int)) ∧ w'.cell? ⟨W9.heap.size, 2, none⟩ = some (.int .i64 (2 * (y : Int))))) (by kernel_rfl) ?_ (fun hHeld => ?_)
      · exact ⟨(fb.cell (World.block_lt_of_cell? _ _ p0)).trans p0, (fb.cell (World.block_lt_of_cell? _ _ p1)).trans p1, (fb.cell (World.block_lt_of_cell? _ _ p2')).trans p2', (fb.cell (World.block_lt_of_cell? _ _ k0)).trans k0, (fb.cell (World.block_lt_of_cell? _ _ k1)).trans k1, (fb.cell (World.block_lt_of_cell? _ _ k2)).trans k2⟩
      refine wpAnyH_take (i := 0) (oi := { dst := some 67, op := Op.move (Operand.tmp 4), type := 26, pos := "laws.go:471", after := #[], guard := none }) (v := ?_) rfl (by kernel_rfl) (by kernel_rfl) (by kernel_rfl) (fun _ _ _ h => h) (Or.inl ⟨by rfl, ?_⟩) (by assumption) ?_
      rotate_left
      focus (intro w hSw; (try dsimp only at hSw); first | (go_simp; done) | (go_simp; with_reducible rfl))
      try simp only [Act.put, List.setIfInBounds_toArray, List.set_cons_zero, List.set_cons_succ]
      refine wpAnyH_take (i := 1) (oi := { dst := some 68, op := Op.move (Operand.tmp 6), type := 3, pos := "laws.go:471", after := #[], guard := none }) (v := ?_) rfl (by kernel_rfl) (by kernel_rfl) (by kernel_rfl) (fun _ _ _ h => h) (Or.inl ⟨by rfl, ?_⟩) (by assumption) ?_
      rotate_left
      focus (intro w hSw; (try dsimp only at hSw); first | (go_simp; done) | (go_simp; with_reducible rfl))
      try simp only [Act.put, List.setIfInBounds_toArray, List.set_cons_zero, List.set_cons_succ]
      refine wpAnyH_take (i := 2) (oi := { dst := some 69, op := Op.indexAddr 26 (Operand.tmp 67) (Operand.tmp 68), type := 0, pos := "laws.go:471", after := #[{ on := 0, ground := Ground.data }, { on := 1, ground := Ground.data }], guard := none }) (v := ?_) rfl (by kernel_rfl) (by kernel_rfl) (by kernel_rfl) (fun _ _ _ h => h) (Or.inl ⟨by rfl, ?_⟩) (by assumption) ?_
      rotate_left
      focus (intro w hSw; (try dsimp only at hSw); first | (go_simp; done) | (go_simp; with_reducible rfl))
      try simp only [Act.put, List.setIfInBounds_toArray, List.set_cons_zero, List.set_cons_succ]
      refine wpAnyH_take (i := 3) (oi := { dst := some 70, op := Op.load 31 (Operand.tmp 69), type := 31, pos := "laws.go:471", after := #[{ on := 2, ground := Ground.data }], guard := none }) (v := ?_) rfl (by kernel_rfl) (by kernel_rfl) (by kernel_rfl) (fun _ _ _ h => h) (Or.inl ⟨by rfl, ?_⟩) (by assumption) ?_
      rotate_left
      focus (intro w hSw; (try dsimp only at hSw); first | (go_simp; done) | (go_simp; with_reducible rfl))
      try simp only [Act.put, List.setIfInBounds_toArray, List.set_cons_zero, List.set_cons_succ]
      refine wpAnyH_take (i := 4) (oi := { dst := some 71, op := Op.load 31 (Operand.tmp 7), type := 31, pos := "laws.go:471", after := #[], guard := none }) (v := ?_) rfl (by kernel_rfl) (by kernel_rfl) (by kernel_rfl) (fun _ _ _ h => h) (Or.inl ⟨by rfl, ?_⟩) (by assumption) ?_
      rotate_left
      focus (intro w hSw; (try dsimp only at hSw); first | (go_simp; done) | (go_simp; with_reducible rfl))
      try simp only [Act.put, List.setIfInBounds_toArray, List.set_cons_zero, List.set_cons_succ]
      refine wpAnyH_take (i := 5) (oi := { dst := some 72, op := Op.binOp BinOp.neq 31 (Operand.tmp 70) (Operand.tmp 71) 31, type := 4, pos := "laws.go:471", after := #[{ on := 3, ground := Ground.data }, { on := 4, ground := Ground.data }], guard := none }) (v := ?_) rfl (by kernel_rfl) (by kernel_rfl) (by kernel_rfl) (fun _ _ _ h => h) (Or.inl ⟨by rfl, ?_⟩) (by assumption) ?_
      rotate_left
      focus (intro w hSw; (try dsimp only at hSw); first | (go_simp; done) | (go_simp; with_reducible rfl))
      try simp only [Act.put, List.setIfInBounds_toArray, List.set_cons_zero, List.set_cons_succ]
      refine wpAnyH_take (i := 6) (oi := { dst := some 73, op := Op.move (Operand.tmp 72), type := 4, pos := "laws.go:471", after := #[{ on := 5, ground := Ground.data }], guard := none }) (v := ?_) rfl (by kernel_rfl) (by kernel_rfl) (by kernel_rfl) (fun _ _ _ h => h) (Or.inl ⟨by rfl, ?_⟩) (by assumption) ?_
      rotate_left
      focus (intro w hSw; (try dsimp only at hSw); first | (go_simp; done) | (go_simp; with_reducible rfl))
      try simp only [Act.put, List.setIfInBounds_toArray, List.set_cons_zero, List.set_cons_succ]
      refine wpAnyH_take (i := 7) (oi := { dst := some 74, op := Op.move (Operand.tmp 3), type := 24, pos := "laws.go:471", after := #[{ on := 6, ground := Ground.guard }], guard := some (6, false) }) (v := ?_) rfl (by kernel_rfl) (by kernel_rfl) (by kernel_rfl) (fun _ _ _ h => h) (Or.inl ⟨by rfl, ?_⟩) (by assumption) ?_
      rotate_left
      focus (intro w hSw; (try dsimp only at hSw); first | (go_simp; done) | (go_simp; with_reducible rfl))
      try simp only [Act.put, List.setIfInBounds_toArray, List.set_cons_zero, List.set_cons_succ]
      refine wpAnyH_take (i := 8) (oi := { dst := some 75, op := Op.fieldAddr 31 (Operand.tmp 7) 0, type := 0, pos := "laws.go:471", after := #[{ on := 6, ground := Ground.guard }], guard := some (6, false) }) (v := ?_) rfl (by kernel_rfl) (by kernel_rfl) (by kernel_rfl) (fun _ _ _ h => h) (Or.inl ⟨by rfl, ?_⟩) (by assumption) ?_
      rotate_left
      focus (intro w hSw; (try dsimp only at hSw); first | (go_simp; done) | (go_simp; with_reducible rfl))
      try simp only [Act.put, List.setIfInBounds_toArray, List.set_cons_zero, List.set_cons_succ]
      refine wpAnyH_take (i := 9) (oi := { dst := some 76, op := Op.load 3 (Operand.tmp 75), type := 3, pos := "laws.go:471", after := #[{ on := 8, ground := Ground.data }, { on := 6, ground := Ground.guard }], guard := some (6, false) }) (v := ?_) rfl (by kernel_rfl) (by kernel_rfl) (by kernel_rfl) (fun _ _ _ h => h) (Or.inl ⟨by rfl, ?_⟩) (by assumption) ?_
      rotate_left
      focus (intro w hSw; (try dsimp only at hSw); first | (go_simp; done) | (go_simp; with_reducible rfl))
      try simp only [Act.put, List.setIfInBounds_toArray, List.set_cons_zero, List.set_cons_succ]
      refine wpAnyH_take (i := 10) (oi := { dst := some 77, op := Op.fieldAddr 31 (Operand.tmp 7) 0, type := 0, pos := "laws.go:471", after := #[{ on := 6, ground := Ground.guard }], guard := some (6, false) }) (v := ?_) rfl (by kernel_rfl) (by kernel_rfl) (by kernel_rfl) (fun _ _ _ h => h) (Or.inl ⟨by rfl, ?_⟩) (by assumption) ?_
      rotate_left
      focus (intro w hSw; (try dsimp only at hSw); first | (go_simp; done) | (go_simp; with_reducible rfl))
      try simp only [Act.put, List.setIfInBounds_toArray, List.set_cons_zero, List.set_cons_succ]
      refine wpAnyH_take (i := 11) (oi := { dst := some 78, op := Op.load 3 (Operand.tmp 77), type := 3, pos := "laws.go:471", after := #[{ on := 10, ground := Ground.data }, { on := 6, ground := Ground.guard }], guard := some (6, false) }) (v := ?_) rfl (by kernel_rfl) (by kernel_rfl) (by kernel_rfl) (fun _ _ _ h => h) (Or.inl ⟨by rfl, ?_⟩) (by assumption) ?_
      rotate_left
      focus (intro w hSw; (try dsimp only at hSw); first | (go_simp; done) | (go_simp; with_reducible rfl))
      try simp only [Act.put, List.setIfInBounds_toArray, List.set_cons_zero, List.set_cons_succ]
      refine wpAnyH_take (i := 12) (oi := { dst := some 79, op := Op.fieldAddr 31 (Operand.tmp 7) 1, type := 0, pos := "laws.go:471", after := #[{ on := 6, ground := Ground.guard }], guard := some (6, false) }) (v := ?_) rfl (by kernel_rfl) (by kernel_rfl) (by kernel_rfl) (fun _ _ _ h => h) (Or.inl ⟨by rfl, ?_⟩) (by assumption) ?_
      rotate_left
      focus (intro w hSw; (try dsimp only at hSw); first | (go_simp; done) | (go_simp; with_reducible rfl))
      try simp only [Act.put, List.setIfInBounds_toArray, List.set_cons_zero, List.set_cons_succ]
      refine wpAnyH_take (i := 13) (oi := { dst := some 80, op := Op.load 3 (Operand.tmp 79), type := 3, pos := "laws.go:471", after := #[{ on := 12, ground := Ground.data }, { on := 6, ground := Ground.guard }], guard := some (6, false) }) (v := ?_) rfl (by kernel_rfl) (by kernel_rfl) (by kernel_rfl) (fun _ _ _ h => h) (Or.inl ⟨by rfl, ?_⟩) (by assumption) ?_
      rotate_left
      focus (intro w hSw; (try dsimp only at hSw); first | (go_simp; done) | (go_simp; with_reducible rfl))
      try simp only [Act.put, List.setIfInBounds_toArray, List.set_cons_zero, List.set_cons_succ]
      refine wpAnyH_take (i := 14) (oi := { dst := some 81, op := Op.binOp BinOp.add 3 (Operand.tmp 78) (Operand.tmp 80) 3, type := 3, pos := "laws.go:471", after := #[{ on := 11, ground := Ground.data }, { on := 13, ground := Ground.data }, { on := 6, ground := Ground.guard }], guard := some (6, false) }) (v := ?_) rfl (by kernel_rfl) (by kernel_rfl) (by kernel_rfl) (fun _ _ _ h => h) (Or.inl ⟨by rfl, ?_⟩) (by assumption) ?_
      rotate_left
      focus (intro w hSw; (try dsimp only at hSw); first | (go_simp; done) | (go_simp; with_reducible rfl))
      try simp only [Act.put, List.setIfInBounds_toArray, List.set_cons_zero, List.set_cons_succ]
      refine wpAnyH_take (i := 15) (oi := { dst := some 82, op := Op.slice 24 (Operand.tmp 74) (some (Operand.tmp 76)) (some (Operand.tmp 81)) none, type := 24, pos := "laws.go:471", after := #[{ on := 7, ground := Ground.data }, { on := 9, ground := Ground.data }, { on := 14, ground := Ground.data }, { on := 6, ground := Ground.guard }], guard := some (6, false) }) (v := ?_) rfl (by kernel_rfl) (by kernel_rfl) (by kernel_rfl) (fun _ _ _ h => h) (Or.inl ⟨by rfl, ?_⟩) (by assumption) ?_
      rotate_left
      focus (intro w hSw; (try dsimp only at hSw); first | (go_simp; done) | (go_simp; with_reducible rfl))
      try simp only [Act.put, List.setIfInBounds_toArray, List.set_cons_zero, List.set_cons_succ]
      refine wpAnyH_take (i := 16) (oi := { dst := some 83, op := Op.move (Operand.tmp 3), type := 24, pos := "laws.go:471", after := #[{ on := 6, ground := Ground.guard }], guard := some (6, false) }) (v := ?_) rfl (by kernel_rfl) (by kernel_rfl) (by kernel_rfl) (fun _ _ _ h => h) (Or.inl ⟨by rfl, ?_⟩) (by assumption) ?_
      rotate_left
      focus (intro w hSw; (try dsimp only at hSw); first | (go_simp; done) | (go_simp; with_reducible rfl))
      try simp only [Act.put, List.setIfInBounds_toArray, List.set_cons_zero, List.set_cons_succ]
      refine wpAnyH_take (i := 17) (oi := { dst := some 84, op := Op.fieldAddr 31 (Operand.tmp 7) 0, type := 0, pos := "laws.go:471", after := #[{ on := 6, ground := Ground.guard }], guard := some (6, false) }) (v := ?_) rfl (by kernel_rfl) (by kernel_rfl) (by kernel_rfl) (fun _ _ _ h => h) (Or.inl ⟨by rfl, ?_⟩) (by assumption) ?_
      rotate_left
      focus (intro w hSw; (try dsimp only at hSw); first | (go_simp; done) | (go_simp; with_reducible rfl))
      try simp only [Act.put, List.setIfInBounds_toArray, List.set_cons_zero, List.set_cons_succ]
      refine wpAnyH_take (i := 18) (oi := { dst := some 85, op := Op.load 3 (Operand.tmp 84), type := 3, pos := "laws.go:471", after := #[{ on := 17, ground := Ground.data }, { on := 6, ground := Ground.guard }], guard := some (6, false) }) (v := ?_) rfl (by kernel_rfl) (by kernel_rfl) (by kernel_rfl) (fun _ _ _ h => h) (Or.inl ⟨by rfl, ?_⟩) (by assumption) ?_
      rotate_left
      focus (intro w hSw; (try dsimp only at hSw); first | (go_simp; done) | (go_simp; with_reducible rfl))
      try simp only [Act.put, List.setIfInBounds_toArray, List.set_cons_zero, List.set_cons_succ]
      refine wpAnyH_take (i := 19) (oi := { dst := some 86, op := Op.fieldAddr 31 (Operand.tmp 7) 1, type := 0, pos := "laws.go:471", after := #[{ on := 6, ground := Ground.guard }], guard := some (6, false) }) (v := ?_) rfl (by kernel_rfl) (by kernel_rfl) (by kernel_rfl) (fun _ _ _ h => h) (Or.inl ⟨by rfl, ?_⟩) (by assumption) ?_
      rotate_left
      focus (intro w hSw; (try dsimp only at hSw); first | (go_simp; done) | (go_simp; with_reducible rfl))
      try simp only [Act.put, List.setIfInBounds_toArray, List.set_cons_zero, List.set_cons_succ]
      refine wpAnyH_take (i := 20) (oi := { dst := some 87, op := Op.load 3 (Operand.tmp 86), type := 3, pos := "laws.go:471", after := #[{ on := 19, ground := Ground.data }, { on := 6, ground := Ground.guard }], guard := some (6, false) }) (v := ?_) rfl (by kernel_rfl) (by kernel_rfl) (by kernel_rfl) (fun _ _ _ h => h) (Or.inl ⟨by rfl, ?_⟩) (by assumption) ?_
      rotate_left
      focus (intro w hSw; (try dsimp only at hSw); first | (go_simp; done) | (go_simp; with_reducible rfl))
      try simp only [Act.put, List.setIfInBounds_toArray, List.set_cons_zero, List.set_cons_succ]
      refine wpAnyH_take (i := 21) (oi := { dst := some 88, op := Op.binOp BinOp.add 3 (Operand.tmp 85) (Operand.tmp 87) 3, type := 3, pos := "laws.go:471", after := #[{ on := 18, ground := Ground.data }, { on := 20, ground := Ground.data }, { on := 6, ground := Ground.guard }], guard := some (6, false) }) (v := ?_) rfl (by kernel_rfl) (by kernel_rfl) (by kernel_rfl) (fun _ _ _ h => h) (Or.inl ⟨by rfl, ?_⟩) (by assumption) ?_
      rotate_left
      focus (intro w hSw; (try dsimp only at hSw); first | (go_simp; done) | (go_simp; with_reducible rfl))
      try simp only [Act.put, List.setIfInBounds_toArray, List.set_cons_zero, List.set_cons_succ]
      refine wpAnyH_take (i := 22) (oi := { dst := some 89, op := Op.fieldAddr 31 (Operand.tmp 7) 0, type := 0, pos := "laws.go:471", after := #[{ on := 6, ground := Ground.guard }], guard := some (6, false) }) (v := ?_) rfl (by kernel_rfl) (by kernel_rfl) (by kernel_rfl) (fun _ _ _ h => h) (Or.inl ⟨by rfl, ?_⟩) (by assumption) ?_
      rotate_left
      focus (intro w hSw; (try dsimp only at hSw); first | (go_simp; done) | (go_simp; with_reducible rfl))
      try simp only [Act.put, List.setIfInBounds_toArray, List.set_cons_zero, List.set_cons_succ]
      refine wpAnyH_take (i := 23) (oi := { dst := some 90, op := Op.load 3 (Operand.tmp 89), type := 3, pos := "laws.go:471", after := #[{ on := 22, ground := Ground.data }, { on := 6, ground := Ground.guard }], guard := some (6, false) }) (v := ?_) rfl (by kernel_rfl) (by kernel_rfl) (by kernel_rfl) (fun _ _ _ h => h) (Or.inl ⟨by rfl, ?_⟩) (by assumption) ?_
      rotate_left
      focus (intro w hSw; (try dsimp only at hSw); first | (go_simp; done) | (go_simp; with_reducible rfl))
      try simp only [Act.put, List.setIfInBounds_toArray, List.set_cons_zero, List.set_cons_succ]
      refine wpAnyH_take (i := 24) (oi := { dst := some 91, op := Op.fieldAddr 31 (Operand.tmp 7) 2, type := 0, pos := "laws.go:471", after := #[{ on := 6, ground := Ground.guard }], guard := some (6, false) }) (v := ?_) rfl (by kernel_rfl) (by kernel_rfl) (by kernel_rfl) (fun _ _ _ h => h) (Or.inl ⟨by rfl, ?_⟩) (by assumption) ?_
      rotate_left
      focus (intro w hSw; (try dsimp only at hSw); first | (go_simp; done) | (go_simp; with_reducible rfl))
      try simp only [Act.put, List.setIfInBounds_toArray, List.set_cons_zero, List.set_cons_succ]
      refine wpAnyH_take (i := 25) (oi := { dst := some 92, op := Op.load 3 (Operand.tmp 91), type := 3, pos := "laws.go:471", after := #[{ on := 24, ground := Ground.data }, { on := 6, ground := Ground.guard }], guard := some (6, false) }) (v := ?_) rfl (by kernel_rfl) (by kernel_rfl) (by kernel_rfl) (fun _ _ _ h => h) (Or.inl ⟨by rfl, ?_⟩) (by assumption) ?_
      rotate_left
      focus (intro w hSw; (try dsimp only at hSw); first | (go_simp; done) | (go_simp; with_reducible rfl))
      try simp only [Act.put, List.setIfInBounds_toArray, List.set_cons_zero, List.set_cons_succ]
      refine wpAnyH_take (i := 26) (oi := { dst := some 93, op := Op.binOp BinOp.add 3 (Operand.tmp 90) (Operand.tmp 92) 3, type := 3, pos := "laws.go:471", after := #[{ on := 23, ground := Ground.data }, { on := 25, ground := Ground.data }, { on := 6, ground := Ground.guard }], guard := some (6, false) }) (v := ?_) rfl (by kernel_rfl) (by kernel_rfl) (by kernel_rfl) (fun _ _ _ h => h) (Or.inl ⟨by rfl, ?_⟩) (by assumption) ?_
      rotate_left
      focus (intro w hSw; (try dsimp only at hSw); first | (go_simp; done) | (go_simp; with_reducible rfl))
      try simp only [Act.put, List.setIfInBounds_toArray, List.set_cons_zero, List.set_cons_succ]
      refine wpAnyH_take (i := 27) (oi := { dst := some 94, op := Op.slice 24 (Operand.tmp 83) (some (Operand.tmp 88)) (some (Operand.tmp 93)) none, type := 24, pos := "laws.go:471", after := #[{ on := 16, ground := Ground.data }, { on := 21, ground := Ground.data }, { on := 26, ground := Ground.data }, { on := 6, ground := Ground.guard }], guard := some (6, false) }) (v := ?_) rfl (by kernel_rfl) (by kernel_rfl) (by kernel_rfl) (fun _ _ _ h => h) (Or.inl ⟨by rfl, ?_⟩) (by assumption) ?_
      rotate_left
      focus (intro w hSw; (try dsimp only at hSw); first | (go_simp; done) | (go_simp; with_reducible rfl))
      try simp only [Act.put, List.setIfInBounds_toArray, List.set_cons_zero, List.set_cons_succ]
      refine wpAnyH_ready (rs := [28]) (by kernel_rfl) (by simp) ?_
      refine AllReadyH.cons (o := { dst := some 95, op := Op.call { callee := Callee.value (Operand.func 14), args := #[Operand.tmp 82, Operand.tmp 94], argTypes := #[24, 24] }, type := 4, pos := "laws.go:471", after := #[{ on := 15, ground := Ground.data }, { on := 27, ground := Ground.data }, { on := 6, ground := Ground.chain }, { on := 6, ground := Ground.guard }], guard := some (6, false) }) rfl (fun K hK => ?_) AllReadyH.nil
      go_simp
      go_at_call 14
      refine (Ints.same_yes _ _ _ _ (hl1.lies.below fb) (hl2.lies.below fb)).mono ?_
      rintro e Wn ⟨rfl, fbn⟩
      replace fb := fb.trans (fbn.mono fb.size)
      refine hK.out _ _ ?_ (fun hHeld => ?_)
      · exact ⟨(fb.cell (World.block_lt_of_cell? _ _ p0)).trans p0, (fb.cell (World.block_lt_of_cell? _ _ p1)).trans p1, (fb.cell (World.block_lt_of_cell? _ _ p2')).trans p2', (fb.cell (World.block_lt_of_cell? _ _ k0)).trans k0, (fb.cell (World.block_lt_of_cell? _ _ k1)).trans k1, (fb.cell (World.block_lt_of_cell? _ _ k2)).trans k2⟩
      clear hK K
      try simp only [Act.put, List.setIfInBounds_toArray, List.set_cons_zero, List.set_cons_succ]
      refine wpAnyH_take (i := 29) (oi := { dst := some 96, op := Op.unOp UnOp.not 4 (Operand.tmp 95), type := 4, pos := "laws.go:471", after := #[{ on := 28, ground := Ground.data }, { on := 6, ground := Ground.guard }], guard := some (6, false) }) (v := ?_) rfl (by kernel_rfl) (by kernel_rfl) (by kernel_rfl) (fun _ _ _ h => h) (Or.inl ⟨by rfl, ?_⟩) (by assumption) ?_
      rotate_left
      focus (intro w hSw; (try dsimp only at hSw); first | (go_simp; done) | (go_simp; with_reducible rfl))
      try simp only [Act.put, List.setIfInBounds_toArray, List.set_cons_zero, List.set_cons_succ]
      refine wpAnyH_take (i := 30) (oi := { dst := some 97, op := Op.pick (Operand.tmp 73) (Operand.const (Value.bool true)) (Operand.tmp 96), type := 4, pos := "laws.go:471", after := #[{ on := 6, ground := Ground.data }, { on := 29, ground := Ground.data }], guard := none }) (v := ?_) rfl (by kernel_rfl) (by kernel_rfl) (by kernel_rfl) (fun _ _ _ h => h) (Or.inl ⟨by rfl, ?_⟩) (by assumption) ?_
      rotate_left
      focus (intro w hSw; (try dsimp only at hSw); first | (go_simp; done) | (go_simp; with_reducible rfl))
      try simp only [Act.put, List.setIfInBounds_toArray, List.set_cons_zero, List.set_cons_succ]
      refine wpAnyH_done (by kernel_rfl) ?_ _
      all_goals
        have HB8 := Lib.hid (HBx.out.trans (fb.mono HBx.out.size))
        go_wp2
        go_roundw
        case rel => exact ⟨i + 1, by omega, by go_num, HB8⟩
        case measure => simp [intOf]; omega
    case neg =>
      obtain ⟨W10, rfl⟩ : ∃ W : World, W = W9 := ⟨_, rfl⟩
      have bw := HBr.out
      have HB_10 := Lib.hid (HB_9.out.trans (bw.mono HB_9.out.size))
      have Rx_10 := Lib.hid (Rx_9.out.below bw)
      have Rl_10 := Lib.hid (Rl_9.out.below bw)
      have Rm_10 := Lib.hid (Rm_9.out.below bw)
      have Z10 := Lib.hid (bw.size)
      clear Rx_9 Rl_9 Rm_9 HB_9 bw HBr
      obtain rfl : i = L.length := by omega
      go_upto_region 14 with fail
      go_cut [124] (fun s wx => s = .bool false ∧ Hid (Below W10.heap.size W10 wx))
      case first =>
        as_aux_lemma =>
          have fb : Below W10.heap.size W10 W10 := Below.refl _ _
          by_cases h64 : xs.length ≤ 64
          case pos =>
            have hle := decide_eq_true (show (xs.length : Int) ≤ 64 by omega)
            have hb1 : decide (0 < L.length) = p2 := (HP1.out h64).symm
            have hdl := HP3.out h64
            have hb2 := decide_eq_false (show ¬ xs.length < dq by omega)
            cases hov : ov with
            | false =>
              subst hov
              go_wp2_with (first | (go_at_call 8; refine (CHI.out _ _ (Rx_10.out.below fb).lies).mono ?_; rintro e Wn ⟨rfl, fbn⟩; replace fb := fb.trans (fbn.mono fb.size)) | (go_at_call 10; refine (COI.out _ _ (Rx_10.out.below fb).lies).mono ?_; rintro e Wn ⟨rfl, fbn⟩; replace fb := fb.trans (fbn.mono fb.size)) | (go_at_call 12; refine (CDI.out _ _ (Fac.LiesC.of_has (Rx_10.out.below fb).has)).mono ?_; rintro e Wn ⟨rfl, fbn⟩; replace fb := fb.trans (fbn.mono fb.size)))
              go_meet
              exact ⟨by first | rfl | exact congrArg Value.bool hb2, fb⟩
            | true =>
              subst hov
              obtain rfl : p2 = true := HP2.out rfl
              go_wp2_with (first | (go_at_call 8; refine (CHI.out _ _ (Rx_10.out.below fb).lies).mono ?_; rintro e Wn ⟨rfl, fbn⟩; replace fb := fb.trans (fbn.mono fb.size)) | (go_at_call 10; refine (COI.out _ _ (Rx_10.out.below fb).lies).mono ?_; rintro e Wn ⟨rfl, fbn⟩; replace fb := fb.trans (fbn.mono fb.size)) | (go_at_call 12; refine (CDI.out _ _ (Fac.LiesC.of_has (Rx_10.out.below fb).has)).mono ?_; rintro e Wn ⟨rfl, fbn⟩; replace fb := fb.trans (fbn.mono fb.size)))
              go_meet
              exact ⟨by first | rfl | exact congrArg Value.bool hb2, fb⟩
          case neg =>
            have hle := decide_eq_false (show ¬ (xs.length : Int) ≤ 64 by omega)
            go_wp2_with fail
            go_meet
            exact ⟨by first | rfl | exact congrArg Value.bool hb2, fb⟩
      case rest =>
        obtain ⟨rfl, bw11⟩ := hcut
        obtain ⟨W11, rfl⟩ : ∃ W, W = wc := ⟨_, rfl⟩
        have bw := bw11.out
        have HB_11 := Lib.hid (HB_10.out.trans (bw.mono HB_10.out.size))
        have Rx_11 := Lib.hid (Rx_10.out.below bw)
        have Rl_11 := Lib.hid (Rl_10.out.below bw)
        have Rm_11 := Lib.hid (Rm_10.out.below bw)
        have Z11 := Lib.hid (bw.size)
        clear Rx_10 Rl_10 Rm_10 HB_10 bw11 bw
        clear Rl_11 Rm_11
        go_wp2_with fail
        refine (CGI.out _ _ Rx_11.out.lies).mono ?_
        rintro e W12 ⟨rfl, fb12⟩
        have HB_12 := Lib.hid (HB_11.out.trans (fb12.mono HB_11.out.size))
        have Rx_12 := Lib.hid (Rx_11.out.below fb12)
        have Z12 := Lib.hid (fb12.size)
        clear Rx_11 HB_11 fb12
        go_wp2_with fail
        refine (CGS.out _ _ Rx_12.out.lies).mono ?_
        rintro e W13 ⟨rfl, fb13⟩
        have HB_13 := Lib.hid (HB_12.out.trans (fb13.mono HB_12.out.size))
        have Rx_13 := Lib.hid (Rx_12.out.below fb13)
        have Z13 := Lib.hid (fb13.size)
        clear Rx_12 HB_12 fb13
        go_wp2_with fail
        refine (CEI.out _ _ Rx_13.out.lies).mono ?_
        rintro e W14 ⟨rfl, fb14⟩
        have HB_14 := Lib.hid (HB_13.out.trans (fb14.mono HB_13.out.size))
        have Rx_14 := Lib.hid (Rx_13.out.below fb14)
        have Z14 := Lib.hid (fb14.size)
        clear Rx_13 HB_13 fb14
        go_wp2_with fail
        refine (CES.out _ _ Rx_14.out.lies).mono ?_
        rintro e W15 ⟨rfl, fb15⟩
        have HB_15 := Lib.hid (HB_14.out.trans (fb15.mono HB_14.out.size))
        have Rx_15 := Lib.hid (Rx_14.out.below fb15)
        have Z15 := Lib.hid (fb15.size)
        clear Rx_14 HB_14 fb15
        go_upto_region 20 with fail
        go_cut [199] (fun s wx => s = .bool false ∧ Hid (Below W15.heap.size W15 wx))
        case first =>
          as_aux_lemma =>
            have fb : Below W15.heap.size W15 W15 := Below.refl _ _
            by_cases h0 : 0 < xs.length
            case pos =>
              have hl0 := decide_eq_true (show (xs.length : Int) > 0 by omega)
              by_cases h128 : xs.length ≤ 128
              case pos =>
                have hl1 := decide_eq_true (show (xs.length : Int) ≤ 128 by omega)
                obtain ⟨g1, g2, g3, g4, g5⟩ := HP4.out h0 h128
                obtain ⟨g6, g7, g8⟩ := HP5.out h0 h128
                obtain ⟨f1, f2⟩ := Fac.mul_fits (m := gn) (d := ed) (by omega) (by omega)
                obtain ⟨f3, f4⟩ := Fac.mul_fits (m := en) (d := gd) (by omega) (by omega)
                have hc1 : ((en * gd : Nat) : Int) = (en : Int) * (gd : Int) := by simp
                have hc2 : ((gn * ed : Nat) : Int) = (gn : Int) * (ed : Int) := by simp
                have hb3 := decide_eq_false (show ¬ (gn : Int) * (ed : Int) < (en : Int) * (gd : Int) by omega)
                have hb4 : decide ((gn : Int) ≥ 2 * (gd : Int)) = p2 := by rw [g4]; exact decide_eq_decide.2 ⟨fun h => by omega, fun h => by omega⟩
                have hb5 : decide ((gn : Int) > 2 * (gd : Int)) = ov := by rw [g5]; exact decide_eq_decide.2 ⟨fun h => by omega, fun h => by omega⟩
                clear g4 g5 g6 hc1 hc2
                go_wp2_with (first | (go_at_call 8; refine (CHI.out _ _ (Rx_15.out.below fb).lies).mono ?_; rintro e Wn ⟨rfl, fbn⟩; replace fb := fb.trans (fbn.mono fb.size)) | (go_at_call 10; refine (COI.out _ _ (Rx_15.out.below fb).lies).mono ?_; rintro e Wn ⟨rfl, fbn⟩; replace fb := fb.trans (fbn.mono fb.size)))
                go_meet
                exact ⟨rfl, fb⟩
              case neg =>
                have hl1 := decide_eq_false (show ¬ (xs.length : Int) ≤ 128 by omega)
                go_wp2_with fail
                go_meet
                exact ⟨rfl, fb⟩
            case neg =>
              have hl0 := decide_eq_false (show ¬ (xs.length : Int) > 0 by omega)
              go_wp2_with fail
              go_meet
              exact ⟨rfl, fb⟩
        case rest =>
          obtain ⟨rfl, bw16⟩ := hcut
          obtain ⟨W16, rfl⟩ : ∃ W, W = wc := ⟨_, rfl⟩
          have bw := bw16.out
          have HB_16 := Lib.hid (HB_15.out.trans (bw.mono HB_15.out.size))
          have Rx_16 := Lib.hid (Rx_15.out.below bw)
          have Z16 := Lib.hid (bw.size)
          clear Rx_15 HB_15 bw16 bw
          go_wp2_with fail
          refine (CSI.out _ _ (Fac.LiesC.of_has Rx_16.out.has)).mono ?_
          rintro e W17 ⟨rfl, fb17⟩
          have HB_17 := Lib.hid (HB_16.out.trans (fb17.mono HB_16.out.size))
          have Rx_17 := Lib.hid (Rx_16.out.below fb17)
          have Z17 := Lib.hid (fb17.size)
          clear Rx_16 HB_16 fb17
          go_wp2_with fail
          have bx18 : Below W17.heap.size W17 (W17.alloc (Obj.cells #[.int .i64 (mx : Int), .int .i64 (my : Int), .int .i64 (2 * (my : Int))] 31)) := (Below.refl _ _).alloc (Nat.le_refl _) _
          have cx18 := Cells3.new W17 31 (.int .i64 (mx : Int)) (.int .i64 (my : Int)) (.int .i64 (2 * (my : Int)))
          have hz18 : (W17.alloc (Obj.cells #[.int .i64 (mx : Int), .int .i64 (my : Int), .int .i64 (2 * (my : Int))] 31)).heap.size = W17.heap.size + 1 := size_alloc' _ _
          obtain ⟨W18, hW18⟩ : ∃ W, W = (W17.alloc (Obj.cells #[.int .i64 (mx : Int), .int .i64 (my : Int), .int .i64 (2 * (my : Int))] 31)) := ⟨_, rfl⟩
          rw [← hW18] at bx18 cx18 hz18 ⊢
          have HB_18 := Lib.hid (HB_17.out.trans (bx18.mono HB_17.out.size))
          have Rx_18 := Lib.hid (Rx_17.out.below bx18)
          have Z18 := Lib.hid (bx18.size)
          have CS_18 := Lib.hid cx18
          have Z19 := Lib.hid hz18
          clear Rx_17 HB_17 bx18 hW18 cx18
          clear hz18
          refine (CSS.out _ _ Rx_18.out.lies).mono ?_
          rintro e W19 ⟨rfl, fb19⟩
          have HB_19 := Lib.hid (HB_18.out.trans (fb19.mono HB_18.out.size))
          have CS_19 := Lib.hid (CS_18.out.below fb19)
          have Rx_19 := Lib.hid (Rx_18.out.below fb19)
          have Z20 := Lib.hid (fb19.size)
          clear CS_18 Rx_18 HB_18 fb19
          clear Rx_19
          have kS0 := (CS_19.out.alloc (Obj.cells #[.int .i64 (mx : Int), .int .i64 (my : Int), .int .i64 (2 * (my : Int))] 31)).c0
          have kS1 := (CS_19.out.alloc (Obj.cells #[.int .i64 (mx : Int), .int .i64 (my : Int), .int .i64 (2 * (my : Int))] 31)).c1
          have kS2 := (CS_19.out.alloc (Obj.cells #[.int .i64 (mx : Int), .int .i64 (my : Int), .int .i64 (2 * (my : Int))] 31)).c2
          go_wp2_with fail
          clear kS0 kS1 kS2
          have bx20 : Below W19.heap.size W19 (W19.alloc (Obj.cells #[.int .i64 (mx : Int), .int .i64 (my : Int), .int .i64 (2 * (my : Int))] 31)) := (Below.refl _ _).alloc (Nat.le_refl _) _
          have cx20 := Cells3.new W19 31 (.int .i64 (mx : Int)) (.int .i64 (my : Int)) (.int .i64 (2 * (my : Int)))
          have hz20 : (W19.alloc (Obj.cells #[.int .i64 (mx : Int), .int .i64 (my : Int), .int .i64 (2 * (my : Int))] 31)).heap.size = W19.heap.size + 1 := size_alloc' _ _
          obtain ⟨W20, hW20⟩ : ∃ W, W = (W19.alloc (Obj.cells #[.int .i64 (mx : Int), .int .i64 (my : Int), .int .i64 (2 * (my : Int))] 31)) := ⟨_, rfl⟩
          rw [← hW20] at bx20 cx20 hz20 ⊢
          have HB_20 := Lib.hid (HB_19.out.trans (bx20.mono HB_19.out.size))
          have CS_20 := Lib.hid (CS_19.out.below bx20)
          have Z21 := Lib.hid (bx20.size)
          have CT_20 := Lib.hid cx20
          have Z22 := Lib.hid hz20
          clear CS_19 HB_19 bx20 hW20 cx20
          clear hz20
          refine (Cursor.drawHP W20 a len cap hlen (Cursor.code_next HC.out HB_20.out)).mono ?_
          rintro e W21 ⟨vu, us, num, den, hul, rfl, h21, fb21⟩
          have HB_21 := Lib.hid (HB_20.out.trans (fb21.mono HB_20.out.size))
          have CS_21 := Lib.hid (CS_20.out.below fb21)
          have CT_21 := Lib.hid (CT_20.out.below fb21)
          have Z23 := Lib.hid (fb21.size)
          have Ru_21 := Lib.hid h21
          clear CS_20 CT_20 HB_20 fb21 h21
          obtain ⟨ua, uc, rfl⟩ := Ru_21.out.form
          have CPI := Lib.hid (fun (W : World) (u : Value) (l : Lies (Value.int .i64) W u us) => Fac.impl_pow u us num den W l (by omega))
          have CPS := Lib.hid (fun (W : World) (u : Value) (l : Lies (Value.int .i64) W u us) => Fac.spec_pow u us num den W l (by omega))
          obtain ⟨pv, hpv⟩ : ∃ y, y = powB us num den := ⟨_, rfl⟩
          rw [← hpv] at CPI CPS
          clear hpv
          have hpp : (pv == pv) = true := by simp
          have kS0 := CS_21.out.c0
          have kS1 := CS_21.out.c1
          have kS2 := CS_21.out.c2
          have kT0 := CT_21.out.c0
          have kT1 := CT_21.out.c1
          have kT2 := CT_21.out.c2
          go_wp2_with fail
          clear kS0 kS1 kS2 kT0 kT1 kT2
          refine (CPI.out _ _ Ru_21.out.lies).mono ?_
          rintro e W22 ⟨rfl, fb22⟩
          have HB_22 := Lib.hid (HB_21.out.trans (fb22.mono HB_21.out.size))
          have CS_22 := Lib.hid (CS_21.out.below fb22)
          have CT_22 := Lib.hid (CT_21.out.below fb22)
          have Ru_22 := Lib.hid (Ru_21.out.below fb22)
          have Z24 := Lib.hid (fb22.size)
          clear CS_21 CT_21 Ru_21 HB_21 fb22
          clear CS_22 CT_22
          go_wp2_with fail
          refine (CPS.out _ _ Ru_22.out.lies).mono ?_
          rintro e W23 ⟨rfl, fb23⟩
          have HB_23 := Lib.hid (HB_22.out.trans (fb23.mono HB_22.out.size))
          have Ru_23 := Lib.hid (Ru_22.out.below fb23)
          have Z25 := Lib.hid (fb23.size)
          clear Ru_22 HB_22 fb23
          clear Ru_23
          go_wp2
          go_ret
          exact ⟨rfl, HB_23.out⟩
end Pows
end Go.Proofs.YtidfgfgokcflfaaGreat
