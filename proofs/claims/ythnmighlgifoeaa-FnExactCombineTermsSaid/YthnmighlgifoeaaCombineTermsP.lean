/- The law FnExactCombineTerms answers true for every argument: the program's CombineTerms returns what the model's returns, writes into no argument and hands back memory of its own. Conditions: none beyond the row's own. -/
import Derived.Test.YthnmighlgifoeaaRows
import Derived.WalkKit
import Derived.ProofKit
import Derived.OpenShut
import Derived.ShutString
import Derived.ChangeOld
import Derived.Below
import Derived.PlainAid
import Derived.Lib.Hide
import Derived.Deep.RegionHeld3
import Derived.Deep.DeepCutAuto
import Derived.Outline
import Derived.Test.YthnmighlgifoeaaSeqMark
import Derived.Test.YthnmighlgifoeaaSeqMark2
import Derived.Test.YthnmighlgifoeaaSeqHeld
import Derived.Test.YthnmighlgifoeaaSeqTo
import Derived.Test.YthnmighlgifoeaaSeqOpen
import Derived.Test.YthnmighlgifoeaaSeqEq
import Derived.Test.YthnmighlgifoeaaSeqSz
import Derived.Test.YthnmighlgifoeaaInts
import Derived.Test.YthnmighlgifoeaaCombS
import Derived.Test.YthnmighlgifoeaaOwnW
namespace Go.Proofs.Ythnmighlgifoeaa.fnExactCombineTerms
open Go.ChangeShapes Go.WideShapes Go.ChangeAt Go.RowKit
open Go.ChangeMaps (open_string shut_string)
open Go.PlainAid Plain
set_option linter.unusedVariables false

theorem own : ownKnob Try.prog.godebug = none := by kernel_rfl
theorem laidOut : laidOutB Try.prog = true := by kernel_rfl
open Comb
open Seqs
theorem p_size {st : Pr} {nx : Pr → Nat → Pr} {b : Nat} {tm : Pr → Int} {Ok : Pr → Prop} (W : Walks st nx b Ok) (h2 : 2 ≤ b) (h4 : b ≤ 4) (ht : ∀ s, Ok s → 0 ≤ tm s ∧ tm s ≤ 3) : tot (pR st nx b) + (pO st nx b tm).length ≤ 1000 := by
  cases hk : pairK st nx b with
  | false => rw [(p_no (tm := tm) hk).2.1, (p_no (tm := tm) hk).2.2]; simp [tot]
  | true =>
    rw [(p_yes (tm := tm) hk).2.1, (p_yes (tm := tm) hk).2.2]
    have hv := pair_valid W hk h2 h4 ht
    have h1 := seq_rows4 (seqB_yes hv)
    have h2 := tot_le4 _ h1.1
    omega
theorem getD_bd {out : List Int} (h : ∀ x ∈ out, 0 ≤ x ∧ x ≤ 3) (n : Nat) : 0 ≤ out.getD n 0 ∧ out.getD n 0 ≤ 3 := by
  rw [List.getD_eq_getElem?_getD]
  by_cases hn : n < out.length
  · rw [List.getElem?_eq_getElem hn]; exact h _ (List.getElem_mem _)
  · rw [List.getElem?_eq_none (by omega)]; decide
theorem cm_size (b b' : Int) (ra rb : List (List Int)) (oa ob : List Int) (how : Int) : tot (cmR b b' ra rb oa ob how) + (cmO b b' ra rb oa ob how).length ≤ 1000 := by
  cases hk : combOK b b' ra rb oa ob how with
  | false => rw [(cm_no hk).2.1, (cm_no hk).2.2.1]; simp [tot]
  | true =>
    rw [(cm_yes hk).2.1, (cm_yes hk).2.2.1]
    rw [combOK, Bool.and_eq_true, Bool.and_eq_true, Bool.and_eq_true, decide_eq_true_eq, decide_eq_true_eq] at hk
    obtain ⟨⟨h1, h2⟩, h3, h4⟩ := hk
    subst h3
    have va := seqB_out h1
    have vb := seqB_out h2
    exact p_size (walksC va vb) (by have := va.1; omega) (by have := va.2.1; omega) fun s _ => combW_bd (getD_bd va.2.2.2.2.2.2 _) (getD_bd vb.2.2.2.2.2.2 _)
open Seqs
set_option maxRecDepth 100000 in
set_option maxHeartbeats 4000000 in
theorem walk (w : World) (v0 : Value) (b0 : Int) (rows0 : List (List Int)) (out0 : List Int) (l0 : LiesS w v0 b0 rows0 out0) (v1 : Value) (b1 : Int) (rows1 : List (List Int)) (out1 : List Int) (l1 : LiesS w v1 b1 rows1 out1) (a2 : Int) (w2 : (Lit.int .i64 a2).wf = true) :
    Calls Try.prog 3 #[v0, v1, .int .i64 a2] w fun e w' => e = .returned (.bool true) ∧ Below w.heap.size w w' := by
  obtain ⟨an0, cn0, ao0, co0, rfl⟩ := l0.form
  have ARG0 := Lib.hid l0
  clear l0
  obtain ⟨an1, cn1, ao1, co1, rfl⟩ := l1.form
  have ARG1 := Lib.hid l1
  clear l1
  by_cases hs0 : (rows0.length + tot rows0 + out0.length) ≤ 1048576
  case neg =>
    have hq := szV_no (left := 1048576) (n := rows0.length + tot rows0 + out0.length) (by omega)
    have HQN := Lib.hid hq
    clear hq
    have HB_0 : Hid (Below w.heap.size w w) := Below.refl _ _
    go_enter Try.func3, Try.ntmps3
    go_wp2_with fail
    have bx1 : Below w.heap.size w (w.alloc (Obj.cells #[.int .i64 b0, .slice an0 rows0.length cn0, .slice ao0 out0.length co0] 25)) := (Below.refl _ _).alloc (Nat.le_refl _) _
    have cx1 := Cells3.new w 25 (.int .i64 b0) (.slice an0 rows0.length cn0) (.slice ao0 out0.length co0)
    have hz1 : (w.alloc (Obj.cells #[.int .i64 b0, .slice an0 rows0.length cn0, .slice ao0 out0.length co0] 25)).heap.size = w.heap.size + 1 := size_alloc' _ _
    obtain ⟨W1, hW1⟩ : ∃ W, W = (w.alloc (Obj.cells #[.int .i64 b0, .slice an0 rows0.length cn0, .slice ao0 out0.length co0] 25)) := ⟨_, rfl⟩
    rw [← hW1] at bx1 cx1 hz1 ⊢
    have HB_1 := Lib.hid (HB_0.out.trans (bx1.mono HB_0.out.size))
    have Z1 := Lib.hid (bx1.size)
    have CA0_1 := Lib.hid cx1
    have Z2 := Lib.hid hz1
    clear HB_0 bx1 hW1 cx1
    have bx2 : Below W1.heap.size W1 (W1.alloc (Obj.cells #[.int .i64 b1, .slice an1 rows1.length cn1, .slice ao1 out1.length co1] 25)) := (Below.refl _ _).alloc (Nat.le_refl _) _
    have cx2 := Cells3.new W1 25 (.int .i64 b1) (.slice an1 rows1.length cn1) (.slice ao1 out1.length co1)
    have hz2 : (W1.alloc (Obj.cells #[.int .i64 b1, .slice an1 rows1.length cn1, .slice ao1 out1.length co1] 25)).heap.size = W1.heap.size + 1 := size_alloc' _ _
    obtain ⟨W2, hW2⟩ : ∃ W, W = (W1.alloc (Obj.cells #[.int .i64 b1, .slice an1 rows1.length cn1, .slice ao1 out1.length co1] 25)) := ⟨_, rfl⟩
    rw [← hW2] at bx2 cx2 hz2 ⊢
    rw [hz1] at cx2
    have HB_2 := Lib.hid (HB_1.out.trans (bx2.mono HB_1.out.size))
    have CA0_2 := Lib.hid (CA0_1.out.below bx2)
    have Z3 := Lib.hid (bx2.size)
    have CA1_2 := Lib.hid cx2
    have Z4 := Lib.hid hz2
    clear CA0_1 HB_1 bx2 hW2 cx2
    clear hz2 hz1
    refine (sz _ b0 rows0 out0 1048576 _ (ARG0.out.below HB_2.out) (by omega) (by omega)).mono ?_
    rintro e W3 ⟨rfl, fb3⟩
    have HB_3 := Lib.hid (HB_2.out.trans (fb3.mono HB_2.out.size))
    have CA0_3 := Lib.hid (CA0_2.out.below fb3)
    have CA1_3 := Lib.hid (CA1_2.out.below fb3)
    have Z5 := Lib.hid (fb3.size)
    clear CA0_2 CA1_2 HB_2 fb3
    rw [HQN.out]
    go_wp2
    go_ret
    exact ⟨rfl, HB_3.out⟩
  obtain ⟨q0, hq0⟩ : ∃ q : Nat, szV 1048576 (rows0.length + tot rows0 + out0.length) = (q : Int) := ⟨(1048576 - ((rows0.length + tot rows0 + out0.length : Nat) : Int)).toNat, by rw [szV_yes (by omega)]; omega⟩
  have hql0 : (q0 : Int) = 1048576 - ((rows0.length + tot rows0 + out0.length : Nat) : Int) := by rw [szV_yes (by omega)] at hq0; omega
  have HQ0 := Lib.hid hq0
  have HQL0 : (q0 : Int) ≤ 1048576 := by omega
  have hqd0 := decide_eq_false (show ¬ (q0 : Int) < 0 by omega)
  clear hq0
  by_cases hs1 : (rows0.length + tot rows0 + out0.length) + (rows1.length + tot rows1 + out1.length) ≤ 1048576
  case neg =>
    have hq := szV_no (left := (q0 : Int)) (n := rows1.length + tot rows1 + out1.length) (by omega)
    have HQN := Lib.hid hq
    clear hq hql0
    have HB_0 : Hid (Below w.heap.size w w) := Below.refl _ _
    go_enter Try.func3, Try.ntmps3
    go_wp2_with fail
    have bx1 : Below w.heap.size w (w.alloc (Obj.cells #[.int .i64 b0, .slice an0 rows0.length cn0, .slice ao0 out0.length co0] 25)) := (Below.refl _ _).alloc (Nat.le_refl _) _
    have cx1 := Cells3.new w 25 (.int .i64 b0) (.slice an0 rows0.length cn0) (.slice ao0 out0.length co0)
    have hz1 : (w.alloc (Obj.cells #[.int .i64 b0, .slice an0 rows0.length cn0, .slice ao0 out0.length co0] 25)).heap.size = w.heap.size + 1 := size_alloc' _ _
    obtain ⟨W1, hW1⟩ : ∃ W, W = (w.alloc (Obj.cells #[.int .i64 b0, .slice an0 rows0.length cn0, .slice ao0 out0.length co0] 25)) := ⟨_, rfl⟩
    rw [← hW1] at bx1 cx1 hz1 ⊢
    have HB_1 := Lib.hid (HB_0.out.trans (bx1.mono HB_0.out.size))
    have Z1 := Lib.hid (bx1.size)
    have CA0_1 := Lib.hid cx1
    have Z2 := Lib.hid hz1
    clear HB_0 bx1 hW1 cx1
    have bx2 : Below W1.heap.size W1 (W1.alloc (Obj.cells #[.int .i64 b1, .slice an1 rows1.length cn1, .slice ao1 out1.length co1] 25)) := (Below.refl _ _).alloc (Nat.le_refl _) _
    have cx2 := Cells3.new W1 25 (.int .i64 b1) (.slice an1 rows1.length cn1) (.slice ao1 out1.length co1)
    have hz2 : (W1.alloc (Obj.cells #[.int .i64 b1, .slice an1 rows1.length cn1, .slice ao1 out1.length co1] 25)).heap.size = W1.heap.size + 1 := size_alloc' _ _
    obtain ⟨W2, hW2⟩ : ∃ W, W = (W1.alloc (Obj.cells #[.int .i64 b1, .slice an1 rows1.length cn1, .slice ao1 out1.length co1] 25)) := ⟨_, rfl⟩
    rw [← hW2] at bx2 cx2 hz2 ⊢
    rw [hz1] at cx2
    have HB_2 := Lib.hid (HB_1.out.trans (bx2.mono HB_1.out.size))
    have CA0_2 := Lib.hid (CA0_1.out.below bx2)
    have Z3 := Lib.hid (bx2.size)
    have CA1_2 := Lib.hid cx2
    have Z4 := Lib.hid hz2
    clear CA0_1 HB_1 bx2 hW2 cx2
    clear hz2 hz1
    refine (sz _ b0 rows0 out0 1048576 _ (ARG0.out.below HB_2.out) (by omega) (by omega)).mono ?_
    rintro e W3 ⟨rfl, fb3⟩
    have HB_3 := Lib.hid (HB_2.out.trans (fb3.mono HB_2.out.size))
    have CA0_3 := Lib.hid (CA0_2.out.below fb3)
    have CA1_3 := Lib.hid (CA1_2.out.below fb3)
    have Z5 := Lib.hid (fb3.size)
    clear CA0_2 CA1_2 HB_2 fb3
    rw [HQ0.out]
    have kA00 := CA0_3.out.c0
    have kA01 := CA0_3.out.c1
    have kA02 := CA0_3.out.c2
    have kA10 := CA1_3.out.c0
    have kA11 := CA1_3.out.c1
    have kA12 := CA1_3.out.c2
    go_wp2_with fail
    clear kA00 kA01 kA02 kA10 kA11 kA12
    refine (sz _ b1 rows1 out1 (q0 : Int) _ (ARG1.out.below HB_3.out) (by omega) (by omega)).mono ?_
    rintro e W4 ⟨rfl, fb4⟩
    have HB_4 := Lib.hid (HB_3.out.trans (fb4.mono HB_3.out.size))
    have CA0_4 := Lib.hid (CA0_3.out.below fb4)
    have CA1_4 := Lib.hid (CA1_3.out.below fb4)
    have Z6 := Lib.hid (fb4.size)
    clear CA0_3 CA1_3 HB_3 fb4
    rw [HQN.out]
    go_wp2
    go_ret
    exact ⟨rfl, HB_4.out⟩
  obtain ⟨q1, hq1⟩ : ∃ q : Nat, szV (q0 : Int) (rows1.length + tot rows1 + out1.length) = (q : Int) := ⟨((q0 : Int) - ((rows1.length + tot rows1 + out1.length : Nat) : Int)).toNat, by rw [szV_yes (by omega)]; omega⟩
  have hql1 : (q1 : Int) = (q0 : Int) - ((rows1.length + tot rows1 + out1.length : Nat) : Int) := by rw [szV_yes (by omega)] at hq1; omega
  have HQ1 := Lib.hid hq1
  have HQL1 : (q1 : Int) ≤ 1048576 := by omega
  have hqd1 := decide_eq_false (show ¬ (q1 : Int) < 0 by omega)
  clear hq1
  have hz0 : rows0.length + tot rows0 + out0.length ≤ 1048576 := by omega
  obtain ⟨T0, hT0⟩ : ∃ T, T = tot rows0 + out0.length := ⟨_, rfl⟩
  have HT0 := Lib.hid hT0
  have hTl0 : T0 ≤ 1048576 := by omega
  have hTd0 := decide_eq_false (show ¬ (1 : Int) + (T0 : Int) < 0 by omega)
  clear hT0
  have hz1 : rows1.length + tot rows1 + out1.length ≤ 1048576 := by omega
  obtain ⟨T1, hT1⟩ : ∃ T, T = tot rows1 + out1.length := ⟨_, rfl⟩
  have HT1 := Lib.hid hT1
  have hTl1 : T1 ≤ 1048576 := by omega
  have hTd1 := decide_eq_false (show ¬ (1 : Int) + (T1 : Int) < 0 by omega)
  clear hT1
  clear hql0
  clear hql1
  clear hs0 hs1
  have CS := Lib.hid (fun (W : World) (u0 : Value) (l0 : LiesS W u0 b0 rows0 out0) (u1 : Value) (l1 : LiesS W u1 b1 rows1 out1) => Comb.spec_comb u0 u1 b0 b1 rows0 rows1 out0 out1 a2 W l0 l1)
  have CI := Lib.hid (fun (W : World) (u0 : Value) (l0 : LiesS W u0 b0 rows0 out0) (u1 : Value) (l1 : LiesS W u1 b1 rows1 out1) => Comb.impl_comb u0 u1 b0 b1 rows0 rows1 out0 out1 a2 W l0 l1)
  obtain ⟨yb, hyb⟩ : ∃ y, y = Comb.cmB b0 b1 rows0 rows1 out0 out1 a2 := ⟨_, rfl⟩
  obtain ⟨yr, hyr⟩ : ∃ y, y = Comb.cmR b0 b1 rows0 rows1 out0 out1 a2 := ⟨_, rfl⟩
  obtain ⟨yo, hyo⟩ : ∃ y, y = Comb.cmO b0 b1 rows0 rows1 out0 out1 a2 := ⟨_, rfl⟩
  obtain ⟨yk, hyk⟩ : ∃ y, y = Comb.cmK b0 b1 rows0 rows1 out0 out1 a2 := ⟨_, rfl⟩
  have hyl : tot yr + yo.length ≤ 1000 := by rw [hyr, hyo]; exact cm_size _ _ _ _ _ _ _
  rw [← hyb, ← hyr, ← hyo, ← hyk] at CS CI
  clear hyb hyr hyo hyk
  obtain ⟨Ty, hTy⟩ : ∃ T, T = tot yr + yo.length := ⟨_, rfl⟩
  have HTy := Lib.hid hTy
  have hTyl : Ty ≤ 1000 := by omega
  have hTyd := decide_eq_false (show ¬ (1 : Int) + (Ty : Int) < 0 by omega)
  have hkk : (yk != yk) = false := by simp
  clear hTy hyl
  have HB_0 : Hid (Below w.heap.size w w) := Below.refl _ _
  go_enter Try.func3, Try.ntmps3
  go_wp2_with fail
  have bx1 : Below w.heap.size w (w.alloc (Obj.cells #[.int .i64 b0, .slice an0 rows0.length cn0, .slice ao0 out0.length co0] 25)) := (Below.refl _ _).alloc (Nat.le_refl _) _
  have cx1 := Cells3.new w 25 (.int .i64 b0) (.slice an0 rows0.length cn0) (.slice ao0 out0.length co0)
  have hz1 : (w.alloc (Obj.cells #[.int .i64 b0, .slice an0 rows0.length cn0, .slice ao0 out0.length co0] 25)).heap.size = w.heap.size + 1 := size_alloc' _ _
  obtain ⟨W1, hW1⟩ : ∃ W, W = (w.alloc (Obj.cells #[.int .i64 b0, .slice an0 rows0.length cn0, .slice ao0 out0.length co0] 25)) := ⟨_, rfl⟩
  rw [← hW1] at bx1 cx1 hz1 ⊢
  have HB_1 := Lib.hid (HB_0.out.trans (bx1.mono HB_0.out.size))
  have Z1 := Lib.hid (bx1.size)
  have CA0_1 := Lib.hid cx1
  have Z2 := Lib.hid hz1
  clear HB_0 bx1 hW1 cx1
  have bx2 : Below W1.heap.size W1 (W1.alloc (Obj.cells #[.int .i64 b1, .slice an1 rows1.length cn1, .slice ao1 out1.length co1] 25)) := (Below.refl _ _).alloc (Nat.le_refl _) _
  have cx2 := Cells3.new W1 25 (.int .i64 b1) (.slice an1 rows1.length cn1) (.slice ao1 out1.length co1)
  have hz2 : (W1.alloc (Obj.cells #[.int .i64 b1, .slice an1 rows1.length cn1, .slice ao1 out1.length co1] 25)).heap.size = W1.heap.size + 1 := size_alloc' _ _
  obtain ⟨W2, hW2⟩ : ∃ W, W = (W1.alloc (Obj.cells #[.int .i64 b1, .slice an1 rows1.length cn1, .slice ao1 out1.length co1] 25)) := ⟨_, rfl⟩
  rw [← hW2] at bx2 cx2 hz2 ⊢
  rw [hz1] at cx2
  have HB_2 := Lib.hid (HB_1.out.trans (bx2.mono HB_1.out.size))
  have CA0_2 := Lib.hid (CA0_1.out.below bx2)
  have Z3 := Lib.hid (bx2.size)
  have CA1_2 := Lib.hid cx2
  have Z4 := Lib.hid hz2
  clear CA0_1 HB_1 bx2 hW2 cx2
  clear hz2 hz1
  refine (sz _ b0 rows0 out0 1048576 _ (ARG0.out.below HB_2.out) (by omega) (by omega)).mono ?_
  rintro e W3 ⟨rfl, fb3⟩
  have HB_3 := Lib.hid (HB_2.out.trans (fb3.mono HB_2.out.size))
  have CA0_3 := Lib.hid (CA0_2.out.below fb3)
  have CA1_3 := Lib.hid (CA1_2.out.below fb3)
  have Z5 := Lib.hid (fb3.size)
  clear CA0_2 CA1_2 HB_2 fb3
  rw [HQ0.out]
  have kA00 := CA0_3.out.c0
  have kA01 := CA0_3.out.c1
  have kA02 := CA0_3.out.c2
  have kA10 := CA1_3.out.c0
  have kA11 := CA1_3.out.c1
  have kA12 := CA1_3.out.c2
  go_wp2_with fail
  clear kA00 kA01 kA02 kA10 kA11 kA12
  refine (sz _ b1 rows1 out1 (q0 : Int) _ (ARG1.out.below HB_3.out) (by omega) (by omega)).mono ?_
  rintro e W4 ⟨rfl, fb4⟩
  have HB_4 := Lib.hid (HB_3.out.trans (fb4.mono HB_3.out.size))
  have CA0_4 := Lib.hid (CA0_3.out.below fb4)
  have CA1_4 := Lib.hid (CA1_3.out.below fb4)
  have Z6 := Lib.hid (fb4.size)
  clear CA0_3 CA1_3 HB_3 fb4
  rw [HQ1.out]
  have kA00 := CA0_4.out.c0
  have kA01 := CA0_4.out.c1
  have kA02 := CA0_4.out.c2
  have kA10 := CA1_4.out.c0
  have kA11 := CA1_4.out.c1
  have kA12 := CA1_4.out.c2
  go_wp2_with fail
  clear kA00 kA01 kA02 kA10 kA11 kA12
  go_cut [8, 9] (fun s s' wx => ∃ (B : Nat) (ap bp : Option Addr) (cp dp : Nat), s = .pointer (some ⟨B, 0, none⟩) ∧ s' = .bool yk ∧ Hid (W4.heap.size ≤ B) ∧ Hid (Cells3 wx B 27 (.int .i64 yb) (.slice ap yr.length cp) (.slice bp yo.length dp)) ∧ Hid (OwnS wx W4.heap.size wx.heap.size (.agg #[.int .i64 yb, .slice ap yr.length cp, .slice bp yo.length dp]) yb yr yo) ∧ Hid (Below W4.heap.size W4 wx))
  case first =>
    have fb0 := below_drew' W4
    refine wp_region_held_drew (S := fun w' => w'.cell? ⟨w.heap.size, 0, none⟩ = some (.int .i64 b0) ∧ w'.cell? ⟨w.heap.size, 1, none⟩ = some (.slice an0 rows0.length cn0) ∧ w'.cell? ⟨w.heap.size, 2, none⟩ = some (.slice ao0 out0.length co0) ∧ w'.cell? ⟨w.heap.size + 1, 0, none⟩ = some (.int .i64 b1) ∧ w'.cell? ⟨w.heap.size + 1, 1, none⟩ = some (.slice an1 rows1.length cn1) ∧ w'.cell? ⟨w.heap.size + 1, 2, none⟩ = some (.slice ao1 out1.length co1)) (by kernel_rfl) ⟨(CA0_4.out.below fb0).c0, (CA0_4.out.below fb0).c1, (CA0_4.out.below fb0).c2, (CA1_4.out.below fb0).c0, (CA1_4.out.below fb0).c1, (CA1_4.out.below fb0).c2⟩ (fun hHeld => ?_)
    refine wpAnyH_take (i := 0) (oi := { dst := some 30, op := Op.load 25 (Operand.tmp 3), type := 25, pos := "exact.go:1800", after := #[], guard := none }) (v := ?_) rfl (by kernel_rfl) (by kernel_rfl) (by kernel_rfl) (fun _ _ _ h => h) (Or.inl ⟨by rfl, ?_⟩) (by assumption) ?_
    rotate_left
    focus (intro w' hSw; (try dsimp only at hSw); first | (go_simp; done) | (go_simp; with_reducible rfl))
    try simp only [Act.put, List.setIfInBounds_toArray, List.set_cons_zero, List.set_cons_succ]
    refine wpAnyH_take (i := 2) (oi := { dst := some 32, op := Op.load 25 (Operand.tmp 4), type := 25, pos := "exact.go:1800", after := #[], guard := none }) (v := ?_) rfl (by kernel_rfl) (by kernel_rfl) (by kernel_rfl) (fun _ _ _ h => h) (Or.inl ⟨by rfl, ?_⟩) (by assumption) ?_
    rotate_left
    focus (intro w' hSw; (try dsimp only at hSw); first | (go_simp; done) | (go_simp; with_reducible rfl))
    try simp only [Act.put, List.setIfInBounds_toArray, List.set_cons_zero, List.set_cons_succ]
    refine wpAnyH_take (i := 4) (oi := { dst := some 34, op := Op.move (Operand.tmp 2), type := 3, pos := "exact.go:1800", after := #[], guard := none }) (v := ?_) rfl (by kernel_rfl) (by kernel_rfl) (by kernel_rfl) (fun _ _ _ h => h) (Or.inl ⟨by rfl, ?_⟩) (by assumption) ?_
    rotate_left
    focus (intro w' hSw; (try dsimp only at hSw); first | (go_simp; done) | (go_simp; with_reducible rfl))
    try simp only [Act.put, List.setIfInBounds_toArray, List.set_cons_zero, List.set_cons_succ]
    refine wpAnyH_ready (rs := [1, 9]) (by kernel_rfl) (by simp) ?_
    refine AllReadyH.cons (o := { dst := some 31, op := Op.call { callee := Callee.value (Operand.func 12), args := #[Operand.tmp 30], argTypes := #[25] }, type := 27, pos := "exact.go:1800", after := #[{ on := 0, ground := Ground.data }], guard := none }) rfl (fun K hK => ?_) (AllReadyH.cons (o := { dst := some 8, op := Op.alloc 27, type := 0, pos := "exact.go:1800", after := #[], guard := none }) rfl (fun K hK => ?_) AllReadyH.nil)
    · go_simp
      go_at_call 12
      (with_reducible refine (toS _ b0 rows0 out0 _ (ARG0.out.below (HB_4.out.trans (fb0.mono HB_4.out.size))) hz0).mono ?_)
      rintro e V0 ⟨v0, rfl, h0, g0⟩
      have fb1 := fb0.trans (g0.mono fb0.size)
      have la0 := h0.lies
      refine hK.out _ _ ⟨(CA0_4.out.below fb1).c0, (CA0_4.out.below fb1).c1, (CA0_4.out.below fb1).c2, (CA1_4.out.below fb1).c0, (CA1_4.out.below fb1).c1, (CA1_4.out.below fb1).c2⟩ (fun hHeld => ?_)
      clear hK K
      try simp only [Act.put, List.setIfInBounds_toArray, List.set_cons_zero, List.set_cons_succ]
      refine wpAnyH_ready (rs := [3, 9]) (by kernel_rfl) (by simp) ?_
      refine AllReadyH.cons (o := { dst := some 33, op := Op.call { callee := Callee.value (Operand.func 12), args := #[Operand.tmp 32], argTypes := #[25] }, type := 27, pos := "exact.go:1800", after := #[{ on := 2, ground := Ground.data }, { on := 1, ground := Ground.chain }], guard := none }) rfl (fun K hK => ?_) (AllReadyH.cons (o := { dst := some 8, op := Op.alloc 27, type := 0, pos := "exact.go:1800", after := #[], guard := none }) rfl (fun K hK => ?_) AllReadyH.nil)
      · go_simp
        go_at_call 12
        (with_reducible refine (toS _ b1 rows1 out1 _ (ARG1.out.below (HB_4.out.trans (fb1.mono HB_4.out.size))) hz1).mono ?_)
        rintro e V1 ⟨v1, rfl, h1, g1⟩
        have fb2 := fb1.trans (g1.mono fb1.size)
        have la1 := la0.below g1
        have lb1 := h1.lies
        refine hK.out _ _ ⟨(CA0_4.out.below fb2).c0, (CA0_4.out.below fb2).c1, (CA0_4.out.below fb2).c2, (CA1_4.out.below fb2).c0, (CA1_4.out.below fb2).c1, (CA1_4.out.below fb2).c2⟩ (fun hHeld => ?_)
        clear hK K
        try simp only [Act.put, List.setIfInBounds_toArray, List.set_cons_zero, List.set_cons_succ]
        refine wpAnyH_ready (rs := [5, 9]) (by kernel_rfl) (by simp) ?_
        refine AllReadyH.cons (o := { dst := some 35, op := Op.call { callee := Callee.value (Operand.func 11), args := #[Operand.tmp 31, Operand.tmp 33, Operand.tmp 34], argTypes := #[27, 27, 3] }, type := 28, pos := "exact.go:1800", after := #[{ on := 1, ground := Ground.data }, { on := 3, ground := Ground.data }, { on := 4, ground := Ground.data }, { on := 3, ground := Ground.chain }], guard := none }) rfl (fun K hK => ?_) (AllReadyH.cons (o := { dst := some 8, op := Op.alloc 27, type := 0, pos := "exact.go:1800", after := #[], guard := none }) rfl (fun K hK => ?_) AllReadyH.nil)
        · go_simp
          go_at_call 11
          (with_reducible refine (CS.out _ _ la1 _ lb1).mono ?_)
          rintro e V2 ⟨v2, rfl, h2, g2⟩
          obtain ⟨ap, cp, bp, dp, rfl⟩ := h2.form
          have fb3 := fb2.trans (g2.mono fb2.size)
          have la2 := la1.below g2
          have lb2 := lb1.below g2
          refine hK.out _ _ ⟨(CA0_4.out.below fb3).c0, (CA0_4.out.below fb3).c1, (CA0_4.out.below fb3).c2, (CA1_4.out.below fb3).c0, (CA1_4.out.below fb3).c1, (CA1_4.out.below fb3).c2⟩ (fun hHeld => ?_)
          clear hK K
          try simp only [Act.put, List.setIfInBounds_toArray, List.set_cons_zero, List.set_cons_succ]
          refine wpAnyH_take (i := 6) (oi := { dst := some 29, op := Op.move (Operand.tmp 35), type := 28, pos := "exact.go:1800", after := #[{ on := 5, ground := Ground.data }], guard := none }) (v := ?_) rfl (by kernel_rfl) (by kernel_rfl) (by kernel_rfl) (fun _ _ _ h => h) (Or.inl ⟨by rfl, ?_⟩) (by assumption) ?_
          rotate_left
          focus (intro w' hSw; (try dsimp only at hSw); first | (go_simp; done) | (go_simp; with_reducible rfl))
          try simp only [Act.put, List.setIfInBounds_toArray, List.set_cons_zero, List.set_cons_succ]
          refine wpAnyH_take (i := 7) (oi := { dst := some 36, op := Op.extract (Operand.tmp 29) 0, type := 27, pos := "exact.go:1800", after := #[{ on := 6, ground := Ground.data }], guard := none }) (v := ?_) rfl (by kernel_rfl) (by kernel_rfl) (by kernel_rfl) (fun _ _ _ h => h) (Or.inl ⟨by rfl, ?_⟩) (by assumption) ?_
          rotate_left
          focus (intro w' hSw; (try dsimp only at hSw); first | (go_simp; done) | (go_simp; with_reducible rfl))
          try simp only [Act.put, List.setIfInBounds_toArray, List.set_cons_zero, List.set_cons_succ]
          refine wpAnyH_take (i := 8) (oi := { dst := some 37, op := Op.extract (Operand.tmp 29) 1, type := 4, pos := "exact.go:1800", after := #[{ on := 6, ground := Ground.data }, { on := 10, ground := Ground.gcOnly Departure.lateStores }], guard := none }) (v := ?_) rfl (by kernel_rfl) (by kernel_rfl) (by kernel_rfl) (fun _ _ _ h => h) (Or.inl ⟨by rfl, ?_⟩) (by assumption) ?_
          rotate_left
          focus (intro w' hSw; (try dsimp only at hSw); first | (go_simp; done) | (go_simp; with_reducible rfl))
          try simp only [Act.put, List.setIfInBounds_toArray, List.set_cons_zero, List.set_cons_succ]
          refine wpAnyH_ready (rs := [9]) (by kernel_rfl) (by simp) ?_
          refine AllReadyH.cons (o := { dst := some 8, op := Op.alloc 27, type := 0, pos := "exact.go:1800", after := #[], guard := none }) rfl (fun K hK => ?_) AllReadyH.nil
          · go_simp
            have g3 : Below V2.heap.size V2 (V2.alloc (Obj.cells #[Value.int .i64 0, Value.slice none 0 0, Value.slice none 0 0] 27)) := (Below.refl _ _).alloc (Nat.le_refl _) _
            have cz3 := Cells3.new V2 27 (.int .i64 0) (.slice none 0 0) (.slice none 0 0)
            have hb3 : W4.heap.size ≤ V2.heap.size := fb3.size
            obtain ⟨Bz, hBz⟩ : ∃ z, z = V2.heap.size := ⟨_, rfl⟩
            rw [← hBz] at hb3 cz3 ⊢
            obtain ⟨V3, hW3⟩ : ∃ W, W = V2.alloc (Obj.cells #[Value.int .i64 0, Value.slice none 0 0, Value.slice none 0 0] 27) := ⟨_, rfl⟩
            rw [← hW3] at g3 cz3 ⊢
            have hzw : Bz < V3.heap.size := cz3.lt
            have hzo := Lib.hid (show Bz = V2.heap.size from hBz)
            clear hW3 hBz
            have fb4 := fb3.trans (g3.mono fb3.size)
            have la3 := la2.below g3
            have lb3 := lb2.below g3
            have hp3 := h2.below g3
            refine hK.out _ _ ⟨(CA0_4.out.below fb4).c0, (CA0_4.out.below fb4).c1, (CA0_4.out.below fb4).c2, (CA1_4.out.below fb4).c0, (CA1_4.out.below fb4).c1, (CA1_4.out.below fb4).c2⟩ (fun hHeld => ?_)
            clear hK K
            try simp only [Act.put, List.setIfInBounds_toArray, List.set_cons_zero, List.set_cons_succ]
            refine wpAnyH_ready (rs := [10]) (by kernel_rfl) (by simp) ?_
            refine AllReadyH.cons (o := { dst := none, op := Op.store 27 (Operand.tmp 8) (Operand.tmp 36), type := 0, pos := "exact.go:1800", after := #[{ on := 9, ground := Ground.data }, { on := 7, ground := Ground.data }, { on := 5, ground := Ground.chain }, { on := 0, ground := Ground.phase }, { on := 1, ground := Ground.phase }, { on := 2, ground := Ground.phase }, { on := 3, ground := Ground.phase }, { on := 4, ground := Ground.phase }, { on := 5, ground := Ground.phase }, { on := 6, ground := Ground.phase }, { on := 7, ground := Ground.phase }, { on := 8, ground := Ground.textOnly Departure.lateStores }, { on := 9, ground := Ground.phase }], guard := none }) rfl (fun K hK => ?_) AllReadyH.nil
            obtain ⟨z0, z1, z2⟩ := (⟨cz3.c0, cz3.c1, cz3.c2⟩ : _ ∧ _ ∧ _)
            have z3 := cz3.f
            go_simp
            have c3 := ((cz3.set0 (.int .i64 yb)).set1 (.slice ap yr.length cp)).set2 (.slice bp yo.length dp)
            have fz : Below W4.heap.size W4 (((V3.setCell ⟨Bz, 0, none⟩ (.int .i64 yb)).setCell ⟨Bz, 1, none⟩ (.slice ap yr.length cp)).setCell ⟨Bz, 2, none⟩ (.slice bp yo.length dp)) := ((fb4.setCell hb3 _).setCell hb3 _).setCell hb3 _
            have hT : ∀ (i : Nat) (u : Value) (W : World), Plain.Touch Bz (Bz + 1) W (W.setCell ⟨Bz, i, none⟩ u) := fun i u W => Plain.Touch.of_set (a := ⟨Bz, i, none⟩) u (Nat.le_refl _) (Nat.lt_succ_self _)
            have hq := own_wide ((hp3.touch (((hT 0 (.int .i64 yb) V3).trans (hT 1 (.slice ap yr.length cp) _)).trans (hT 2 (.slice bp yo.length dp) _)) (.inl (Nat.le_of_eq hzo.out.symm))).lower fb2.size) (hi' := V3.heap.size) g3.size (by rw [size_setCell', size_setCell', size_setCell']; exact Nat.le_refl _)
            obtain ⟨Wz, hWz⟩ : ∃ W, W = (((V3.setCell ⟨Bz, 0, none⟩ (.int .i64 yb)).setCell ⟨Bz, 1, none⟩ (.slice ap yr.length cp)).setCell ⟨Bz, 2, none⟩ (.slice bp yo.length dp)) := ⟨_, rfl⟩
            have hsz : V3.heap.size = Wz.heap.size := by rw [hWz, size_setCell', size_setCell', size_setCell']
            rw [← hWz] at c3 fz hq ⊢
            rw [hsz] at hq
            clear hWz hsz hT z0 z1 z2 z3
            refine hK.out _ _ ⟨(CA0_4.out.below fz).c0, (CA0_4.out.below fz).c1, (CA0_4.out.below fz).c2, (CA1_4.out.below fz).c0, (CA1_4.out.below fz).c1, (CA1_4.out.below fz).c2⟩ (fun hHeld => ?_)
            clear hK K
            try simp only [Act.put, List.setIfInBounds_toArray, List.set_cons_zero, List.set_cons_succ]
            skip
            refine wpAnyH_take (i := 11) (oi := { dst := some 9, op := Op.assign (Operand.tmp 37), type := 4, pos := "exact.go:1800", after := #[{ on := 8, ground := Ground.data }, { on := 10, ground := Ground.chain }, { on := 0, ground := Ground.phase }, { on := 1, ground := Ground.phase }, { on := 2, ground := Ground.phase }, { on := 3, ground := Ground.phase }, { on := 4, ground := Ground.phase }, { on := 5, ground := Ground.phase }, { on := 6, ground := Ground.phase }, { on := 7, ground := Ground.phase }, { on := 8, ground := Ground.phase }, { on := 9, ground := Ground.phase }, { on := 10, ground := Ground.phase }], guard := none }) (v := ?_) rfl (by kernel_rfl) (by kernel_rfl) (by kernel_rfl) (fun _ _ _ h => h) (Or.inl ⟨by rfl, ?_⟩) (by assumption) ?_
            rotate_left
            focus (intro w' hSw; (try dsimp only at hSw); first | (go_simp; done) | (go_simp; with_reducible rfl))
            try simp only [Act.put, List.setIfInBounds_toArray, List.set_cons_zero, List.set_cons_succ]
            refine wpAnyH_done (by kernel_rfl) ?_ _
            go_wp2_with fail
            go_meet
            exact ⟨_, _, _, _, _, rfl, rfl, hb3, c3, hq, fz⟩
        · go_simp
          have g5 : Below V1.heap.size V1 (V1.alloc (Obj.cells #[Value.int .i64 0, Value.slice none 0 0, Value.slice none 0 0] 27)) := (Below.refl _ _).alloc (Nat.le_refl _) _
          have cz5 := Cells3.new V1 27 (.int .i64 0) (.slice none 0 0) (.slice none 0 0)
          have hb5 : W4.heap.size ≤ V1.heap.size := fb2.size
          obtain ⟨Bz, hBz⟩ : ∃ z, z = V1.heap.size := ⟨_, rfl⟩
          rw [← hBz] at hb5 cz5 ⊢
          obtain ⟨V5, hW5⟩ : ∃ W, W = V1.alloc (Obj.cells #[Value.int .i64 0, Value.slice none 0 0, Value.slice none 0 0] 27) := ⟨_, rfl⟩
          rw [← hW5] at g5 cz5 ⊢
          have hzw : Bz < V5.heap.size := cz5.lt
          have hzo := Lib.hid (show Bz = V1.heap.size from hBz)
          clear hW5 hBz
          have fb6 := fb2.trans (g5.mono fb2.size)
          have la5 := la1.below g5
          have lb5 := lb1.below g5
          refine hK.out _ _ ⟨(CA0_4.out.below fb6).c0, (CA0_4.out.below fb6).c1, (CA0_4.out.below fb6).c2, (CA1_4.out.below fb6).c0, (CA1_4.out.below fb6).c1, (CA1_4.out.below fb6).c2⟩ (fun hHeld => ?_)
          clear hK K
          try simp only [Act.put, List.setIfInBounds_toArray, List.set_cons_zero, List.set_cons_succ]
          refine wpAnyH_ready (rs := [5]) (by kernel_rfl) (by simp) ?_
          refine AllReadyH.cons (o := { dst := some 35, op := Op.call { callee := Callee.value (Operand.func 11), args := #[Operand.tmp 31, Operand.tmp 33, Operand.tmp 34], argTypes := #[27, 27, 3] }, type := 28, pos := "exact.go:1800", after := #[{ on := 1, ground := Ground.data }, { on := 3, ground := Ground.data }, { on := 4, ground := Ground.data }, { on := 3, ground := Ground.chain }], guard := none }) rfl (fun K hK => ?_) AllReadyH.nil
          · go_simp
            go_at_call 11
            (with_reducible refine (CS.out _ _ la5 _ lb5).mono ?_)
            rintro e V6 ⟨v6, rfl, h6, g6⟩
            obtain ⟨ap, cp, bp, dp, rfl⟩ := h6.form
            have fb7 := fb6.trans (g6.mono fb6.size)
            have la6 := la5.below g6
            have lb6 := lb5.below g6
            have cz6 := cz5.below g6
            have hzl6 : Bz < V5.heap.size := cz5.lt
            refine hK.out _ _ ⟨(CA0_4.out.below fb7).c0, (CA0_4.out.below fb7).c1, (CA0_4.out.below fb7).c2, (CA1_4.out.below fb7).c0, (CA1_4.out.below fb7).c1, (CA1_4.out.below fb7).c2⟩ (fun hHeld => ?_)
            clear hK K
            try simp only [Act.put, List.setIfInBounds_toArray, List.set_cons_zero, List.set_cons_succ]
            refine wpAnyH_take (i := 6) (oi := { dst := some 29, op := Op.move (Operand.tmp 35), type := 28, pos := "exact.go:1800", after := #[{ on := 5, ground := Ground.data }], guard := none }) (v := ?_) rfl (by kernel_rfl) (by kernel_rfl) (by kernel_rfl) (fun _ _ _ h => h) (Or.inl ⟨by rfl, ?_⟩) (by assumption) ?_
            rotate_left
            focus (intro w' hSw; (try dsimp only at hSw); first | (go_simp; done) | (go_simp; with_reducible rfl))
            try simp only [Act.put, List.setIfInBounds_toArray, List.set_cons_zero, List.set_cons_succ]
            refine wpAnyH_take (i := 7) (oi := { dst := some 36, op := Op.extract (Operand.tmp 29) 0, type := 27, pos := "exact.go:1800", after := #[{ on := 6, ground := Ground.data }], guard := none }) (v := ?_) rfl (by kernel_rfl) (by kernel_rfl) (by kernel_rfl) (fun _ _ _ h => h) (Or.inl ⟨by rfl, ?_⟩) (by assumption) ?_
            rotate_left
            focus (intro w' hSw; (try dsimp only at hSw); first | (go_simp; done) | (go_simp; with_reducible rfl))
            try simp only [Act.put, List.setIfInBounds_toArray, List.set_cons_zero, List.set_cons_succ]
            refine wpAnyH_take (i := 8) (oi := { dst := some 37, op := Op.extract (Operand.tmp 29) 1, type := 4, pos := "exact.go:1800", after := #[{ on := 6, ground := Ground.data }, { on := 10, ground := Ground.gcOnly Departure.lateStores }], guard := none }) (v := ?_) rfl (by kernel_rfl) (by kernel_rfl) (by kernel_rfl) (fun _ _ _ h => h) (Or.inl ⟨by rfl, ?_⟩) (by assumption) ?_
            rotate_left
            focus (intro w' hSw; (try dsimp only at hSw); first | (go_simp; done) | (go_simp; with_reducible rfl))
            try simp only [Act.put, List.setIfInBounds_toArray, List.set_cons_zero, List.set_cons_succ]
            refine wpAnyH_ready (rs := [10]) (by kernel_rfl) (by simp) ?_
            refine AllReadyH.cons (o := { dst := none, op := Op.store 27 (Operand.tmp 8) (Operand.tmp 36), type := 0, pos := "exact.go:1800", after := #[{ on := 9, ground := Ground.data }, { on := 7, ground := Ground.data }, { on := 5, ground := Ground.chain }, { on := 0, ground := Ground.phase }, { on := 1, ground := Ground.phase }, { on := 2, ground := Ground.phase }, { on := 3, ground := Ground.phase }, { on := 4, ground := Ground.phase }, { on := 5, ground := Ground.phase }, { on := 6, ground := Ground.phase }, { on := 7, ground := Ground.phase }, { on := 8, ground := Ground.textOnly Departure.lateStores }, { on := 9, ground := Ground.phase }], guard := none }) rfl (fun K hK => ?_) AllReadyH.nil
            obtain ⟨z0, z1, z2⟩ := (⟨cz6.c0, cz6.c1, cz6.c2⟩ : _ ∧ _ ∧ _)
            have z3 := cz6.f
            go_simp
            have c3 := ((cz6.set0 (.int .i64 yb)).set1 (.slice ap yr.length cp)).set2 (.slice bp yo.length dp)
            have fz : Below W4.heap.size W4 (((V6.setCell ⟨Bz, 0, none⟩ (.int .i64 yb)).setCell ⟨Bz, 1, none⟩ (.slice ap yr.length cp)).setCell ⟨Bz, 2, none⟩ (.slice bp yo.length dp)) := ((fb7.setCell hb5 _).setCell hb5 _).setCell hb5 _
            have hT : ∀ (i : Nat) (u : Value) (W : World), Plain.Touch Bz (Bz + 1) W (W.setCell ⟨Bz, i, none⟩ u) := fun i u W => Plain.Touch.of_set (a := ⟨Bz, i, none⟩) u (Nat.le_refl _) (Nat.lt_succ_self _)
            have hq := own_wide ((h6.touch (((hT 0 (.int .i64 yb) V6).trans (hT 1 (.slice ap yr.length cp) _)).trans (hT 2 (.slice bp yo.length dp) _)) (.inr (Nat.succ_le_of_lt hzl6))).lower fb6.size) (hi' := V6.heap.size) (Nat.le_refl _) (by rw [size_setCell', size_setCell', size_setCell']; exact Nat.le_refl _)
            obtain ⟨Wz, hWz⟩ : ∃ W, W = (((V6.setCell ⟨Bz, 0, none⟩ (.int .i64 yb)).setCell ⟨Bz, 1, none⟩ (.slice ap yr.length cp)).setCell ⟨Bz, 2, none⟩ (.slice bp yo.length dp)) := ⟨_, rfl⟩
            have hsz : V6.heap.size = Wz.heap.size := by rw [hWz, size_setCell', size_setCell', size_setCell']
            rw [← hWz] at c3 fz hq ⊢
            rw [hsz] at hq
            clear hWz hsz hT z0 z1 z2 z3
            refine hK.out _ _ ⟨(CA0_4.out.below fz).c0, (CA0_4.out.below fz).c1, (CA0_4.out.below fz).c2, (CA1_4.out.below fz).c0, (CA1_4.out.below fz).c1, (CA1_4.out.below fz).c2⟩ (fun hHeld => ?_)
            clear hK K
            try simp only [Act.put, List.setIfInBounds_toArray, List.set_cons_zero, List.set_cons_succ]
            skip
            refine wpAnyH_take (i := 11) (oi := { dst := some 9, op := Op.assign (Operand.tmp 37), type := 4, pos := "exact.go:1800", after := #[{ on := 8, ground := Ground.data }, { on := 10, ground := Ground.chain }, { on := 0, ground := Ground.phase }, { on := 1, ground := Ground.phase }, { on := 2, ground := Ground.phase }, { on := 3, ground := Ground.phase }, { on := 4, ground := Ground.phase }, { on := 5, ground := Ground.phase }, { on := 6, ground := Ground.phase }, { on := 7, ground := Ground.phase }, { on := 8, ground := Ground.phase }, { on := 9, ground := Ground.phase }, { on := 10, ground := Ground.phase }], guard := none }) (v := ?_) rfl (by kernel_rfl) (by kernel_rfl) (by kernel_rfl) (fun _ _ _ h => h) (Or.inl ⟨by rfl, ?_⟩) (by assumption) ?_
            rotate_left
            focus (intro w' hSw; (try dsimp only at hSw); first | (go_simp; done) | (go_simp; with_reducible rfl))
            try simp only [Act.put, List.setIfInBounds_toArray, List.set_cons_zero, List.set_cons_succ]
            refine wpAnyH_done (by kernel_rfl) ?_ _
            go_wp2_with fail
            go_meet
            exact ⟨_, _, _, _, _, rfl, rfl, hb5, c3, hq, fz⟩
      · go_simp
        have g8 : Below V0.heap.size V0 (V0.alloc (Obj.cells #[Value.int .i64 0, Value.slice none 0 0, Value.slice none 0 0] 27)) := (Below.refl _ _).alloc (Nat.le_refl _) _
        have cz8 := Cells3.new V0 27 (.int .i64 0) (.slice none 0 0) (.slice none 0 0)
        have hb8 : W4.heap.size ≤ V0.heap.size := fb1.size
        obtain ⟨Bz, hBz⟩ : ∃ z, z = V0.heap.size := ⟨_, rfl⟩
        rw [← hBz] at hb8 cz8 ⊢
        obtain ⟨V8, hW8⟩ : ∃ W, W = V0.alloc (Obj.cells #[Value.int .i64 0, Value.slice none 0 0, Value.slice none 0 0] 27) := ⟨_, rfl⟩
        rw [← hW8] at g8 cz8 ⊢
        have hzw : Bz < V8.heap.size := cz8.lt
        have hzo := Lib.hid (show Bz = V0.heap.size from hBz)
        clear hW8 hBz
        have fb9 := fb1.trans (g8.mono fb1.size)
        have la8 := la0.below g8
        refine hK.out _ _ ⟨(CA0_4.out.below fb9).c0, (CA0_4.out.below fb9).c1, (CA0_4.out.below fb9).c2, (CA1_4.out.below fb9).c0, (CA1_4.out.below fb9).c1, (CA1_4.out.below fb9).c2⟩ (fun hHeld => ?_)
        clear hK K
        try simp only [Act.put, List.setIfInBounds_toArray, List.set_cons_zero, List.set_cons_succ]
        refine wpAnyH_ready (rs := [3]) (by kernel_rfl) (by simp) ?_
        refine AllReadyH.cons (o := { dst := some 33, op := Op.call { callee := Callee.value (Operand.func 12), args := #[Operand.tmp 32], argTypes := #[25] }, type := 27, pos := "exact.go:1800", after := #[{ on := 2, ground := Ground.data }, { on := 1, ground := Ground.chain }], guard := none }) rfl (fun K hK => ?_) AllReadyH.nil
        · go_simp
          go_at_call 12
          (with_reducible refine (toS _ b1 rows1 out1 _ (ARG1.out.below (HB_4.out.trans (fb9.mono HB_4.out.size))) hz1).mono ?_)
          rintro e V9 ⟨v9, rfl, h9, g9⟩
          have fb10 := fb9.trans (g9.mono fb9.size)
          have la9 := la8.below g9
          have cz9 := cz8.below g9
          have hzl9 : Bz < V8.heap.size := cz8.lt
          have lb9 := h9.lies
          refine hK.out _ _ ⟨(CA0_4.out.below fb10).c0, (CA0_4.out.below fb10).c1, (CA0_4.out.below fb10).c2, (CA1_4.out.below fb10).c0, (CA1_4.out.below fb10).c1, (CA1_4.out.below fb10).c2⟩ (fun hHeld => ?_)
          clear hK K
          try simp only [Act.put, List.setIfInBounds_toArray, List.set_cons_zero, List.set_cons_succ]
          refine wpAnyH_ready (rs := [5]) (by kernel_rfl) (by simp) ?_
          refine AllReadyH.cons (o := { dst := some 35, op := Op.call { callee := Callee.value (Operand.func 11), args := #[Operand.tmp 31, Operand.tmp 33, Operand.tmp 34], argTypes := #[27, 27, 3] }, type := 28, pos := "exact.go:1800", after := #[{ on := 1, ground := Ground.data }, { on := 3, ground := Ground.data }, { on := 4, ground := Ground.data }, { on := 3, ground := Ground.chain }], guard := none }) rfl (fun K hK => ?_) AllReadyH.nil
          · go_simp
            go_at_call 11
            (with_reducible refine (CS.out _ _ la9 _ lb9).mono ?_)
            rintro e V10 ⟨v10, rfl, h10, g10⟩
            obtain ⟨ap, cp, bp, dp, rfl⟩ := h10.form
            have fb11 := fb10.trans (g10.mono fb10.size)
            have la10 := la9.below g10
            have lb10 := lb9.below g10
            have cz10 := cz9.below g10
            have hzl10 : Bz < V9.heap.size := cz9.lt
            refine hK.out _ _ ⟨(CA0_4.out.below fb11).c0, (CA0_4.out.below fb11).c1, (CA0_4.out.below fb11).c2, (CA1_4.out.below fb11).c0, (CA1_4.out.below fb11).c1, (CA1_4.out.below fb11).c2⟩ (fun hHeld => ?_)
            clear hK K
            try simp only [Act.put, List.setIfInBounds_toArray, List.set_cons_zero, List.set_cons_succ]
            refine wpAnyH_take (i := 6) (oi := { dst := some 29, op := Op.move (Operand.tmp 35), type := 28, pos := "exact.go:1800", after := #[{ on := 5, ground := Ground.data }], guard := none }) (v := ?_) rfl (by kernel_rfl) (by kernel_rfl) (by kernel_rfl) (fun _ _ _ h => h) (Or.inl ⟨by rfl, ?_⟩) (by assumption) ?_
            rotate_left
            focus (intro w' hSw; (try dsimp only at hSw); first | (go_simp; done) | (go_simp; with_reducible rfl))
            try simp only [Act.put, List.setIfInBounds_toArray, List.set_cons_zero, List.set_cons_succ]
            refine wpAnyH_take (i := 7) (oi := { dst := some 36, op := Op.extract (Operand.tmp 29) 0, type := 27, pos := "exact.go:1800", after := #[{ on := 6, ground := Ground.data }], guard := none }) (v := ?_) rfl (by kernel_rfl) (by kernel_rfl) (by kernel_rfl) (fun _ _ _ h => h) (Or.inl ⟨by rfl, ?_⟩) (by assumption) ?_
            rotate_left
            focus (intro w' hSw; (try dsimp only at hSw); first | (go_simp; done) | (go_simp; with_reducible rfl))
            try simp only [Act.put, List.setIfInBounds_toArray, List.set_cons_zero, List.set_cons_succ]
            refine wpAnyH_take (i := 8) (oi := { dst := some 37, op := Op.extract (Operand.tmp 29) 1, type := 4, pos := "exact.go:1800", after := #[{ on := 6, ground := Ground.data }, { on := 10, ground := Ground.gcOnly Departure.lateStores }], guard := none }) (v := ?_) rfl (by kernel_rfl) (by kernel_rfl) (by kernel_rfl) (fun _ _ _ h => h) (Or.inl ⟨by rfl, ?_⟩) (by assumption) ?_
            rotate_left
            focus (intro w' hSw; (try dsimp only at hSw); first | (go_simp; done) | (go_simp; with_reducible rfl))
            try simp only [Act.put, List.setIfInBounds_toArray, List.set_cons_zero, List.set_cons_succ]
            refine wpAnyH_ready (rs := [10]) (by kernel_rfl) (by simp) ?_
            refine AllReadyH.cons (o := { dst := none, op := Op.store 27 (Operand.tmp 8) (Operand.tmp 36), type := 0, pos := "exact.go:1800", after := #[{ on := 9, ground := Ground.data }, { on := 7, ground := Ground.data }, { on := 5, ground := Ground.chain }, { on := 0, ground := Ground.phase }, { on := 1, ground := Ground.phase }, { on := 2, ground := Ground.phase }, { on := 3, ground := Ground.phase }, { on := 4, ground := Ground.phase }, { on := 5, ground := Ground.phase }, { on := 6, ground := Ground.phase }, { on := 7, ground := Ground.phase }, { on := 8, ground := Ground.textOnly Departure.lateStores }, { on := 9, ground := Ground.phase }], guard := none }) rfl (fun K hK => ?_) AllReadyH.nil
            obtain ⟨z0, z1, z2⟩ := (⟨cz10.c0, cz10.c1, cz10.c2⟩ : _ ∧ _ ∧ _)
            have z3 := cz10.f
            go_simp
            have c3 := ((cz10.set0 (.int .i64 yb)).set1 (.slice ap yr.length cp)).set2 (.slice bp yo.length dp)
            have fz : Below W4.heap.size W4 (((V10.setCell ⟨Bz, 0, none⟩ (.int .i64 yb)).setCell ⟨Bz, 1, none⟩ (.slice ap yr.length cp)).setCell ⟨Bz, 2, none⟩ (.slice bp yo.length dp)) := ((fb11.setCell hb8 _).setCell hb8 _).setCell hb8 _
            have hT : ∀ (i : Nat) (u : Value) (W : World), Plain.Touch Bz (Bz + 1) W (W.setCell ⟨Bz, i, none⟩ u) := fun i u W => Plain.Touch.of_set (a := ⟨Bz, i, none⟩) u (Nat.le_refl _) (Nat.lt_succ_self _)
            have hq := own_wide ((h10.touch (((hT 0 (.int .i64 yb) V10).trans (hT 1 (.slice ap yr.length cp) _)).trans (hT 2 (.slice bp yo.length dp) _)) (.inr (Nat.succ_le_of_lt hzl10))).lower fb10.size) (hi' := V10.heap.size) (Nat.le_refl _) (by rw [size_setCell', size_setCell', size_setCell']; exact Nat.le_refl _)
            obtain ⟨Wz, hWz⟩ : ∃ W, W = (((V10.setCell ⟨Bz, 0, none⟩ (.int .i64 yb)).setCell ⟨Bz, 1, none⟩ (.slice ap yr.length cp)).setCell ⟨Bz, 2, none⟩ (.slice bp yo.length dp)) := ⟨_, rfl⟩
            have hsz : V10.heap.size = Wz.heap.size := by rw [hWz, size_setCell', size_setCell', size_setCell']
            rw [← hWz] at c3 fz hq ⊢
            rw [hsz] at hq
            clear hWz hsz hT z0 z1 z2 z3
            refine hK.out _ _ ⟨(CA0_4.out.below fz).c0, (CA0_4.out.below fz).c1, (CA0_4.out.below fz).c2, (CA1_4.out.below fz).c0, (CA1_4.out.below fz).c1, (CA1_4.out.below fz).c2⟩ (fun hHeld => ?_)
            clear hK K
            try simp only [Act.put, List.setIfInBounds_toArray, List.set_cons_zero, List.set_cons_succ]
            skip
            refine wpAnyH_take (i := 11) (oi := { dst := some 9, op := Op.assign (Operand.tmp 37), type := 4, pos := "exact.go:1800", after := #[{ on := 8, ground := Ground.data }, { on := 10, ground := Ground.chain }, { on := 0, ground := Ground.phase }, { on := 1, ground := Ground.phase }, { on := 2, ground := Ground.phase }, { on := 3, ground := Ground.phase }, { on := 4, ground := Ground.phase }, { on := 5, ground := Ground.phase }, { on := 6, ground := Ground.phase }, { on := 7, ground := Ground.phase }, { on := 8, ground := Ground.phase }, { on := 9, ground := Ground.phase }, { on := 10, ground := Ground.phase }], guard := none }) (v := ?_) rfl (by kernel_rfl) (by kernel_rfl) (by kernel_rfl) (fun _ _ _ h => h) (Or.inl ⟨by rfl, ?_⟩) (by assumption) ?_
            rotate_left
            focus (intro w' hSw; (try dsimp only at hSw); first | (go_simp; done) | (go_simp; with_reducible rfl))
            try simp only [Act.put, List.setIfInBounds_toArray, List.set_cons_zero, List.set_cons_succ]
            refine wpAnyH_done (by kernel_rfl) ?_ _
            go_wp2_with fail
            go_meet
            exact ⟨_, _, _, _, _, rfl, rfl, hb8, c3, hq, fz⟩
    · go_simp
      have g12 : Below W4.heap.size W4 ((W4.alloc (Obj.cells #[Value.int .i64 0, Value.slice none 0 0, Value.slice none 0 0] 27)).drew) := ((Below.refl _ _).alloc (Nat.le_refl _) _).trans ((below_drew' _).mono (by simp))
      have cz12 := (Cells3.new W4 27 (.int .i64 0) (.slice none 0 0) (.slice none 0 0)).below (below_drew' _)
      have hb12 : W4.heap.size ≤ W4.heap.size := Nat.le_refl _
      obtain ⟨Bz, hBz⟩ : ∃ z, z = W4.heap.size := ⟨_, rfl⟩
      have hb12 : W4.heap.size ≤ Bz := Nat.le_of_eq hBz.symm
      rw [← hBz] at cz12 ⊢
      obtain ⟨V12, hW12⟩ : ∃ W, W = (W4.alloc (Obj.cells #[Value.int .i64 0, Value.slice none 0 0, Value.slice none 0 0] 27)).drew := ⟨_, rfl⟩
      rw [← hW12] at g12 cz12 ⊢
      have hzw : Bz < V12.heap.size := cz12.lt
      have hzo := Lib.hid (show Bz = W4.heap.size from hBz)
      clear hW12 hBz
      have fb13 := g12
      refine hK.out _ _ ⟨(CA0_4.out.below fb13).c0, (CA0_4.out.below fb13).c1, (CA0_4.out.below fb13).c2, (CA1_4.out.below fb13).c0, (CA1_4.out.below fb13).c1, (CA1_4.out.below fb13).c2⟩ (fun hHeld => ?_)
      clear hK K
      try simp only [Act.put, List.setIfInBounds_toArray, List.set_cons_zero, List.set_cons_succ]
      refine wpAnyH_ready (rs := [1]) (by kernel_rfl) (by simp) ?_
      refine AllReadyH.cons (o := { dst := some 31, op := Op.call { callee := Callee.value (Operand.func 12), args := #[Operand.tmp 30], argTypes := #[25] }, type := 27, pos := "exact.go:1800", after := #[{ on := 0, ground := Ground.data }], guard := none }) rfl (fun K hK => ?_) AllReadyH.nil
      · go_simp
        go_at_call 12
        (with_reducible refine (toS _ b0 rows0 out0 _ (ARG0.out.below (HB_4.out.trans (fb13.mono HB_4.out.size))) hz0).mono ?_)
        rintro e V13 ⟨v13, rfl, h13, g13⟩
        have fb14 := fb13.trans (g13.mono fb13.size)
        have cz13 := cz12.below g13
        have hzl13 : Bz < V12.heap.size := cz12.lt
        have la13 := h13.lies
        refine hK.out _ _ ⟨(CA0_4.out.below fb14).c0, (CA0_4.out.below fb14).c1, (CA0_4.out.below fb14).c2, (CA1_4.out.below fb14).c0, (CA1_4.out.below fb14).c1, (CA1_4.out.below fb14).c2⟩ (fun hHeld => ?_)
        clear hK K
        try simp only [Act.put, List.setIfInBounds_toArray, List.set_cons_zero, List.set_cons_succ]
        refine wpAnyH_ready (rs := [3]) (by kernel_rfl) (by simp) ?_
        refine AllReadyH.cons (o := { dst := some 33, op := Op.call { callee := Callee.value (Operand.func 12), args := #[Operand.tmp 32], argTypes := #[25] }, type := 27, pos := "exact.go:1800", after := #[{ on := 2, ground := Ground.data }, { on := 1, ground := Ground.chain }], guard := none }) rfl (fun K hK => ?_) AllReadyH.nil
        · go_simp
          go_at_call 12
          (with_reducible refine (toS _ b1 rows1 out1 _ (ARG1.out.below (HB_4.out.trans (fb14.mono HB_4.out.size))) hz1).mono ?_)
          rintro e V14 ⟨v14, rfl, h14, g14⟩
          have fb15 := fb14.trans (g14.mono fb14.size)
          have la14 := la13.below g14
          have cz14 := cz13.below g14
          have hzl14 : Bz < V13.heap.size := cz13.lt
          have lb14 := h14.lies
          refine hK.out _ _ ⟨(CA0_4.out.below fb15).c0, (CA0_4.out.below fb15).c1, (CA0_4.out.below fb15).c2, (CA1_4.out.below fb15).c0, (CA1_4.out.below fb15).c1, (CA1_4.out.below fb15).c2⟩ (fun hHeld => ?_)
          clear hK K
          try simp only [Act.put, List.setIfInBounds_toArray, List.set_cons_zero, List.set_cons_succ]
          refine wpAnyH_ready (rs := [5]) (by kernel_rfl) (by simp) ?_
          refine AllReadyH.cons (o := { dst := some 35, op := Op.call { callee := Callee.value (Operand.func 11), args := #[Operand.tmp 31, Operand.tmp 33, Operand.tmp 34], argTypes := #[27, 27, 3] }, type := 28, pos := "exact.go:1800", after := #[{ on := 1, ground := Ground.data }, { on := 3, ground := Ground.data }, { on := 4, ground := Ground.data }, { on := 3, ground := Ground.chain }], guard := none }) rfl (fun K hK => ?_) AllReadyH.nil
          · go_simp
            go_at_call 11
            (with_reducible refine (CS.out _ _ la14 _ lb14).mono ?_)
            rintro e V15 ⟨v15, rfl, h15, g15⟩
            obtain ⟨ap, cp, bp, dp, rfl⟩ := h15.form
            have fb16 := fb15.trans (g15.mono fb15.size)
            have la15 := la14.below g15
            have lb15 := lb14.below g15
            have cz15 := cz14.below g15
            have hzl15 : Bz < V14.heap.size := cz14.lt
            refine hK.out _ _ ⟨(CA0_4.out.below fb16).c0, (CA0_4.out.below fb16).c1, (CA0_4.out.below fb16).c2, (CA1_4.out.below fb16).c0, (CA1_4.out.below fb16).c1, (CA1_4.out.below fb16).c2⟩ (fun hHeld => ?_)
            clear hK K
            try simp only [Act.put, List.setIfInBounds_toArray, List.set_cons_zero, List.set_cons_succ]
            refine wpAnyH_take (i := 6) (oi := { dst := some 29, op := Op.move (Operand.tmp 35), type := 28, pos := "exact.go:1800", after := #[{ on := 5, ground := Ground.data }], guard := none }) (v := ?_) rfl (by kernel_rfl) (by kernel_rfl) (by kernel_rfl) (fun _ _ _ h => h) (Or.inl ⟨by rfl, ?_⟩) (by assumption) ?_
            rotate_left
            focus (intro w' hSw; (try dsimp only at hSw); first | (go_simp; done) | (go_simp; with_reducible rfl))
            try simp only [Act.put, List.setIfInBounds_toArray, List.set_cons_zero, List.set_cons_succ]
            refine wpAnyH_take (i := 7) (oi := { dst := some 36, op := Op.extract (Operand.tmp 29) 0, type := 27, pos := "exact.go:1800", after := #[{ on := 6, ground := Ground.data }], guard := none }) (v := ?_) rfl (by kernel_rfl) (by kernel_rfl) (by kernel_rfl) (fun _ _ _ h => h) (Or.inl ⟨by rfl, ?_⟩) (by assumption) ?_
            rotate_left
            focus (intro w' hSw; (try dsimp only at hSw); first | (go_simp; done) | (go_simp; with_reducible rfl))
            try simp only [Act.put, List.setIfInBounds_toArray, List.set_cons_zero, List.set_cons_succ]
            refine wpAnyH_take (i := 8) (oi := { dst := some 37, op := Op.extract (Operand.tmp 29) 1, type := 4, pos := "exact.go:1800", after := #[{ on := 6, ground := Ground.data }, { on := 10, ground := Ground.gcOnly Departure.lateStores }], guard := none }) (v := ?_) rfl (by kernel_rfl) (by kernel_rfl) (by kernel_rfl) (fun _ _ _ h => h) (Or.inl ⟨by rfl, ?_⟩) (by assumption) ?_
            rotate_left
            focus (intro w' hSw; (try dsimp only at hSw); first | (go_simp; done) | (go_simp; with_reducible rfl))
            try simp only [Act.put, List.setIfInBounds_toArray, List.set_cons_zero, List.set_cons_succ]
            refine wpAnyH_ready (rs := [10]) (by kernel_rfl) (by simp) ?_
            refine AllReadyH.cons (o := { dst := none, op := Op.store 27 (Operand.tmp 8) (Operand.tmp 36), type := 0, pos := "exact.go:1800", after := #[{ on := 9, ground := Ground.data }, { on := 7, ground := Ground.data }, { on := 5, ground := Ground.chain }, { on := 0, ground := Ground.phase }, { on := 1, ground := Ground.phase }, { on := 2, ground := Ground.phase }, { on := 3, ground := Ground.phase }, { on := 4, ground := Ground.phase }, { on := 5, ground := Ground.phase }, { on := 6, ground := Ground.phase }, { on := 7, ground := Ground.phase }, { on := 8, ground := Ground.textOnly Departure.lateStores }, { on := 9, ground := Ground.phase }], guard := none }) rfl (fun K hK => ?_) AllReadyH.nil
            obtain ⟨z0, z1, z2⟩ := (⟨cz15.c0, cz15.c1, cz15.c2⟩ : _ ∧ _ ∧ _)
            have z3 := cz15.f
            go_simp
            have c3 := ((cz15.set0 (.int .i64 yb)).set1 (.slice ap yr.length cp)).set2 (.slice bp yo.length dp)
            have fz : Below W4.heap.size W4 (((V15.setCell ⟨Bz, 0, none⟩ (.int .i64 yb)).setCell ⟨Bz, 1, none⟩ (.slice ap yr.length cp)).setCell ⟨Bz, 2, none⟩ (.slice bp yo.length dp)) := ((fb16.setCell hb12 _).setCell hb12 _).setCell hb12 _
            have hT : ∀ (i : Nat) (u : Value) (W : World), Plain.Touch Bz (Bz + 1) W (W.setCell ⟨Bz, i, none⟩ u) := fun i u W => Plain.Touch.of_set (a := ⟨Bz, i, none⟩) u (Nat.le_refl _) (Nat.lt_succ_self _)
            have hq := own_wide ((h15.touch (((hT 0 (.int .i64 yb) V15).trans (hT 1 (.slice ap yr.length cp) _)).trans (hT 2 (.slice bp yo.length dp) _)) (.inr (Nat.succ_le_of_lt hzl15))).lower fb15.size) (hi' := V15.heap.size) (Nat.le_refl _) (by rw [size_setCell', size_setCell', size_setCell']; exact Nat.le_refl _)
            obtain ⟨Wz, hWz⟩ : ∃ W, W = (((V15.setCell ⟨Bz, 0, none⟩ (.int .i64 yb)).setCell ⟨Bz, 1, none⟩ (.slice ap yr.length cp)).setCell ⟨Bz, 2, none⟩ (.slice bp yo.length dp)) := ⟨_, rfl⟩
            have hsz : V15.heap.size = Wz.heap.size := by rw [hWz, size_setCell', size_setCell', size_setCell']
            rw [← hWz] at c3 fz hq ⊢
            rw [hsz] at hq
            clear hWz hsz hT z0 z1 z2 z3
            refine hK.out _ _ ⟨(CA0_4.out.below fz).c0, (CA0_4.out.below fz).c1, (CA0_4.out.below fz).c2, (CA1_4.out.below fz).c0, (CA1_4.out.below fz).c1, (CA1_4.out.below fz).c2⟩ (fun hHeld => ?_)
            clear hK K
            try simp only [Act.put, List.setIfInBounds_toArray, List.set_cons_zero, List.set_cons_succ]
            skip
            refine wpAnyH_take (i := 11) (oi := { dst := some 9, op := Op.assign (Operand.tmp 37), type := 4, pos := "exact.go:1800", after := #[{ on := 8, ground := Ground.data }, { on := 10, ground := Ground.chain }, { on := 0, ground := Ground.phase }, { on := 1, ground := Ground.phase }, { on := 2, ground := Ground.phase }, { on := 3, ground := Ground.phase }, { on := 4, ground := Ground.phase }, { on := 5, ground := Ground.phase }, { on := 6, ground := Ground.phase }, { on := 7, ground := Ground.phase }, { on := 8, ground := Ground.phase }, { on := 9, ground := Ground.phase }, { on := 10, ground := Ground.phase }], guard := none }) (v := ?_) rfl (by kernel_rfl) (by kernel_rfl) (by kernel_rfl) (fun _ _ _ h => h) (Or.inl ⟨by rfl, ?_⟩) (by assumption) ?_
            rotate_left
            focus (intro w' hSw; (try dsimp only at hSw); first | (go_simp; done) | (go_simp; with_reducible rfl))
            try simp only [Act.put, List.setIfInBounds_toArray, List.set_cons_zero, List.set_cons_succ]
            refine wpAnyH_done (by kernel_rfl) ?_ _
            go_wp2_with fail
            go_meet
            exact ⟨_, _, _, _, _, rfl, rfl, hb12, c3, hq, fz⟩
  case rest =>
    obtain ⟨Bp, anp, aop, cnp, cop, rfl, rfl, hBp, cPp, hPp, bw5⟩ := hcut
    obtain ⟨W5, rfl⟩ : ∃ W, W = wc := ⟨_, rfl⟩
    have bw := bw5.out
    have HB_5 := Lib.hid (HB_4.out.trans (bw.mono HB_4.out.size))
    have CA0_5 := Lib.hid (CA0_4.out.below bw)
    have CA1_5 := Lib.hid (CA1_4.out.below bw)
    have Z7 := Lib.hid (bw.size)
    have CP_5 := cPp
    have Rp_5 := hPp
    have Z8 := Lib.hid (show W4.heap.size ≤ Bp ∧ Bp < W5.heap.size from ⟨hBp.out, cPp.out.lt⟩)
    clear CA0_4 CA1_4 HB_4 bw5 bw cPp hPp hBp
    have kA00 := CA0_5.out.c0
    have kA01 := CA0_5.out.c1
    have kA02 := CA0_5.out.c2
    have kA10 := CA1_5.out.c0
    have kA11 := CA1_5.out.c1
    have kA12 := CA1_5.out.c2
    have kP0 := CP_5.out.c0
    have kP1 := CP_5.out.c1
    have kP2 := CP_5.out.c2
    go_wp2_with fail
    clear kA00 kA01 kA02 kA10 kA11 kA12 kP0 kP1 kP2
    refine (toS _ b0 rows0 out0 _ (ARG0.out.below HB_5.out) hz0).mono ?_
    rintro e W6 ⟨vx0, rfl, h6, fb6⟩
    have HB_6 := Lib.hid (HB_5.out.trans (fb6.mono HB_5.out.size))
    have CA0_6 := Lib.hid (CA0_5.out.below fb6)
    have CA1_6 := Lib.hid (CA1_5.out.below fb6)
    have CP_6 := Lib.hid (CP_5.out.below fb6)
    have Rp_6 := Lib.hid (Rp_5.out.below fb6)
    have Z9 := Lib.hid (fb6.size)
    have Rx0_6 := Lib.hid h6
    clear CA0_5 CA1_5 CP_5 Rp_5 HB_5 fb6 h6
    obtain ⟨anx0, cnx0, aox0, cox0, rfl⟩ := Rx0_6.out.form
    have kA00 := (CA0_6.out.alloc (Obj.cells #[.int .i64 b0, .slice anx0 rows0.length cnx0, .slice aox0 out0.length cox0] 27)).c0
    have kA01 := (CA0_6.out.alloc (Obj.cells #[.int .i64 b0, .slice anx0 rows0.length cnx0, .slice aox0 out0.length cox0] 27)).c1
    have kA02 := (CA0_6.out.alloc (Obj.cells #[.int .i64 b0, .slice anx0 rows0.length cnx0, .slice aox0 out0.length cox0] 27)).c2
    have kA10 := (CA1_6.out.alloc (Obj.cells #[.int .i64 b0, .slice anx0 rows0.length cnx0, .slice aox0 out0.length cox0] 27)).c0
    have kA11 := (CA1_6.out.alloc (Obj.cells #[.int .i64 b0, .slice anx0 rows0.length cnx0, .slice aox0 out0.length cox0] 27)).c1
    have kA12 := (CA1_6.out.alloc (Obj.cells #[.int .i64 b0, .slice anx0 rows0.length cnx0, .slice aox0 out0.length cox0] 27)).c2
    have kP0 := (CP_6.out.alloc (Obj.cells #[.int .i64 b0, .slice anx0 rows0.length cnx0, .slice aox0 out0.length cox0] 27)).c0
    have kP1 := (CP_6.out.alloc (Obj.cells #[.int .i64 b0, .slice anx0 rows0.length cnx0, .slice aox0 out0.length cox0] 27)).c1
    have kP2 := (CP_6.out.alloc (Obj.cells #[.int .i64 b0, .slice anx0 rows0.length cnx0, .slice aox0 out0.length cox0] 27)).c2
    go_wp2_with fail
    clear kA00 kA01 kA02 kA10 kA11 kA12 kP0 kP1 kP2
    have bx7 : Below W6.heap.size W6 (W6.alloc (Obj.cells #[.int .i64 b0, .slice anx0 rows0.length cnx0, .slice aox0 out0.length cox0] 27)) := (Below.refl _ _).alloc (Nat.le_refl _) _
    have cx7 := Cells3.new W6 27 (.int .i64 b0) (.slice anx0 rows0.length cnx0) (.slice aox0 out0.length cox0)
    have hz7 : (W6.alloc (Obj.cells #[.int .i64 b0, .slice anx0 rows0.length cnx0, .slice aox0 out0.length cox0] 27)).heap.size = W6.heap.size + 1 := size_alloc' _ _
    obtain ⟨W7, hW7⟩ : ∃ W, W = (W6.alloc (Obj.cells #[.int .i64 b0, .slice anx0 rows0.length cnx0, .slice aox0 out0.length cox0] 27)) := ⟨_, rfl⟩
    rw [← hW7] at bx7 cx7 hz7 ⊢
    have HB_7 := Lib.hid (HB_6.out.trans (bx7.mono HB_6.out.size))
    have CA0_7 := Lib.hid (CA0_6.out.below bx7)
    have CA1_7 := Lib.hid (CA1_6.out.below bx7)
    have CP_7 := Lib.hid (CP_6.out.below bx7)
    have Rp_7 := Lib.hid (Rp_6.out.below bx7)
    have Rx0_7 := Lib.hid (Rx0_6.out.below bx7)
    have Z10 := Lib.hid (bx7.size)
    have CX0_7 := Lib.hid cx7
    have Z11 := Lib.hid hz7
    clear CA0_6 CA1_6 CP_6 Rp_6 Rx0_6 HB_6 bx7 hW7 cx7
    clear hz7
    refine (toS _ b1 rows1 out1 _ (ARG1.out.below HB_7.out) hz1).mono ?_
    rintro e W8 ⟨vx1, rfl, h8, fb8⟩
    have HB_8 := Lib.hid (HB_7.out.trans (fb8.mono HB_7.out.size))
    have CA0_8 := Lib.hid (CA0_7.out.below fb8)
    have CA1_8 := Lib.hid (CA1_7.out.below fb8)
    have CP_8 := Lib.hid (CP_7.out.below fb8)
    have CX0_8 := Lib.hid (CX0_7.out.below fb8)
    have Rp_8 := Lib.hid (Rp_7.out.below fb8)
    have Rx0_8 := Lib.hid (Rx0_7.out.below fb8)
    have Z12 := Lib.hid (fb8.size)
    have Rx1_8 := Lib.hid h8
    clear CA0_7 CA1_7 CP_7 CX0_7 Rp_7 Rx0_7 HB_7 fb8 h8
    obtain ⟨anx1, cnx1, aox1, cox1, rfl⟩ := Rx1_8.out.form
    have kA00 := (CA0_8.out.alloc (Obj.cells #[.int .i64 b1, .slice anx1 rows1.length cnx1, .slice aox1 out1.length cox1] 27)).c0
    have kA01 := (CA0_8.out.alloc (Obj.cells #[.int .i64 b1, .slice anx1 rows1.length cnx1, .slice aox1 out1.length cox1] 27)).c1
    have kA02 := (CA0_8.out.alloc (Obj.cells #[.int .i64 b1, .slice anx1 rows1.length cnx1, .slice aox1 out1.length cox1] 27)).c2
    have kA10 := (CA1_8.out.alloc (Obj.cells #[.int .i64 b1, .slice anx1 rows1.length cnx1, .slice aox1 out1.length cox1] 27)).c0
    have kA11 := (CA1_8.out.alloc (Obj.cells #[.int .i64 b1, .slice anx1 rows1.length cnx1, .slice aox1 out1.length cox1] 27)).c1
    have kA12 := (CA1_8.out.alloc (Obj.cells #[.int .i64 b1, .slice anx1 rows1.length cnx1, .slice aox1 out1.length cox1] 27)).c2
    have kP0 := (CP_8.out.alloc (Obj.cells #[.int .i64 b1, .slice anx1 rows1.length cnx1, .slice aox1 out1.length cox1] 27)).c0
    have kP1 := (CP_8.out.alloc (Obj.cells #[.int .i64 b1, .slice anx1 rows1.length cnx1, .slice aox1 out1.length cox1] 27)).c1
    have kP2 := (CP_8.out.alloc (Obj.cells #[.int .i64 b1, .slice anx1 rows1.length cnx1, .slice aox1 out1.length cox1] 27)).c2
    have kX00 := (CX0_8.out.alloc (Obj.cells #[.int .i64 b1, .slice anx1 rows1.length cnx1, .slice aox1 out1.length cox1] 27)).c0
    have kX01 := (CX0_8.out.alloc (Obj.cells #[.int .i64 b1, .slice anx1 rows1.length cnx1, .slice aox1 out1.length cox1] 27)).c1
    have kX02 := (CX0_8.out.alloc (Obj.cells #[.int .i64 b1, .slice anx1 rows1.length cnx1, .slice aox1 out1.length cox1] 27)).c2
    go_wp2_with fail
    clear kA00 kA01 kA02 kA10 kA11 kA12 kP0 kP1 kP2 kX00 kX01 kX02
    have bx9 : Below W8.heap.size W8 (W8.alloc (Obj.cells #[.int .i64 b1, .slice anx1 rows1.length cnx1, .slice aox1 out1.length cox1] 27)) := (Below.refl _ _).alloc (Nat.le_refl _) _
    have cx9 := Cells3.new W8 27 (.int .i64 b1) (.slice anx1 rows1.length cnx1) (.slice aox1 out1.length cox1)
    have hz9 : (W8.alloc (Obj.cells #[.int .i64 b1, .slice anx1 rows1.length cnx1, .slice aox1 out1.length cox1] 27)).heap.size = W8.heap.size + 1 := size_alloc' _ _
    obtain ⟨W9, hW9⟩ : ∃ W, W = (W8.alloc (Obj.cells #[.int .i64 b1, .slice anx1 rows1.length cnx1, .slice aox1 out1.length cox1] 27)) := ⟨_, rfl⟩
    rw [← hW9] at bx9 cx9 hz9 ⊢
    have HB_9 := Lib.hid (HB_8.out.trans (bx9.mono HB_8.out.size))
    have CA0_9 := Lib.hid (CA0_8.out.below bx9)
    have CA1_9 := Lib.hid (CA1_8.out.below bx9)
    have CP_9 := Lib.hid (CP_8.out.below bx9)
    have CX0_9 := Lib.hid (CX0_8.out.below bx9)
    have Rp_9 := Lib.hid (Rp_8.out.below bx9)
    have Rx0_9 := Lib.hid (Rx0_8.out.below bx9)
    have Rx1_9 := Lib.hid (Rx1_8.out.below bx9)
    have Z13 := Lib.hid (bx9.size)
    have CX1_9 := Lib.hid cx9
    have Z14 := Lib.hid hz9
    clear CA0_8 CA1_8 CP_8 CX0_8 Rp_8 Rx0_8 Rx1_8 HB_8 bx9 hW9 cx9
    clear hz9
    refine (CI.out _ _ Rx0_9.out.lies _ Rx1_9.out.lies).mono ?_
    rintro e W10 ⟨vg, rfl, h10, fb10⟩
    have HB_10 := Lib.hid (HB_9.out.trans (fb10.mono HB_9.out.size))
    have CA0_10 := Lib.hid (CA0_9.out.below fb10)
    have CA1_10 := Lib.hid (CA1_9.out.below fb10)
    have CP_10 := Lib.hid (CP_9.out.below fb10)
    have CX0_10 := Lib.hid (CX0_9.out.below fb10)
    have CX1_10 := Lib.hid (CX1_9.out.below fb10)
    have Rp_10 := Lib.hid (Rp_9.out.below fb10)
    have Rx0_10 := Lib.hid (Rx0_9.out.below fb10)
    have Rx1_10 := Lib.hid (Rx1_9.out.below fb10)
    have Z15 := Lib.hid (fb10.size)
    have Rg_10 := Lib.hid h10
    clear CA0_9 CA1_9 CP_9 CX0_9 CX1_9 Rp_9 Rx0_9 Rx1_9 HB_9 fb10 h10
    obtain ⟨ang, cng, aog, cog, rfl⟩ := Rg_10.out.form
    have kA00 := (CA0_10.out.alloc (Obj.cells #[.int .i64 yb, .slice ang yr.length cng, .slice aog yo.length cog] 27)).c0
    have kA01 := (CA0_10.out.alloc (Obj.cells #[.int .i64 yb, .slice ang yr.length cng, .slice aog yo.length cog] 27)).c1
    have kA02 := (CA0_10.out.alloc (Obj.cells #[.int .i64 yb, .slice ang yr.length cng, .slice aog yo.length cog] 27)).c2
    have kA10 := (CA1_10.out.alloc (Obj.cells #[.int .i64 yb, .slice ang yr.length cng, .slice aog yo.length cog] 27)).c0
    have kA11 := (CA1_10.out.alloc (Obj.cells #[.int .i64 yb, .slice ang yr.length cng, .slice aog yo.length cog] 27)).c1
    have kA12 := (CA1_10.out.alloc (Obj.cells #[.int .i64 yb, .slice ang yr.length cng, .slice aog yo.length cog] 27)).c2
    have kP0 := (CP_10.out.alloc (Obj.cells #[.int .i64 yb, .slice ang yr.length cng, .slice aog yo.length cog] 27)).c0
    have kP1 := (CP_10.out.alloc (Obj.cells #[.int .i64 yb, .slice ang yr.length cng, .slice aog yo.length cog] 27)).c1
    have kP2 := (CP_10.out.alloc (Obj.cells #[.int .i64 yb, .slice ang yr.length cng, .slice aog yo.length cog] 27)).c2
    have kX00 := (CX0_10.out.alloc (Obj.cells #[.int .i64 yb, .slice ang yr.length cng, .slice aog yo.length cog] 27)).c0
    have kX01 := (CX0_10.out.alloc (Obj.cells #[.int .i64 yb, .slice ang yr.length cng, .slice aog yo.length cog] 27)).c1
    have kX02 := (CX0_10.out.alloc (Obj.cells #[.int .i64 yb, .slice ang yr.length cng, .slice aog yo.length cog] 27)).c2
    have kX10 := (CX1_10.out.alloc (Obj.cells #[.int .i64 yb, .slice ang yr.length cng, .slice aog yo.length cog] 27)).c0
    have kX11 := (CX1_10.out.alloc (Obj.cells #[.int .i64 yb, .slice ang yr.length cng, .slice aog yo.length cog] 27)).c1
    have kX12 := (CX1_10.out.alloc (Obj.cells #[.int .i64 yb, .slice ang yr.length cng, .slice aog yo.length cog] 27)).c2
    go_wp2_with fail
    clear kA00 kA01 kA02 kA10 kA11 kA12 kP0 kP1 kP2 kX00 kX01 kX02 kX10 kX11 kX12
    have bx11 : Below W10.heap.size W10 (W10.alloc (Obj.cells #[.int .i64 yb, .slice ang yr.length cng, .slice aog yo.length cog] 27)) := (Below.refl _ _).alloc (Nat.le_refl _) _
    have cx11 := Cells3.new W10 27 (.int .i64 yb) (.slice ang yr.length cng) (.slice aog yo.length cog)
    have hz11 : (W10.alloc (Obj.cells #[.int .i64 yb, .slice ang yr.length cng, .slice aog yo.length cog] 27)).heap.size = W10.heap.size + 1 := size_alloc' _ _
    obtain ⟨W11, hW11⟩ : ∃ W, W = (W10.alloc (Obj.cells #[.int .i64 yb, .slice ang yr.length cng, .slice aog yo.length cog] 27)) := ⟨_, rfl⟩
    rw [← hW11] at bx11 cx11 hz11 ⊢
    have HB_11 := Lib.hid (HB_10.out.trans (bx11.mono HB_10.out.size))
    have CA0_11 := Lib.hid (CA0_10.out.below bx11)
    have CA1_11 := Lib.hid (CA1_10.out.below bx11)
    have CP_11 := Lib.hid (CP_10.out.below bx11)
    have CX0_11 := Lib.hid (CX0_10.out.below bx11)
    have CX1_11 := Lib.hid (CX1_10.out.below bx11)
    have Rp_11 := Lib.hid (Rp_10.out.below bx11)
    have Rx0_11 := Lib.hid (Rx0_10.out.below bx11)
    have Rx1_11 := Lib.hid (Rx1_10.out.below bx11)
    have Rg_11 := Lib.hid (Rg_10.out.below bx11)
    have Z16 := Lib.hid (bx11.size)
    have CG_11 := Lib.hid cx11
    have Z17 := Lib.hid hz11
    clear CA0_10 CA1_10 CP_10 CX0_10 CX1_10 Rp_10 Rx0_10 Rx1_10 Rg_10 HB_10 bx11 hW11 cx11
    clear hz11
    refine (eqS _ _ yb yr yo _ Rg_11.out.lies Rp_11.out.lies).mono ?_
    rintro e W12 ⟨rfl, fb12⟩
    have HB_12 := Lib.hid (HB_11.out.trans (fb12.mono HB_11.out.size))
    have CA0_12 := Lib.hid (CA0_11.out.below fb12)
    have CA1_12 := Lib.hid (CA1_11.out.below fb12)
    have CP_12 := Lib.hid (CP_11.out.below fb12)
    have CX0_12 := Lib.hid (CX0_11.out.below fb12)
    have CX1_12 := Lib.hid (CX1_11.out.below fb12)
    have CG_12 := Lib.hid (CG_11.out.below fb12)
    have Rp_12 := Lib.hid (Rp_11.out.below fb12)
    have Rx0_12 := Lib.hid (Rx0_11.out.below fb12)
    have Rx1_12 := Lib.hid (Rx1_11.out.below fb12)
    have Rg_12 := Lib.hid (Rg_11.out.below fb12)
    have Z18 := Lib.hid (fb12.size)
    clear CA0_11 CA1_11 CP_11 CX0_11 CX1_11 CG_11 Rp_11 Rx0_11 Rx1_11 Rg_11 HB_11 fb12
    have kA00 := CA0_12.out.c0
    have kA01 := CA0_12.out.c1
    have kA02 := CA0_12.out.c2
    have kA10 := CA1_12.out.c0
    have kA11 := CA1_12.out.c1
    have kA12 := CA1_12.out.c2
    have kP0 := CP_12.out.c0
    have kP1 := CP_12.out.c1
    have kP2 := CP_12.out.c2
    have kX00 := CX0_12.out.c0
    have kX01 := CX0_12.out.c1
    have kX02 := CX0_12.out.c2
    have kX10 := CX1_12.out.c0
    have kX11 := CX1_12.out.c1
    have kX12 := CX1_12.out.c2
    have kG0 := CG_12.out.c0
    have kG1 := CG_12.out.c1
    have kG2 := CG_12.out.c2
    go_wp2_with fail
    clear kA00 kA01 kA02 kA10 kA11 kA12 kP0 kP1 kP2 kX00 kX01 kX02 kX10 kX11 kX12 kG0 kG1 kG2
    have bd13 := below_drew' W12
    obtain ⟨W13, hW13⟩ : ∃ W, W = W12.drew := ⟨_, rfl⟩
    rw [← hW13] at bd13
    have HB_13 := Lib.hid (HB_12.out.trans (bd13.mono HB_12.out.size))
    have CA0_13 := Lib.hid (CA0_12.out.below bd13)
    have CA1_13 := Lib.hid (CA1_12.out.below bd13)
    have CP_13 := Lib.hid (CP_12.out.below bd13)
    have CX0_13 := Lib.hid (CX0_12.out.below bd13)
    have CX1_13 := Lib.hid (CX1_12.out.below bd13)
    have CG_13 := Lib.hid (CG_12.out.below bd13)
    have Rp_13 := Lib.hid (Rp_12.out.below bd13)
    have Rx0_13 := Lib.hid (Rx0_12.out.below bd13)
    have Rx1_13 := Lib.hid (Rx1_12.out.below bd13)
    have Rg_13 := Lib.hid (Rg_12.out.below bd13)
    have Z19 := Lib.hid (bd13.size)
    clear CA0_12 CA1_12 CP_12 CX0_12 CX1_12 CG_12 Rp_12 Rx0_12 Rx1_12 Rg_12 HB_12 bd13
    go_region_held3 (fun w' => w'.cell? ⟨W6.heap.size, 0, none⟩ = some (.int .i64 b0) ∧ w'.cell? ⟨W6.heap.size, 1, none⟩ = some (.slice anx0 rows0.length cnx0) ∧ w'.cell? ⟨W6.heap.size, 2, none⟩ = some (.slice aox0 out0.length cox0) ∧ w'.cell? ⟨w.heap.size, 0, none⟩ = some (.int .i64 b0) ∧ w'.cell? ⟨w.heap.size, 1, none⟩ = some (.slice an0 rows0.length cn0) ∧ w'.cell? ⟨w.heap.size, 2, none⟩ = some (.slice ao0 out0.length co0))
      (first | (rw [← hW13]; exact ⟨CX0_13.out.c0, CX0_13.out.c1, CX0_13.out.c2, CA0_13.out.c0, CA0_13.out.c1, CA0_13.out.c2⟩) | exact ⟨(CX0_13.out.below bt).c0, (CX0_13.out.below bt).c1, (CX0_13.out.below bt).c2, (CA0_13.out.below bt).c0, (CA0_13.out.below bt).c1, (CA0_13.out.below bt).c2⟩ | exact ⟨((CX0_13.out.below bt).below bu).c0, ((CX0_13.out.below bt).below bu).c1, ((CX0_13.out.below bt).below bu).c2, ((CA0_13.out.below bt).below bu).c0, ((CA0_13.out.below bt).below bu).c1, ((CA0_13.out.below bt).below bu).c2⟩)
      (first | (go_at_call 12; rw [← hW13]; refine (toS _ b0 rows0 out0 _ (ARG0.out.below HB_13.out) hz0).mono ?_; rintro e W14 ⟨vt, rfl, ht, bt⟩) | (go_at_call 14; refine (eqS _ _ b0 rows0 out0 _ (Rx0_13.out.below bt).lies ht.lies).mono ?_; rintro e W15 ⟨rfl, bu⟩))
    have HB_14 := Lib.hid (HB_13.out.trans (bt.mono HB_13.out.size))
    have CA0_14 := Lib.hid (CA0_13.out.below bt)
    have CA1_14 := Lib.hid (CA1_13.out.below bt)
    have CP_14 := Lib.hid (CP_13.out.below bt)
    have CX0_14 := Lib.hid (CX0_13.out.below bt)
    have CX1_14 := Lib.hid (CX1_13.out.below bt)
    have CG_14 := Lib.hid (CG_13.out.below bt)
    have Rp_14 := Lib.hid (Rp_13.out.below bt)
    have Rx0_14 := Lib.hid (Rx0_13.out.below bt)
    have Rx1_14 := Lib.hid (Rx1_13.out.below bt)
    have Rg_14 := Lib.hid (Rg_13.out.below bt)
    have Z20 := Lib.hid (bt.size)
    have HB_15 := Lib.hid (HB_14.out.trans (bu.mono HB_14.out.size))
    have CA0_15 := Lib.hid (CA0_14.out.below bu)
    have CA1_15 := Lib.hid (CA1_14.out.below bu)
    have CP_15 := Lib.hid (CP_14.out.below bu)
    have CX0_15 := Lib.hid (CX0_14.out.below bu)
    have CX1_15 := Lib.hid (CX1_14.out.below bu)
    have CG_15 := Lib.hid (CG_14.out.below bu)
    have Rp_15 := Lib.hid (Rp_14.out.below bu)
    have Rx0_15 := Lib.hid (Rx0_14.out.below bu)
    have Rx1_15 := Lib.hid (Rx1_14.out.below bu)
    have Rg_15 := Lib.hid (Rg_14.out.below bu)
    have Z21 := Lib.hid (bu.size)
    clear CA0_13 CA1_13 CP_13 CX0_13 CX1_13 CG_13 Rp_13 Rx0_13 Rx1_13 Rg_13 HB_13 CA0_14 CA1_14 CP_14 CX0_14 CX1_14 CG_14 Rp_14 Rx0_14 Rx1_14 Rg_14 HB_14 bt bu ht hW13
    have kA00 := CA0_15.out.c0
    have kA01 := CA0_15.out.c1
    have kA02 := CA0_15.out.c2
    have kA10 := CA1_15.out.c0
    have kA11 := CA1_15.out.c1
    have kA12 := CA1_15.out.c2
    have kP0 := CP_15.out.c0
    have kP1 := CP_15.out.c1
    have kP2 := CP_15.out.c2
    have kX00 := CX0_15.out.c0
    have kX01 := CX0_15.out.c1
    have kX02 := CX0_15.out.c2
    have kX10 := CX1_15.out.c0
    have kX11 := CX1_15.out.c1
    have kX12 := CX1_15.out.c2
    have kG0 := CG_15.out.c0
    have kG1 := CG_15.out.c1
    have kG2 := CG_15.out.c2
    go_wp2_with fail
    clear kA00 kA01 kA02 kA10 kA11 kA12 kP0 kP1 kP2 kX00 kX01 kX02 kX10 kX11 kX12 kG0 kG1 kG2
    have bd16 := below_drew' W15
    obtain ⟨W16, hW16⟩ : ∃ W, W = W15.drew := ⟨_, rfl⟩
    rw [← hW16] at bd16
    have HB_16 := Lib.hid (HB_15.out.trans (bd16.mono HB_15.out.size))
    have CA0_16 := Lib.hid (CA0_15.out.below bd16)
    have CA1_16 := Lib.hid (CA1_15.out.below bd16)
    have CP_16 := Lib.hid (CP_15.out.below bd16)
    have CX0_16 := Lib.hid (CX0_15.out.below bd16)
    have CX1_16 := Lib.hid (CX1_15.out.below bd16)
    have CG_16 := Lib.hid (CG_15.out.below bd16)
    have Rp_16 := Lib.hid (Rp_15.out.below bd16)
    have Rx0_16 := Lib.hid (Rx0_15.out.below bd16)
    have Rx1_16 := Lib.hid (Rx1_15.out.below bd16)
    have Rg_16 := Lib.hid (Rg_15.out.below bd16)
    have Z22 := Lib.hid (bd16.size)
    clear CA0_15 CA1_15 CP_15 CX0_15 CX1_15 CG_15 Rp_15 Rx0_15 Rx1_15 Rg_15 HB_15 bd16
    go_region_held3 (fun w' => w'.cell? ⟨W8.heap.size, 0, none⟩ = some (.int .i64 b1) ∧ w'.cell? ⟨W8.heap.size, 1, none⟩ = some (.slice anx1 rows1.length cnx1) ∧ w'.cell? ⟨W8.heap.size, 2, none⟩ = some (.slice aox1 out1.length cox1) ∧ w'.cell? ⟨w.heap.size + 1, 0, none⟩ = some (.int .i64 b1) ∧ w'.cell? ⟨w.heap.size + 1, 1, none⟩ = some (.slice an1 rows1.length cn1) ∧ w'.cell? ⟨w.heap.size + 1, 2, none⟩ = some (.slice ao1 out1.length co1))
      (first | (rw [← hW16]; exact ⟨CX1_16.out.c0, CX1_16.out.c1, CX1_16.out.c2, CA1_16.out.c0, CA1_16.out.c1, CA1_16.out.c2⟩) | exact ⟨(CX1_16.out.below bt).c0, (CX1_16.out.below bt).c1, (CX1_16.out.below bt).c2, (CA1_16.out.below bt).c0, (CA1_16.out.below bt).c1, (CA1_16.out.below bt).c2⟩ | exact ⟨((CX1_16.out.below bt).below bu).c0, ((CX1_16.out.below bt).below bu).c1, ((CX1_16.out.below bt).below bu).c2, ((CA1_16.out.below bt).below bu).c0, ((CA1_16.out.below bt).below bu).c1, ((CA1_16.out.below bt).below bu).c2⟩)
      (first | (go_at_call 12; rw [← hW16]; refine (toS _ b1 rows1 out1 _ (ARG1.out.below HB_16.out) hz1).mono ?_; rintro e W17 ⟨vt, rfl, ht, bt⟩) | (go_at_call 14; refine (eqS _ _ b1 rows1 out1 _ (Rx1_16.out.below bt).lies ht.lies).mono ?_; rintro e W18 ⟨rfl, bu⟩))
    have HB_17 := Lib.hid (HB_16.out.trans (bt.mono HB_16.out.size))
    have CA0_17 := Lib.hid (CA0_16.out.below bt)
    have CA1_17 := Lib.hid (CA1_16.out.below bt)
    have CP_17 := Lib.hid (CP_16.out.below bt)
    have CX0_17 := Lib.hid (CX0_16.out.below bt)
    have CX1_17 := Lib.hid (CX1_16.out.below bt)
    have CG_17 := Lib.hid (CG_16.out.below bt)
    have Rp_17 := Lib.hid (Rp_16.out.below bt)
    have Rx0_17 := Lib.hid (Rx0_16.out.below bt)
    have Rx1_17 := Lib.hid (Rx1_16.out.below bt)
    have Rg_17 := Lib.hid (Rg_16.out.below bt)
    have Z23 := Lib.hid (bt.size)
    have HB_18 := Lib.hid (HB_17.out.trans (bu.mono HB_17.out.size))
    have CA0_18 := Lib.hid (CA0_17.out.below bu)
    have CA1_18 := Lib.hid (CA1_17.out.below bu)
    have CP_18 := Lib.hid (CP_17.out.below bu)
    have CX0_18 := Lib.hid (CX0_17.out.below bu)
    have CX1_18 := Lib.hid (CX1_17.out.below bu)
    have CG_18 := Lib.hid (CG_17.out.below bu)
    have Rp_18 := Lib.hid (Rp_17.out.below bu)
    have Rx0_18 := Lib.hid (Rx0_17.out.below bu)
    have Rx1_18 := Lib.hid (Rx1_17.out.below bu)
    have Rg_18 := Lib.hid (Rg_17.out.below bu)
    have Z24 := Lib.hid (bu.size)
    clear CA0_16 CA1_16 CP_16 CX0_16 CX1_16 CG_16 Rp_16 Rx0_16 Rx1_16 Rg_16 HB_16 CA0_17 CA1_17 CP_17 CX0_17 CX1_17 CG_17 Rp_17 Rx0_17 Rx1_17 Rg_17 HB_17 bt bu ht hW16
    have kA00 := CA0_18.out.c0
    have kA01 := CA0_18.out.c1
    have kA02 := CA0_18.out.c2
    have kA10 := CA1_18.out.c0
    have kA11 := CA1_18.out.c1
    have kA12 := CA1_18.out.c2
    have kP0 := CP_18.out.c0
    have kP1 := CP_18.out.c1
    have kP2 := CP_18.out.c2
    have kX00 := CX0_18.out.c0
    have kX01 := CX0_18.out.c1
    have kX02 := CX0_18.out.c2
    have kX10 := CX1_18.out.c0
    have kX11 := CX1_18.out.c1
    have kX12 := CX1_18.out.c2
    have kG0 := CG_18.out.c0
    have kG1 := CG_18.out.c1
    have kG2 := CG_18.out.c2
    go_wp2_with fail
    clear kA00 kA01 kA02 kA10 kA11 kA12 kP0 kP1 kP2 kX00 kX01 kX02 kX10 kX11 kX12 kG0 kG1 kG2
    refine (markSk _ b0 rows0 out0 T0 _ _ _ ((1 : Int)) HT0.out Rx0_18.out (by omega) (by omega) (by omega)).mono ?_
    rintro e W19 ⟨rfl, h19, t19⟩
    have HB_19 := Lib.hid (t19.below HB_18.out (by have := Z1.out; have := Z2.out; have := Z3.out; have := Z4.out; have := Z5.out; have := Z6.out; have := Z7.out; have := Z8.out; have := Z9.out; have := Z10.out; have := Z11.out; have := Z12.out; have := Z13.out; have := Z14.out; have := Z15.out; have := Z16.out; have := Z17.out; have := Z18.out; have := Z19.out; have := Z20.out; have := Z21.out; have := Z22.out; have := Z23.out; have := Z24.out; omega))
    have CA0_19 := Lib.hid (CA0_18.out.touch t19 (by have := Z1.out; have := Z2.out; have := Z3.out; have := Z4.out; have := Z5.out; have := Z6.out; have := Z7.out; have := Z8.out; have := Z9.out; have := Z10.out; have := Z11.out; have := Z12.out; have := Z13.out; have := Z14.out; have := Z15.out; have := Z16.out; have := Z17.out; have := Z18.out; have := Z19.out; have := Z20.out; have := Z21.out; have := Z22.out; have := Z23.out; have := Z24.out; omega))
    have CA1_19 := Lib.hid (CA1_18.out.touch t19 (by have := Z1.out; have := Z2.out; have := Z3.out; have := Z4.out; have := Z5.out; have := Z6.out; have := Z7.out; have := Z8.out; have := Z9.out; have := Z10.out; have := Z11.out; have := Z12.out; have := Z13.out; have := Z14.out; have := Z15.out; have := Z16.out; have := Z17.out; have := Z18.out; have := Z19.out; have := Z20.out; have := Z21.out; have := Z22.out; have := Z23.out; have := Z24.out; omega))
    have CP_19 := Lib.hid (CP_18.out.touch t19 (by have := Z1.out; have := Z2.out; have := Z3.out; have := Z4.out; have := Z5.out; have := Z6.out; have := Z7.out; have := Z8.out; have := Z9.out; have := Z10.out; have := Z11.out; have := Z12.out; have := Z13.out; have := Z14.out; have := Z15.out; have := Z16.out; have := Z17.out; have := Z18.out; have := Z19.out; have := Z20.out; have := Z21.out; have := Z22.out; have := Z23.out; have := Z24.out; omega))
    have CX0_19 := Lib.hid (CX0_18.out.touch t19 (by have := Z1.out; have := Z2.out; have := Z3.out; have := Z4.out; have := Z5.out; have := Z6.out; have := Z7.out; have := Z8.out; have := Z9.out; have := Z10.out; have := Z11.out; have := Z12.out; have := Z13.out; have := Z14.out; have := Z15.out; have := Z16.out; have := Z17.out; have := Z18.out; have := Z19.out; have := Z20.out; have := Z21.out; have := Z22.out; have := Z23.out; have := Z24.out; omega))
    have CX1_19 := Lib.hid (CX1_18.out.touch t19 (by have := Z1.out; have := Z2.out; have := Z3.out; have := Z4.out; have := Z5.out; have := Z6.out; have := Z7.out; have := Z8.out; have := Z9.out; have := Z10.out; have := Z11.out; have := Z12.out; have := Z13.out; have := Z14.out; have := Z15.out; have := Z16.out; have := Z17.out; have := Z18.out; have := Z19.out; have := Z20.out; have := Z21.out; have := Z22.out; have := Z23.out; have := Z24.out; omega))
    have CG_19 := Lib.hid (CG_18.out.touch t19 (by have := Z1.out; have := Z2.out; have := Z3.out; have := Z4.out; have := Z5.out; have := Z6.out; have := Z7.out; have := Z8.out; have := Z9.out; have := Z10.out; have := Z11.out; have := Z12.out; have := Z13.out; have := Z14.out; have := Z15.out; have := Z16.out; have := Z17.out; have := Z18.out; have := Z19.out; have := Z20.out; have := Z21.out; have := Z22.out; have := Z23.out; have := Z24.out; omega))
    have Rp_19 := Lib.hid (Rp_18.out.touch t19 (by have := Z1.out; have := Z2.out; have := Z3.out; have := Z4.out; have := Z5.out; have := Z6.out; have := Z7.out; have := Z8.out; have := Z9.out; have := Z10.out; have := Z11.out; have := Z12.out; have := Z13.out; have := Z14.out; have := Z15.out; have := Z16.out; have := Z17.out; have := Z18.out; have := Z19.out; have := Z20.out; have := Z21.out; have := Z22.out; have := Z23.out; have := Z24.out; omega))
    have Rx1_19 := Lib.hid (Rx1_18.out.touch t19 (by have := Z1.out; have := Z2.out; have := Z3.out; have := Z4.out; have := Z5.out; have := Z6.out; have := Z7.out; have := Z8.out; have := Z9.out; have := Z10.out; have := Z11.out; have := Z12.out; have := Z13.out; have := Z14.out; have := Z15.out; have := Z16.out; have := Z17.out; have := Z18.out; have := Z19.out; have := Z20.out; have := Z21.out; have := Z22.out; have := Z23.out; have := Z24.out; omega))
    have Rg_19 := Lib.hid (Rg_18.out.touch t19 (by have := Z1.out; have := Z2.out; have := Z3.out; have := Z4.out; have := Z5.out; have := Z6.out; have := Z7.out; have := Z8.out; have := Z9.out; have := Z10.out; have := Z11.out; have := Z12.out; have := Z13.out; have := Z14.out; have := Z15.out; have := Z16.out; have := Z17.out; have := Z18.out; have := Z19.out; have := Z20.out; have := Z21.out; have := Z22.out; have := Z23.out; have := Z24.out; omega))
    have Z25 := Lib.hid (t19.size)
    have Rx0_19 := Lib.hid h19
    clear CA0_18 CA1_18 CP_18 CX0_18 CX1_18 CG_18 Rp_18 Rx0_18 Rx1_18 Rg_18 HB_18 t19 h19
    clear Rx0_19 CX0_19
    have kA00 := CA0_19.out.c0
    have kA01 := CA0_19.out.c1
    have kA02 := CA0_19.out.c2
    have kA10 := CA1_19.out.c0
    have kA11 := CA1_19.out.c1
    have kA12 := CA1_19.out.c2
    have kP0 := CP_19.out.c0
    have kP1 := CP_19.out.c1
    have kP2 := CP_19.out.c2
    have kX10 := CX1_19.out.c0
    have kX11 := CX1_19.out.c1
    have kX12 := CX1_19.out.c2
    have kG0 := CG_19.out.c0
    have kG1 := CG_19.out.c1
    have kG2 := CG_19.out.c2
    go_wp2_with fail
    clear kA00 kA01 kA02 kA10 kA11 kA12 kP0 kP1 kP2 kX10 kX11 kX12 kG0 kG1 kG2
    refine (markSk _ b1 rows1 out1 T1 _ _ _ ((1 : Int) + (T0 : Int)) HT1.out Rx1_19.out (by omega) (by omega) (by omega)).mono ?_
    rintro e W20 ⟨rfl, h20, t20⟩
    have HB_20 := Lib.hid (t20.below HB_19.out (by have := Z1.out; have := Z2.out; have := Z3.out; have := Z4.out; have := Z5.out; have := Z6.out; have := Z7.out; have := Z8.out; have := Z9.out; have := Z10.out; have := Z11.out; have := Z12.out; have := Z13.out; have := Z14.out; have := Z15.out; have := Z16.out; have := Z17.out; have := Z18.out; have := Z19.out; have := Z20.out; have := Z21.out; have := Z22.out; have := Z23.out; have := Z24.out; have := Z25.out; omega))
    have CA0_20 := Lib.hid (CA0_19.out.touch t20 (by have := Z1.out; have := Z2.out; have := Z3.out; have := Z4.out; have := Z5.out; have := Z6.out; have := Z7.out; have := Z8.out; have := Z9.out; have := Z10.out; have := Z11.out; have := Z12.out; have := Z13.out; have := Z14.out; have := Z15.out; have := Z16.out; have := Z17.out; have := Z18.out; have := Z19.out; have := Z20.out; have := Z21.out; have := Z22.out; have := Z23.out; have := Z24.out; have := Z25.out; omega))
    have CA1_20 := Lib.hid (CA1_19.out.touch t20 (by have := Z1.out; have := Z2.out; have := Z3.out; have := Z4.out; have := Z5.out; have := Z6.out; have := Z7.out; have := Z8.out; have := Z9.out; have := Z10.out; have := Z11.out; have := Z12.out; have := Z13.out; have := Z14.out; have := Z15.out; have := Z16.out; have := Z17.out; have := Z18.out; have := Z19.out; have := Z20.out; have := Z21.out; have := Z22.out; have := Z23.out; have := Z24.out; have := Z25.out; omega))
    have CP_20 := Lib.hid (CP_19.out.touch t20 (by have := Z1.out; have := Z2.out; have := Z3.out; have := Z4.out; have := Z5.out; have := Z6.out; have := Z7.out; have := Z8.out; have := Z9.out; have := Z10.out; have := Z11.out; have := Z12.out; have := Z13.out; have := Z14.out; have := Z15.out; have := Z16.out; have := Z17.out; have := Z18.out; have := Z19.out; have := Z20.out; have := Z21.out; have := Z22.out; have := Z23.out; have := Z24.out; have := Z25.out; omega))
    have CX1_20 := Lib.hid (CX1_19.out.touch t20 (by have := Z1.out; have := Z2.out; have := Z3.out; have := Z4.out; have := Z5.out; have := Z6.out; have := Z7.out; have := Z8.out; have := Z9.out; have := Z10.out; have := Z11.out; have := Z12.out; have := Z13.out; have := Z14.out; have := Z15.out; have := Z16.out; have := Z17.out; have := Z18.out; have := Z19.out; have := Z20.out; have := Z21.out; have := Z22.out; have := Z23.out; have := Z24.out; have := Z25.out; omega))
    have CG_20 := Lib.hid (CG_19.out.touch t20 (by have := Z1.out; have := Z2.out; have := Z3.out; have := Z4.out; have := Z5.out; have := Z6.out; have := Z7.out; have := Z8.out; have := Z9.out; have := Z10.out; have := Z11.out; have := Z12.out; have := Z13.out; have := Z14.out; have := Z15.out; have := Z16.out; have := Z17.out; have := Z18.out; have := Z19.out; have := Z20.out; have := Z21.out; have := Z22.out; have := Z23.out; have := Z24.out; have := Z25.out; omega))
    have Rp_20 := Lib.hid (Rp_19.out.touch t20 (by have := Z1.out; have := Z2.out; have := Z3.out; have := Z4.out; have := Z5.out; have := Z6.out; have := Z7.out; have := Z8.out; have := Z9.out; have := Z10.out; have := Z11.out; have := Z12.out; have := Z13.out; have := Z14.out; have := Z15.out; have := Z16.out; have := Z17.out; have := Z18.out; have := Z19.out; have := Z20.out; have := Z21.out; have := Z22.out; have := Z23.out; have := Z24.out; have := Z25.out; omega))
    have Rg_20 := Lib.hid (Rg_19.out.touch t20 (by have := Z1.out; have := Z2.out; have := Z3.out; have := Z4.out; have := Z5.out; have := Z6.out; have := Z7.out; have := Z8.out; have := Z9.out; have := Z10.out; have := Z11.out; have := Z12.out; have := Z13.out; have := Z14.out; have := Z15.out; have := Z16.out; have := Z17.out; have := Z18.out; have := Z19.out; have := Z20.out; have := Z21.out; have := Z22.out; have := Z23.out; have := Z24.out; have := Z25.out; omega))
    have Z26 := Lib.hid (t20.size)
    have Rx1_20 := Lib.hid h20
    clear CA0_19 CA1_19 CP_19 CX1_19 CG_19 Rp_19 Rx1_19 Rg_19 HB_19 t20 h20
    clear Rx1_20 CX1_20
    have hkd := decide_eq_false (show ¬ (1 : Int) + (T0 : Int) + (T1 : Int) < 0 by omega)
    have kA00 := CA0_20.out.c0
    have kA01 := CA0_20.out.c1
    have kA02 := CA0_20.out.c2
    have kA10 := CA1_20.out.c0
    have kA11 := CA1_20.out.c1
    have kA12 := CA1_20.out.c2
    have kP0 := CP_20.out.c0
    have kP1 := CP_20.out.c1
    have kP2 := CP_20.out.c2
    have kG0 := CG_20.out.c0
    have kG1 := CG_20.out.c1
    have kG2 := CG_20.out.c2
    go_wp2_with fail
    clear kA00 kA01 kA02 kA10 kA11 kA12 kP0 kP1 kP2 kG0 kG1 kG2
    refine (eqS _ _ yb yr yo _ Rg_20.out.lies Rp_20.out.lies).mono ?_
    rintro e W21 ⟨rfl, fb21⟩
    have HB_21 := Lib.hid (HB_20.out.trans (fb21.mono HB_20.out.size))
    have CA0_21 := Lib.hid (CA0_20.out.below fb21)
    have CA1_21 := Lib.hid (CA1_20.out.below fb21)
    have CP_21 := Lib.hid (CP_20.out.below fb21)
    have CG_21 := Lib.hid (CG_20.out.below fb21)
    have Rp_21 := Lib.hid (Rp_20.out.below fb21)
    have Rg_21 := Lib.hid (Rg_20.out.below fb21)
    have Z27 := Lib.hid (fb21.size)
    clear CA0_20 CA1_20 CP_20 CG_20 Rp_20 Rg_20 HB_20 fb21
    have kA00 := CA0_21.out.c0
    have kA01 := CA0_21.out.c1
    have kA02 := CA0_21.out.c2
    have kA10 := CA1_21.out.c0
    have kA11 := CA1_21.out.c1
    have kA12 := CA1_21.out.c2
    have kP0 := CP_21.out.c0
    have kP1 := CP_21.out.c1
    have kP2 := CP_21.out.c2
    have kG0 := CG_21.out.c0
    have kG1 := CG_21.out.c1
    have kG2 := CG_21.out.c2
    go_wp2_with fail
    clear kA00 kA01 kA02 kA10 kA11 kA12 kP0 kP1 kP2 kG0 kG1 kG2
    refine (markS' _ yb yr yo Ty _ _ _ HTy.out Rg_21.out (by omega)).mono ?_
    rintro e W22 ⟨rfl, h22, t22⟩
    have HB_22 := Lib.hid (t22.below HB_21.out (by have := Z1.out; have := Z2.out; have := Z3.out; have := Z4.out; have := Z5.out; have := Z6.out; have := Z7.out; have := Z8.out; have := Z9.out; have := Z10.out; have := Z11.out; have := Z12.out; have := Z13.out; have := Z14.out; have := Z15.out; have := Z16.out; have := Z17.out; have := Z18.out; have := Z19.out; have := Z20.out; have := Z21.out; have := Z22.out; have := Z23.out; have := Z24.out; have := Z25.out; have := Z26.out; have := Z27.out; omega))
    have CA0_22 := Lib.hid (CA0_21.out.touch t22 (by have := Z1.out; have := Z2.out; have := Z3.out; have := Z4.out; have := Z5.out; have := Z6.out; have := Z7.out; have := Z8.out; have := Z9.out; have := Z10.out; have := Z11.out; have := Z12.out; have := Z13.out; have := Z14.out; have := Z15.out; have := Z16.out; have := Z17.out; have := Z18.out; have := Z19.out; have := Z20.out; have := Z21.out; have := Z22.out; have := Z23.out; have := Z24.out; have := Z25.out; have := Z26.out; have := Z27.out; omega))
    have CA1_22 := Lib.hid (CA1_21.out.touch t22 (by have := Z1.out; have := Z2.out; have := Z3.out; have := Z4.out; have := Z5.out; have := Z6.out; have := Z7.out; have := Z8.out; have := Z9.out; have := Z10.out; have := Z11.out; have := Z12.out; have := Z13.out; have := Z14.out; have := Z15.out; have := Z16.out; have := Z17.out; have := Z18.out; have := Z19.out; have := Z20.out; have := Z21.out; have := Z22.out; have := Z23.out; have := Z24.out; have := Z25.out; have := Z26.out; have := Z27.out; omega))
    have CP_22 := Lib.hid (CP_21.out.touch t22 (by have := Z1.out; have := Z2.out; have := Z3.out; have := Z4.out; have := Z5.out; have := Z6.out; have := Z7.out; have := Z8.out; have := Z9.out; have := Z10.out; have := Z11.out; have := Z12.out; have := Z13.out; have := Z14.out; have := Z15.out; have := Z16.out; have := Z17.out; have := Z18.out; have := Z19.out; have := Z20.out; have := Z21.out; have := Z22.out; have := Z23.out; have := Z24.out; have := Z25.out; have := Z26.out; have := Z27.out; omega))
    have CG_22 := Lib.hid (CG_21.out.touch t22 (by have := Z1.out; have := Z2.out; have := Z3.out; have := Z4.out; have := Z5.out; have := Z6.out; have := Z7.out; have := Z8.out; have := Z9.out; have := Z10.out; have := Z11.out; have := Z12.out; have := Z13.out; have := Z14.out; have := Z15.out; have := Z16.out; have := Z17.out; have := Z18.out; have := Z19.out; have := Z20.out; have := Z21.out; have := Z22.out; have := Z23.out; have := Z24.out; have := Z25.out; have := Z26.out; have := Z27.out; omega))
    have Rp_22 := Lib.hid (Rp_21.out.touch t22 (by have := Z1.out; have := Z2.out; have := Z3.out; have := Z4.out; have := Z5.out; have := Z6.out; have := Z7.out; have := Z8.out; have := Z9.out; have := Z10.out; have := Z11.out; have := Z12.out; have := Z13.out; have := Z14.out; have := Z15.out; have := Z16.out; have := Z17.out; have := Z18.out; have := Z19.out; have := Z20.out; have := Z21.out; have := Z22.out; have := Z23.out; have := Z24.out; have := Z25.out; have := Z26.out; have := Z27.out; omega))
    have Z28 := Lib.hid (t22.size)
    have Rg_22 := Lib.hid h22
    clear CA0_21 CA1_21 CP_21 CG_21 Rp_21 Rg_21 HB_21 t22 h22
    have kA00 := CA0_22.out.c0
    have kA01 := CA0_22.out.c1
    have kA02 := CA0_22.out.c2
    have kA10 := CA1_22.out.c0
    have kA11 := CA1_22.out.c1
    have kA12 := CA1_22.out.c2
    have kP0 := CP_22.out.c0
    have kP1 := CP_22.out.c1
    have kP2 := CP_22.out.c2
    have kG0 := CG_22.out.c0
    have kG1 := CG_22.out.c1
    have kG2 := CG_22.out.c2
    go_wp2_with fail
    clear kA00 kA01 kA02 kA10 kA11 kA12 kP0 kP1 kP2 kG0 kG1 kG2
    refine (heldS' _ yb yr yo Ty _ HTy.out Rg_22.out.lies (by omega)).mono ?_
    rintro e W23 ⟨rfl, fb23⟩
    have HB_23 := Lib.hid (HB_22.out.trans (fb23.mono HB_22.out.size))
    have CA0_23 := Lib.hid (CA0_22.out.below fb23)
    have CA1_23 := Lib.hid (CA1_22.out.below fb23)
    have CP_23 := Lib.hid (CP_22.out.below fb23)
    have CG_23 := Lib.hid (CG_22.out.below fb23)
    have Rp_23 := Lib.hid (Rp_22.out.below fb23)
    have Rg_23 := Lib.hid (Rg_22.out.below fb23)
    have Z29 := Lib.hid (fb23.size)
    clear CA0_22 CA1_22 CP_22 CG_22 Rp_22 Rg_22 HB_22 fb23
    have kA00 := CA0_23.out.c0
    have kA01 := CA0_23.out.c1
    have kA02 := CA0_23.out.c2
    have kA10 := CA1_23.out.c0
    have kA11 := CA1_23.out.c1
    have kA12 := CA1_23.out.c2
    have kP0 := CP_23.out.c0
    have kP1 := CP_23.out.c1
    have kP2 := CP_23.out.c2
    have kG0 := CG_23.out.c0
    have kG1 := CG_23.out.c1
    have kG2 := CG_23.out.c2
    go_wp2_with fail
    clear kA00 kA01 kA02 kA10 kA11 kA12 kP0 kP1 kP2 kG0 kG1 kG2
    go_cut [17, 18] (fun s s' wx => ∃ (B : Nat) (ap bp : Option Addr) (cp dp : Nat), s = .pointer (some ⟨B, 0, none⟩) ∧ s' = .bool yk ∧ Hid (W23.heap.size ≤ B) ∧ Hid (Cells3 wx B 27 (.int .i64 yb) (.slice ap yr.length cp) (.slice bp yo.length dp)) ∧ Hid (OwnS wx W23.heap.size wx.heap.size (.agg #[.int .i64 yb, .slice ap yr.length cp, .slice bp yo.length dp]) yb yr yo) ∧ Hid (Below W23.heap.size W23 wx))
    case first =>
      have fb0 := below_drew' W23
      refine wp_region_held_drew (S := fun w' => w'.cell? ⟨w.heap.size, 0, none⟩ = some (.int .i64 b0) ∧ w'.cell? ⟨w.heap.size, 1, none⟩ = some (.slice an0 rows0.length cn0) ∧ w'.cell? ⟨w.heap.size, 2, none⟩ = some (.slice ao0 out0.length co0) ∧ w'.cell? ⟨w.heap.size + 1, 0, none⟩ = some (.int .i64 b1) ∧ w'.cell? ⟨w.heap.size + 1, 1, none⟩ = some (.slice an1 rows1.length cn1) ∧ w'.cell? ⟨w.heap.size + 1, 2, none⟩ = some (.slice ao1 out1.length co1)) (by kernel_rfl) ⟨(CA0_23.out.below fb0).c0, (CA0_23.out.below fb0).c1, (CA0_23.out.below fb0).c2, (CA1_23.out.below fb0).c0, (CA1_23.out.below fb0).c1, (CA1_23.out.below fb0).c2⟩ (fun hHeld => ?_)
      refine wpAnyH_take (i := 0) (oi := { dst := some 99, op := Op.load 25 (Operand.tmp 3), type := 25, pos := "exact.go:1829", after := #[], guard := none }) (v := ?_) rfl (by kernel_rfl) (by kernel_rfl) (by kernel_rfl) (fun _ _ _ h => h) (Or.inl ⟨by rfl, ?_⟩) (by assumption) ?_
      rotate_left
      focus (intro w' hSw; (try dsimp only at hSw); first | (go_simp; done) | (go_simp; with_reducible rfl))
      try simp only [Act.put, List.setIfInBounds_toArray, List.set_cons_zero, List.set_cons_succ]
      refine wpAnyH_take (i := 2) (oi := { dst := some 101, op := Op.load 25 (Operand.tmp 4), type := 25, pos := "exact.go:1829", after := #[], guard := none }) (v := ?_) rfl (by kernel_rfl) (by kernel_rfl) (by kernel_rfl) (fun _ _ _ h => h) (Or.inl ⟨by rfl, ?_⟩) (by assumption) ?_
      rotate_left
      focus (intro w' hSw; (try dsimp only at hSw); first | (go_simp; done) | (go_simp; with_reducible rfl))
      try simp only [Act.put, List.setIfInBounds_toArray, List.set_cons_zero, List.set_cons_succ]
      refine wpAnyH_take (i := 4) (oi := { dst := some 103, op := Op.move (Operand.tmp 2), type := 3, pos := "exact.go:1829", after := #[], guard := none }) (v := ?_) rfl (by kernel_rfl) (by kernel_rfl) (by kernel_rfl) (fun _ _ _ h => h) (Or.inl ⟨by rfl, ?_⟩) (by assumption) ?_
      rotate_left
      focus (intro w' hSw; (try dsimp only at hSw); first | (go_simp; done) | (go_simp; with_reducible rfl))
      try simp only [Act.put, List.setIfInBounds_toArray, List.set_cons_zero, List.set_cons_succ]
      refine wpAnyH_ready (rs := [1, 9]) (by kernel_rfl) (by simp) ?_
      refine AllReadyH.cons (o := { dst := some 100, op := Op.call { callee := Callee.value (Operand.func 12), args := #[Operand.tmp 99], argTypes := #[25] }, type := 27, pos := "exact.go:1829", after := #[{ on := 0, ground := Ground.data }], guard := none }) rfl (fun K hK => ?_) (AllReadyH.cons (o := { dst := some 17, op := Op.alloc 27, type := 0, pos := "exact.go:1829", after := #[], guard := none }) rfl (fun K hK => ?_) AllReadyH.nil)
      · go_simp
        go_at_call 12
        (with_reducible refine (toS _ b0 rows0 out0 _ (ARG0.out.below (HB_23.out.trans (fb0.mono HB_23.out.size))) hz0).mono ?_)
        rintro e V0 ⟨v0, rfl, h0, g0⟩
        have fb1 := fb0.trans (g0.mono fb0.size)
        have la0 := h0.lies
        refine hK.out _ _ ⟨(CA0_23.out.below fb1).c0, (CA0_23.out.below fb1).c1, (CA0_23.out.below fb1).c2, (CA1_23.out.below fb1).c0, (CA1_23.out.below fb1).c1, (CA1_23.out.below fb1).c2⟩ (fun hHeld => ?_)
        clear hK K
        try simp only [Act.put, List.setIfInBounds_toArray, List.set_cons_zero, List.set_cons_succ]
        refine wpAnyH_ready (rs := [3, 9]) (by kernel_rfl) (by simp) ?_
        refine AllReadyH.cons (o := { dst := some 102, op := Op.call { callee := Callee.value (Operand.func 12), args := #[Operand.tmp 101], argTypes := #[25] }, type := 27, pos := "exact.go:1829", after := #[{ on := 2, ground := Ground.data }, { on := 1, ground := Ground.chain }], guard := none }) rfl (fun K hK => ?_) (AllReadyH.cons (o := { dst := some 17, op := Op.alloc 27, type := 0, pos := "exact.go:1829", after := #[], guard := none }) rfl (fun K hK => ?_) AllReadyH.nil)
        · go_simp
          go_at_call 12
          (with_reducible refine (toS _ b1 rows1 out1 _ (ARG1.out.below (HB_23.out.trans (fb1.mono HB_23.out.size))) hz1).mono ?_)
          rintro e V1 ⟨v1, rfl, h1, g1⟩
          have fb2 := fb1.trans (g1.mono fb1.size)
          have la1 := la0.below g1
          have lb1 := h1.lies
          refine hK.out _ _ ⟨(CA0_23.out.below fb2).c0, (CA0_23.out.below fb2).c1, (CA0_23.out.below fb2).c2, (CA1_23.out.below fb2).c0, (CA1_23.out.below fb2).c1, (CA1_23.out.below fb2).c2⟩ (fun hHeld => ?_)
          clear hK K
          try simp only [Act.put, List.setIfInBounds_toArray, List.set_cons_zero, List.set_cons_succ]
          refine wpAnyH_ready (rs := [5, 9]) (by kernel_rfl) (by simp) ?_
          refine AllReadyH.cons (o := { dst := some 104, op := Op.call { callee := Callee.value (Operand.func 13), args := #[Operand.tmp 100, Operand.tmp 102, Operand.tmp 103], argTypes := #[27, 27, 3] }, type := 28, pos := "exact.go:1829", after := #[{ on := 1, ground := Ground.data }, { on := 3, ground := Ground.data }, { on := 4, ground := Ground.data }, { on := 3, ground := Ground.chain }], guard := none }) rfl (fun K hK => ?_) (AllReadyH.cons (o := { dst := some 17, op := Op.alloc 27, type := 0, pos := "exact.go:1829", after := #[], guard := none }) rfl (fun K hK => ?_) AllReadyH.nil)
          · go_simp
            go_at_call 13
            (with_reducible refine (CI.out _ _ la1 _ lb1).mono ?_)
            rintro e V2 ⟨v2, rfl, h2, g2⟩
            obtain ⟨ap, cp, bp, dp, rfl⟩ := h2.form
            have fb3 := fb2.trans (g2.mono fb2.size)
            have la2 := la1.below g2
            have lb2 := lb1.below g2
            refine hK.out _ _ ⟨(CA0_23.out.below fb3).c0, (CA0_23.out.below fb3).c1, (CA0_23.out.below fb3).c2, (CA1_23.out.below fb3).c0, (CA1_23.out.below fb3).c1, (CA1_23.out.below fb3).c2⟩ (fun hHeld => ?_)
            clear hK K
            try simp only [Act.put, List.setIfInBounds_toArray, List.set_cons_zero, List.set_cons_succ]
            refine wpAnyH_take (i := 6) (oi := { dst := some 98, op := Op.move (Operand.tmp 104), type := 28, pos := "exact.go:1829", after := #[{ on := 5, ground := Ground.data }], guard := none }) (v := ?_) rfl (by kernel_rfl) (by kernel_rfl) (by kernel_rfl) (fun _ _ _ h => h) (Or.inl ⟨by rfl, ?_⟩) (by assumption) ?_
            rotate_left
            focus (intro w' hSw; (try dsimp only at hSw); first | (go_simp; done) | (go_simp; with_reducible rfl))
            try simp only [Act.put, List.setIfInBounds_toArray, List.set_cons_zero, List.set_cons_succ]
            refine wpAnyH_take (i := 7) (oi := { dst := some 105, op := Op.extract (Operand.tmp 98) 0, type := 27, pos := "exact.go:1829", after := #[{ on := 6, ground := Ground.data }], guard := none }) (v := ?_) rfl (by kernel_rfl) (by kernel_rfl) (by kernel_rfl) (fun _ _ _ h => h) (Or.inl ⟨by rfl, ?_⟩) (by assumption) ?_
            rotate_left
            focus (intro w' hSw; (try dsimp only at hSw); first | (go_simp; done) | (go_simp; with_reducible rfl))
            try simp only [Act.put, List.setIfInBounds_toArray, List.set_cons_zero, List.set_cons_succ]
            refine wpAnyH_take (i := 8) (oi := { dst := some 106, op := Op.extract (Operand.tmp 98) 1, type := 4, pos := "exact.go:1829", after := #[{ on := 6, ground := Ground.data }, { on := 10, ground := Ground.gcOnly Departure.lateStores }], guard := none }) (v := ?_) rfl (by kernel_rfl) (by kernel_rfl) (by kernel_rfl) (fun _ _ _ h => h) (Or.inl ⟨by rfl, ?_⟩) (by assumption) ?_
            rotate_left
            focus (intro w' hSw; (try dsimp only at hSw); first | (go_simp; done) | (go_simp; with_reducible rfl))
            try simp only [Act.put, List.setIfInBounds_toArray, List.set_cons_zero, List.set_cons_succ]
            refine wpAnyH_ready (rs := [9]) (by kernel_rfl) (by simp) ?_
            refine AllReadyH.cons (o := { dst := some 17, op := Op.alloc 27, type := 0, pos := "exact.go:1829", after := #[], guard := none }) rfl (fun K hK => ?_) AllReadyH.nil
            · go_simp
              have g3 : Below V2.heap.size V2 (V2.alloc (Obj.cells #[Value.int .i64 0, Value.slice none 0 0, Value.slice none 0 0] 27)) := (Below.refl _ _).alloc (Nat.le_refl _) _
              have cz3 := Cells3.new V2 27 (.int .i64 0) (.slice none 0 0) (.slice none 0 0)
              have hb3 : W23.heap.size ≤ V2.heap.size := fb3.size
              obtain ⟨Bz, hBz⟩ : ∃ z, z = V2.heap.size := ⟨_, rfl⟩
              rw [← hBz] at hb3 cz3 ⊢
              obtain ⟨V3, hW3⟩ : ∃ W, W = V2.alloc (Obj.cells #[Value.int .i64 0, Value.slice none 0 0, Value.slice none 0 0] 27) := ⟨_, rfl⟩
              rw [← hW3] at g3 cz3 ⊢
              have hzw : Bz < V3.heap.size := cz3.lt
              have hzo := Lib.hid (show Bz = V2.heap.size from hBz)
              clear hW3 hBz
              have fb4 := fb3.trans (g3.mono fb3.size)
              have la3 := la2.below g3
              have lb3 := lb2.below g3
              have hp3 := h2.below g3
              refine hK.out _ _ ⟨(CA0_23.out.below fb4).c0, (CA0_23.out.below fb4).c1, (CA0_23.out.below fb4).c2, (CA1_23.out.below fb4).c0, (CA1_23.out.below fb4).c1, (CA1_23.out.below fb4).c2⟩ (fun hHeld => ?_)
              clear hK K
              try simp only [Act.put, List.setIfInBounds_toArray, List.set_cons_zero, List.set_cons_succ]
              refine wpAnyH_ready (rs := [10]) (by kernel_rfl) (by simp) ?_
              refine AllReadyH.cons (o := { dst := none, op := Op.store 27 (Operand.tmp 17) (Operand.tmp 105), type := 0, pos := "exact.go:1829", after := #[{ on := 9, ground := Ground.data }, { on := 7, ground := Ground.data }, { on := 5, ground := Ground.chain }, { on := 0, ground := Ground.phase }, { on := 1, ground := Ground.phase }, { on := 2, ground := Ground.phase }, { on := 3, ground := Ground.phase }, { on := 4, ground := Ground.phase }, { on := 5, ground := Ground.phase }, { on := 6, ground := Ground.phase }, { on := 7, ground := Ground.phase }, { on := 8, ground := Ground.textOnly Departure.lateStores }, { on := 9, ground := Ground.phase }], guard := none }) rfl (fun K hK => ?_) AllReadyH.nil
              obtain ⟨z0, z1, z2⟩ := (⟨cz3.c0, cz3.c1, cz3.c2⟩ : _ ∧ _ ∧ _)
              have z3 := cz3.f
              go_simp
              have c3 := ((cz3.set0 (.int .i64 yb)).set1 (.slice ap yr.length cp)).set2 (.slice bp yo.length dp)
              have fz : Below W23.heap.size W23 (((V3.setCell ⟨Bz, 0, none⟩ (.int .i64 yb)).setCell ⟨Bz, 1, none⟩ (.slice ap yr.length cp)).setCell ⟨Bz, 2, none⟩ (.slice bp yo.length dp)) := ((fb4.setCell hb3 _).setCell hb3 _).setCell hb3 _
              have hT : ∀ (i : Nat) (u : Value) (W : World), Plain.Touch Bz (Bz + 1) W (W.setCell ⟨Bz, i, none⟩ u) := fun i u W => Plain.Touch.of_set (a := ⟨Bz, i, none⟩) u (Nat.le_refl _) (Nat.lt_succ_self _)
              have hq := own_wide ((hp3.touch (((hT 0 (.int .i64 yb) V3).trans (hT 1 (.slice ap yr.length cp) _)).trans (hT 2 (.slice bp yo.length dp) _)) (.inl (Nat.le_of_eq hzo.out.symm))).lower fb2.size) (hi' := V3.heap.size) g3.size (by rw [size_setCell', size_setCell', size_setCell']; exact Nat.le_refl _)
              obtain ⟨Wz, hWz⟩ : ∃ W, W = (((V3.setCell ⟨Bz, 0, none⟩ (.int .i64 yb)).setCell ⟨Bz, 1, none⟩ (.slice ap yr.length cp)).setCell ⟨Bz, 2, none⟩ (.slice bp yo.length dp)) := ⟨_, rfl⟩
              have hsz : V3.heap.size = Wz.heap.size := by rw [hWz, size_setCell', size_setCell', size_setCell']
              rw [← hWz] at c3 fz hq ⊢
              rw [hsz] at hq
              clear hWz hsz hT z0 z1 z2 z3
              refine hK.out _ _ ⟨(CA0_23.out.below fz).c0, (CA0_23.out.below fz).c1, (CA0_23.out.below fz).c2, (CA1_23.out.below fz).c0, (CA1_23.out.below fz).c1, (CA1_23.out.below fz).c2⟩ (fun hHeld => ?_)
              clear hK K
              try simp only [Act.put, List.setIfInBounds_toArray, List.set_cons_zero, List.set_cons_succ]
              skip
              refine wpAnyH_take (i := 11) (oi := { dst := some 18, op := Op.assign (Operand.tmp 106), type := 4, pos := "exact.go:1829", after := #[{ on := 8, ground := Ground.data }, { on := 10, ground := Ground.chain }, { on := 0, ground := Ground.phase }, { on := 1, ground := Ground.phase }, { on := 2, ground := Ground.phase }, { on := 3, ground := Ground.phase }, { on := 4, ground := Ground.phase }, { on := 5, ground := Ground.phase }, { on := 6, ground := Ground.phase }, { on := 7, ground := Ground.phase }, { on := 8, ground := Ground.phase }, { on := 9, ground := Ground.phase }, { on := 10, ground := Ground.phase }], guard := none }) (v := ?_) rfl (by kernel_rfl) (by kernel_rfl) (by kernel_rfl) (fun _ _ _ h => h) (Or.inl ⟨by rfl, ?_⟩) (by assumption) ?_
              rotate_left
              focus (intro w' hSw; (try dsimp only at hSw); first | (go_simp; done) | (go_simp; with_reducible rfl))
              try simp only [Act.put, List.setIfInBounds_toArray, List.set_cons_zero, List.set_cons_succ]
              refine wpAnyH_done (by kernel_rfl) ?_ _
              go_wp2_with fail
              go_meet
              exact ⟨_, _, _, _, _, rfl, rfl, hb3, c3, hq, fz⟩
          · go_simp
            have g5 : Below V1.heap.size V1 (V1.alloc (Obj.cells #[Value.int .i64 0, Value.slice none 0 0, Value.slice none 0 0] 27)) := (Below.refl _ _).alloc (Nat.le_refl _) _
            have cz5 := Cells3.new V1 27 (.int .i64 0) (.slice none 0 0) (.slice none 0 0)
            have hb5 : W23.heap.size ≤ V1.heap.size := fb2.size
            obtain ⟨Bz, hBz⟩ : ∃ z, z = V1.heap.size := ⟨_, rfl⟩
            rw [← hBz] at hb5 cz5 ⊢
            obtain ⟨V5, hW5⟩ : ∃ W, W = V1.alloc (Obj.cells #[Value.int .i64 0, Value.slice none 0 0, Value.slice none 0 0] 27) := ⟨_, rfl⟩
            rw [← hW5] at g5 cz5 ⊢
            have hzw : Bz < V5.heap.size := cz5.lt
            have hzo := Lib.hid (show Bz = V1.heap.size from hBz)
            clear hW5 hBz
            have fb6 := fb2.trans (g5.mono fb2.size)
            have la5 := la1.below g5
            have lb5 := lb1.below g5
            refine hK.out _ _ ⟨(CA0_23.out.below fb6).c0, (CA0_23.out.below fb6).c1, (CA0_23.out.below fb6).c2, (CA1_23.out.below fb6).c0, (CA1_23.out.below fb6).c1, (CA1_23.out.below fb6).c2⟩ (fun hHeld => ?_)
            clear hK K
            try simp only [Act.put, List.setIfInBounds_toArray, List.set_cons_zero, List.set_cons_succ]
            refine wpAnyH_ready (rs := [5]) (by kernel_rfl) (by simp) ?_
            refine AllReadyH.cons (o := { dst := some 104, op := Op.call { callee := Callee.value (Operand.func 13), args := #[Operand.tmp 100, Operand.tmp 102, Operand.tmp 103], argTypes := #[27, 27, 3] }, type := 28, pos := "exact.go:1829", after := #[{ on := 1, ground := Ground.data }, { on := 3, ground := Ground.data }, { on := 4, ground := Ground.data }, { on := 3, ground := Ground.chain }], guard := none }) rfl (fun K hK => ?_) AllReadyH.nil
            · go_simp
              go_at_call 13
              (with_reducible refine (CI.out _ _ la5 _ lb5).mono ?_)
              rintro e V6 ⟨v6, rfl, h6, g6⟩
              obtain ⟨ap, cp, bp, dp, rfl⟩ := h6.form
              have fb7 := fb6.trans (g6.mono fb6.size)
              have la6 := la5.below g6
              have lb6 := lb5.below g6
              have cz6 := cz5.below g6
              have hzl6 : Bz < V5.heap.size := cz5.lt
              refine hK.out _ _ ⟨(CA0_23.out.below fb7).c0, (CA0_23.out.below fb7).c1, (CA0_23.out.below fb7).c2, (CA1_23.out.below fb7).c0, (CA1_23.out.below fb7).c1, (CA1_23.out.below fb7).c2⟩ (fun hHeld => ?_)
              clear hK K
              try simp only [Act.put, List.setIfInBounds_toArray, List.set_cons_zero, List.set_cons_succ]
              refine wpAnyH_take (i := 6) (oi := { dst := some 98, op := Op.move (Operand.tmp 104), type := 28, pos := "exact.go:1829", after := #[{ on := 5, ground := Ground.data }], guard := none }) (v := ?_) rfl (by kernel_rfl) (by kernel_rfl) (by kernel_rfl) (fun _ _ _ h => h) (Or.inl ⟨by rfl, ?_⟩) (by assumption) ?_
              rotate_left
              focus (intro w' hSw; (try dsimp only at hSw); first | (go_simp; done) | (go_simp; with_reducible rfl))
              try simp only [Act.put, List.setIfInBounds_toArray, List.set_cons_zero, List.set_cons_succ]
              refine wpAnyH_take (i := 7) (oi := { dst := some 105, op := Op.extract (Operand.tmp 98) 0, type := 27, pos := "exact.go:1829", after := #[{ on := 6, ground := Ground.data }], guard := none }) (v := ?_) rfl (by kernel_rfl) (by kernel_rfl) (by kernel_rfl) (fun _ _ _ h => h) (Or.inl ⟨by rfl, ?_⟩) (by assumption) ?_
              rotate_left
              focus (intro w' hSw; (try dsimp only at hSw); first | (go_simp; done) | (go_simp; with_reducible rfl))
              try simp only [Act.put, List.setIfInBounds_toArray, List.set_cons_zero, List.set_cons_succ]
              refine wpAnyH_take (i := 8) (oi := { dst := some 106, op := Op.extract (Operand.tmp 98) 1, type := 4, pos := "exact.go:1829", after := #[{ on := 6, ground := Ground.data }, { on := 10, ground := Ground.gcOnly Departure.lateStores }], guard := none }) (v := ?_) rfl (by kernel_rfl) (by kernel_rfl) (by kernel_rfl) (fun _ _ _ h => h) (Or.inl ⟨by rfl, ?_⟩) (by assumption) ?_
              rotate_left
              focus (intro w' hSw; (try dsimp only at hSw); first | (go_simp; done) | (go_simp; with_reducible rfl))
              try simp only [Act.put, List.setIfInBounds_toArray, List.set_cons_zero, List.set_cons_succ]
              refine wpAnyH_ready (rs := [10]) (by kernel_rfl) (by simp) ?_
              refine AllReadyH.cons (o := { dst := none, op := Op.store 27 (Operand.tmp 17) (Operand.tmp 105), type := 0, pos := "exact.go:1829", after := #[{ on := 9, ground := Ground.data }, { on := 7, ground := Ground.data }, { on := 5, ground := Ground.chain }, { on := 0, ground := Ground.phase }, { on := 1, ground := Ground.phase }, { on := 2, ground := Ground.phase }, { on := 3, ground := Ground.phase }, { on := 4, ground := Ground.phase }, { on := 5, ground := Ground.phase }, { on := 6, ground := Ground.phase }, { on := 7, ground := Ground.phase }, { on := 8, ground := Ground.textOnly Departure.lateStores }, { on := 9, ground := Ground.phase }], guard := none }) rfl (fun K hK => ?_) AllReadyH.nil
              obtain ⟨z0, z1, z2⟩ := (⟨cz6.c0, cz6.c1, cz6.c2⟩ : _ ∧ _ ∧ _)
              have z3 := cz6.f
              go_simp
              have c3 := ((cz6.set0 (.int .i64 yb)).set1 (.slice ap yr.length cp)).set2 (.slice bp yo.length dp)
              have fz : Below W23.heap.size W23 (((V6.setCell ⟨Bz, 0, none⟩ (.int .i64 yb)).setCell ⟨Bz, 1, none⟩ (.slice ap yr.length cp)).setCell ⟨Bz, 2, none⟩ (.slice bp yo.length dp)) := ((fb7.setCell hb5 _).setCell hb5 _).setCell hb5 _
              have hT : ∀ (i : Nat) (u : Value) (W : World), Plain.Touch Bz (Bz + 1) W (W.setCell ⟨Bz, i, none⟩ u) := fun i u W => Plain.Touch.of_set (a := ⟨Bz, i, none⟩) u (Nat.le_refl _) (Nat.lt_succ_self _)
              have hq := own_wide ((h6.touch (((hT 0 (.int .i64 yb) V6).trans (hT 1 (.slice ap yr.length cp) _)).trans (hT 2 (.slice bp yo.length dp) _)) (.inr (Nat.succ_le_of_lt hzl6))).lower fb6.size) (hi' := V6.heap.size) (Nat.le_refl _) (by rw [size_setCell', size_setCell', size_setCell']; exact Nat.le_refl _)
              obtain ⟨Wz, hWz⟩ : ∃ W, W = (((V6.setCell ⟨Bz, 0, none⟩ (.int .i64 yb)).setCell ⟨Bz, 1, none⟩ (.slice ap yr.length cp)).setCell ⟨Bz, 2, none⟩ (.slice bp yo.length dp)) := ⟨_, rfl⟩
              have hsz : V6.heap.size = Wz.heap.size := by rw [hWz, size_setCell', size_setCell', size_setCell']
              rw [← hWz] at c3 fz hq ⊢
              rw [hsz] at hq
              clear hWz hsz hT z0 z1 z2 z3
              refine hK.out _ _ ⟨(CA0_23.out.below fz).c0, (CA0_23.out.below fz).c1, (CA0_23.out.below fz).c2, (CA1_23.out.below fz).c0, (CA1_23.out.below fz).c1, (CA1_23.out.below fz).c2⟩ (fun hHeld => ?_)
              clear hK K
              try simp only [Act.put, List.setIfInBounds_toArray, List.set_cons_zero, List.set_cons_succ]
              skip
              refine wpAnyH_take (i := 11) (oi := { dst := some 18, op := Op.assign (Operand.tmp 106), type := 4, pos := "exact.go:1829", after := #[{ on := 8, ground := Ground.data }, { on := 10, ground := Ground.chain }, { on := 0, ground := Ground.phase }, { on := 1, ground := Ground.phase }, { on := 2, ground := Ground.phase }, { on := 3, ground := Ground.phase }, { on := 4, ground := Ground.phase }, { on := 5, ground := Ground.phase }, { on := 6, ground := Ground.phase }, { on := 7, ground := Ground.phase }, { on := 8, ground := Ground.phase }, { on := 9, ground := Ground.phase }, { on := 10, ground := Ground.phase }], guard := none }) (v := ?_) rfl (by kernel_rfl) (by kernel_rfl) (by kernel_rfl) (fun _ _ _ h => h) (Or.inl ⟨by rfl, ?_⟩) (by assumption) ?_
              rotate_left
              focus (intro w' hSw; (try dsimp only at hSw); first | (go_simp; done) | (go_simp; with_reducible rfl))
              try simp only [Act.put, List.setIfInBounds_toArray, List.set_cons_zero, List.set_cons_succ]
              refine wpAnyH_done (by kernel_rfl) ?_ _
              go_wp2_with fail
              go_meet
              exact ⟨_, _, _, _, _, rfl, rfl, hb5, c3, hq, fz⟩
        · go_simp
          have g8 : Below V0.heap.size V0 (V0.alloc (Obj.cells #[Value.int .i64 0, Value.slice none 0 0, Value.slice none 0 0] 27)) := (Below.refl _ _).alloc (Nat.le_refl _) _
          have cz8 := Cells3.new V0 27 (.int .i64 0) (.slice none 0 0) (.slice none 0 0)
          have hb8 : W23.heap.size ≤ V0.heap.size := fb1.size
          obtain ⟨Bz, hBz⟩ : ∃ z, z = V0.heap.size := ⟨_, rfl⟩
          rw [← hBz] at hb8 cz8 ⊢
          obtain ⟨V8, hW8⟩ : ∃ W, W = V0.alloc (Obj.cells #[Value.int .i64 0, Value.slice none 0 0, Value.slice none 0 0] 27) := ⟨_, rfl⟩
          rw [← hW8] at g8 cz8 ⊢
          have hzw : Bz < V8.heap.size := cz8.lt
          have hzo := Lib.hid (show Bz = V0.heap.size from hBz)
          clear hW8 hBz
          have fb9 := fb1.trans (g8.mono fb1.size)
          have la8 := la0.below g8
          refine hK.out _ _ ⟨(CA0_23.out.below fb9).c0, (CA0_23.out.below fb9).c1, (CA0_23.out.below fb9).c2, (CA1_23.out.below fb9).c0, (CA1_23.out.below fb9).c1, (CA1_23.out.below fb9).c2⟩ (fun hHeld => ?_)
          clear hK K
          try simp only [Act.put, List.setIfInBounds_toArray, List.set_cons_zero, List.set_cons_succ]
          refine wpAnyH_ready (rs := [3]) (by kernel_rfl) (by simp) ?_
          refine AllReadyH.cons (o := { dst := some 102, op := Op.call { callee := Callee.value (Operand.func 12), args := #[Operand.tmp 101], argTypes := #[25] }, type := 27, pos := "exact.go:1829", after := #[{ on := 2, ground := Ground.data }, { on := 1, ground := Ground.chain }], guard := none }) rfl (fun K hK => ?_) AllReadyH.nil
          · go_simp
            go_at_call 12
            (with_reducible refine (toS _ b1 rows1 out1 _ (ARG1.out.below (HB_23.out.trans (fb9.mono HB_23.out.size))) hz1).mono ?_)
            rintro e V9 ⟨v9, rfl, h9, g9⟩
            have fb10 := fb9.trans (g9.mono fb9.size)
            have la9 := la8.below g9
            have cz9 := cz8.below g9
            have hzl9 : Bz < V8.heap.size := cz8.lt
            have lb9 := h9.lies
            refine hK.out _ _ ⟨(CA0_23.out.below fb10).c0, (CA0_23.out.below fb10).c1, (CA0_23.out.below fb10).c2, (CA1_23.out.below fb10).c0, (CA1_23.out.below fb10).c1, (CA1_23.out.below fb10).c2⟩ (fun hHeld => ?_)
            clear hK K
            try simp only [Act.put, List.setIfInBounds_toArray, List.set_cons_zero, List.set_cons_succ]
            refine wpAnyH_ready (rs := [5]) (by kernel_rfl) (by simp) ?_
            refine AllReadyH.cons (o := { dst := some 104, op := Op.call { callee := Callee.value (Operand.func 13), args := #[Operand.tmp 100, Operand.tmp 102, Operand.tmp 103], argTypes := #[27, 27, 3] }, type := 28, pos := "exact.go:1829", after := #[{ on := 1, ground := Ground.data }, { on := 3, ground := Ground.data }, { on := 4, ground := Ground.data }, { on := 3, ground := Ground.chain }], guard := none }) rfl (fun K hK => ?_) AllReadyH.nil
            · go_simp
              go_at_call 13
              (with_reducible refine (CI.out _ _ la9 _ lb9).mono ?_)
              rintro e V10 ⟨v10, rfl, h10, g10⟩
              obtain ⟨ap, cp, bp, dp, rfl⟩ := h10.form
              have fb11 := fb10.trans (g10.mono fb10.size)
              have la10 := la9.below g10
              have lb10 := lb9.below g10
              have cz10 := cz9.below g10
              have hzl10 : Bz < V9.heap.size := cz9.lt
              refine hK.out _ _ ⟨(CA0_23.out.below fb11).c0, (CA0_23.out.below fb11).c1, (CA0_23.out.below fb11).c2, (CA1_23.out.below fb11).c0, (CA1_23.out.below fb11).c1, (CA1_23.out.below fb11).c2⟩ (fun hHeld => ?_)
              clear hK K
              try simp only [Act.put, List.setIfInBounds_toArray, List.set_cons_zero, List.set_cons_succ]
              refine wpAnyH_take (i := 6) (oi := { dst := some 98, op := Op.move (Operand.tmp 104), type := 28, pos := "exact.go:1829", after := #[{ on := 5, ground := Ground.data }], guard := none }) (v := ?_) rfl (by kernel_rfl) (by kernel_rfl) (by kernel_rfl) (fun _ _ _ h => h) (Or.inl ⟨by rfl, ?_⟩) (by assumption) ?_
              rotate_left
              focus (intro w' hSw; (try dsimp only at hSw); first | (go_simp; done) | (go_simp; with_reducible rfl))
              try simp only [Act.put, List.setIfInBounds_toArray, List.set_cons_zero, List.set_cons_succ]
              refine wpAnyH_take (i := 7) (oi := { dst := some 105, op := Op.extract (Operand.tmp 98) 0, type := 27, pos := "exact.go:1829", after := #[{ on := 6, ground := Ground.data }], guard := none }) (v := ?_) rfl (by kernel_rfl) (by kernel_rfl) (by kernel_rfl) (fun _ _ _ h => h) (Or.inl ⟨by rfl, ?_⟩) (by assumption) ?_
              rotate_left
              focus (intro w' hSw; (try dsimp only at hSw); first | (go_simp; done) | (go_simp; with_reducible rfl))
              try simp only [Act.put, List.setIfInBounds_toArray, List.set_cons_zero, List.set_cons_succ]
              refine wpAnyH_take (i := 8) (oi := { dst := some 106, op := Op.extract (Operand.tmp 98) 1, type := 4, pos := "exact.go:1829", after := #[{ on := 6, ground := Ground.data }, { on := 10, ground := Ground.gcOnly Departure.lateStores }], guard := none }) (v := ?_) rfl (by kernel_rfl) (by kernel_rfl) (by kernel_rfl) (fun _ _ _ h => h) (Or.inl ⟨by rfl, ?_⟩) (by assumption) ?_
              rotate_left
              focus (intro w' hSw; (try dsimp only at hSw); first | (go_simp; done) | (go_simp; with_reducible rfl))
              try simp only [Act.put, List.setIfInBounds_toArray, List.set_cons_zero, List.set_cons_succ]
              refine wpAnyH_ready (rs := [10]) (by kernel_rfl) (by simp) ?_
              refine AllReadyH.cons (o := { dst := none, op := Op.store 27 (Operand.tmp 17) (Operand.tmp 105), type := 0, pos := "exact.go:1829", after := #[{ on := 9, ground := Ground.data }, { on := 7, ground := Ground.data }, { on := 5, ground := Ground.chain }, { on := 0, ground := Ground.phase }, { on := 1, ground := Ground.phase }, { on := 2, ground := Ground.phase }, { on := 3, ground := Ground.phase }, { on := 4, ground := Ground.phase }, { on := 5, ground := Ground.phase }, { on := 6, ground := Ground.phase }, { on := 7, ground := Ground.phase }, { on := 8, ground := Ground.textOnly Departure.lateStores }, { on := 9, ground := Ground.phase }], guard := none }) rfl (fun K hK => ?_) AllReadyH.nil
              obtain ⟨z0, z1, z2⟩ := (⟨cz10.c0, cz10.c1, cz10.c2⟩ : _ ∧ _ ∧ _)
              have z3 := cz10.f
              go_simp
              have c3 := ((cz10.set0 (.int .i64 yb)).set1 (.slice ap yr.length cp)).set2 (.slice bp yo.length dp)
              have fz : Below W23.heap.size W23 (((V10.setCell ⟨Bz, 0, none⟩ (.int .i64 yb)).setCell ⟨Bz, 1, none⟩ (.slice ap yr.length cp)).setCell ⟨Bz, 2, none⟩ (.slice bp yo.length dp)) := ((fb11.setCell hb8 _).setCell hb8 _).setCell hb8 _
              have hT : ∀ (i : Nat) (u : Value) (W : World), Plain.Touch Bz (Bz + 1) W (W.setCell ⟨Bz, i, none⟩ u) := fun i u W => Plain.Touch.of_set (a := ⟨Bz, i, none⟩) u (Nat.le_refl _) (Nat.lt_succ_self _)
              have hq := own_wide ((h10.touch (((hT 0 (.int .i64 yb) V10).trans (hT 1 (.slice ap yr.length cp) _)).trans (hT 2 (.slice bp yo.length dp) _)) (.inr (Nat.succ_le_of_lt hzl10))).lower fb10.size) (hi' := V10.heap.size) (Nat.le_refl _) (by rw [size_setCell', size_setCell', size_setCell']; exact Nat.le_refl _)
              obtain ⟨Wz, hWz⟩ : ∃ W, W = (((V10.setCell ⟨Bz, 0, none⟩ (.int .i64 yb)).setCell ⟨Bz, 1, none⟩ (.slice ap yr.length cp)).setCell ⟨Bz, 2, none⟩ (.slice bp yo.length dp)) := ⟨_, rfl⟩
              have hsz : V10.heap.size = Wz.heap.size := by rw [hWz, size_setCell', size_setCell', size_setCell']
              rw [← hWz] at c3 fz hq ⊢
              rw [hsz] at hq
              clear hWz hsz hT z0 z1 z2 z3
              refine hK.out _ _ ⟨(CA0_23.out.below fz).c0, (CA0_23.out.below fz).c1, (CA0_23.out.below fz).c2, (CA1_23.out.below fz).c0, (CA1_23.out.below fz).c1, (CA1_23.out.below fz).c2⟩ (fun hHeld => ?_)
              clear hK K
              try simp only [Act.put, List.setIfInBounds_toArray, List.set_cons_zero, List.set_cons_succ]
              skip
              refine wpAnyH_take (i := 11) (oi := { dst := some 18, op := Op.assign (Operand.tmp 106), type := 4, pos := "exact.go:1829", after := #[{ on := 8, ground := Ground.data }, { on := 10, ground := Ground.chain }, { on := 0, ground := Ground.phase }, { on := 1, ground := Ground.phase }, { on := 2, ground := Ground.phase }, { on := 3, ground := Ground.phase }, { on := 4, ground := Ground.phase }, { on := 5, ground := Ground.phase }, { on := 6, ground := Ground.phase }, { on := 7, ground := Ground.phase }, { on := 8, ground := Ground.phase }, { on := 9, ground := Ground.phase }, { on := 10, ground := Ground.phase }], guard := none }) (v := ?_) rfl (by kernel_rfl) (by kernel_rfl) (by kernel_rfl) (fun _ _ _ h => h) (Or.inl ⟨by rfl, ?_⟩) (by assumption) ?_
              rotate_left
              focus (intro w' hSw; (try dsimp only at hSw); first | (go_simp; done) | (go_simp; with_reducible rfl))
              try simp only [Act.put, List.setIfInBounds_toArray, List.set_cons_zero, List.set_cons_succ]
              refine wpAnyH_done (by kernel_rfl) ?_ _
              go_wp2_with fail
              go_meet
              exact ⟨_, _, _, _, _, rfl, rfl, hb8, c3, hq, fz⟩
      · go_simp
        have g12 : Below W23.heap.size W23 ((W23.alloc (Obj.cells #[Value.int .i64 0, Value.slice none 0 0, Value.slice none 0 0] 27)).drew) := ((Below.refl _ _).alloc (Nat.le_refl _) _).trans ((below_drew' _).mono (by simp))
        have cz12 := (Cells3.new W23 27 (.int .i64 0) (.slice none 0 0) (.slice none 0 0)).below (below_drew' _)
        have hb12 : W23.heap.size ≤ W23.heap.size := Nat.le_refl _
        obtain ⟨Bz, hBz⟩ : ∃ z, z = W23.heap.size := ⟨_, rfl⟩
        have hb12 : W23.heap.size ≤ Bz := Nat.le_of_eq hBz.symm
        rw [← hBz] at cz12 ⊢
        obtain ⟨V12, hW12⟩ : ∃ W, W = (W23.alloc (Obj.cells #[Value.int .i64 0, Value.slice none 0 0, Value.slice none 0 0] 27)).drew := ⟨_, rfl⟩
        rw [← hW12] at g12 cz12 ⊢
        have hzw : Bz < V12.heap.size := cz12.lt
        have hzo := Lib.hid (show Bz = W23.heap.size from hBz)
        clear hW12 hBz
        have fb13 := g12
        refine hK.out _ _ ⟨(CA0_23.out.below fb13).c0, (CA0_23.out.below fb13).c1, (CA0_23.out.below fb13).c2, (CA1_23.out.below fb13).c0, (CA1_23.out.below fb13).c1, (CA1_23.out.below fb13).c2⟩ (fun hHeld => ?_)
        clear hK K
        try simp only [Act.put, List.setIfInBounds_toArray, List.set_cons_zero, List.set_cons_succ]
        refine wpAnyH_ready (rs := [1]) (by kernel_rfl) (by simp) ?_
        refine AllReadyH.cons (o := { dst := some 100, op := Op.call { callee := Callee.value (Operand.func 12), args := #[Operand.tmp 99], argTypes := #[25] }, type := 27, pos := "exact.go:1829", after := #[{ on := 0, ground := Ground.data }], guard := none }) rfl (fun K hK => ?_) AllReadyH.nil
        · go_simp
          go_at_call 12
          (with_reducible refine (toS _ b0 rows0 out0 _ (ARG0.out.below (HB_23.out.trans (fb13.mono HB_23.out.size))) hz0).mono ?_)
          rintro e V13 ⟨v13, rfl, h13, g13⟩
          have fb14 := fb13.trans (g13.mono fb13.size)
          have cz13 := cz12.below g13
          have hzl13 : Bz < V12.heap.size := cz12.lt
          have la13 := h13.lies
          refine hK.out _ _ ⟨(CA0_23.out.below fb14).c0, (CA0_23.out.below fb14).c1, (CA0_23.out.below fb14).c2, (CA1_23.out.below fb14).c0, (CA1_23.out.below fb14).c1, (CA1_23.out.below fb14).c2⟩ (fun hHeld => ?_)
          clear hK K
          try simp only [Act.put, List.setIfInBounds_toArray, List.set_cons_zero, List.set_cons_succ]
          refine wpAnyH_ready (rs := [3]) (by kernel_rfl) (by simp) ?_
          refine AllReadyH.cons (o := { dst := some 102, op := Op.call { callee := Callee.value (Operand.func 12), args := #[Operand.tmp 101], argTypes := #[25] }, type := 27, pos := "exact.go:1829", after := #[{ on := 2, ground := Ground.data }, { on := 1, ground := Ground.chain }], guard := none }) rfl (fun K hK => ?_) AllReadyH.nil
          · go_simp
            go_at_call 12
            (with_reducible refine (toS _ b1 rows1 out1 _ (ARG1.out.below (HB_23.out.trans (fb14.mono HB_23.out.size))) hz1).mono ?_)
            rintro e V14 ⟨v14, rfl, h14, g14⟩
            have fb15 := fb14.trans (g14.mono fb14.size)
            have la14 := la13.below g14
            have cz14 := cz13.below g14
            have hzl14 : Bz < V13.heap.size := cz13.lt
            have lb14 := h14.lies
            refine hK.out _ _ ⟨(CA0_23.out.below fb15).c0, (CA0_23.out.below fb15).c1, (CA0_23.out.below fb15).c2, (CA1_23.out.below fb15).c0, (CA1_23.out.below fb15).c1, (CA1_23.out.below fb15).c2⟩ (fun hHeld => ?_)
            clear hK K
            try simp only [Act.put, List.setIfInBounds_toArray, List.set_cons_zero, List.set_cons_succ]
            refine wpAnyH_ready (rs := [5]) (by kernel_rfl) (by simp) ?_
            refine AllReadyH.cons (o := { dst := some 104, op := Op.call { callee := Callee.value (Operand.func 13), args := #[Operand.tmp 100, Operand.tmp 102, Operand.tmp 103], argTypes := #[27, 27, 3] }, type := 28, pos := "exact.go:1829", after := #[{ on := 1, ground := Ground.data }, { on := 3, ground := Ground.data }, { on := 4, ground := Ground.data }, { on := 3, ground := Ground.chain }], guard := none }) rfl (fun K hK => ?_) AllReadyH.nil
            · go_simp
              go_at_call 13
              (with_reducible refine (CI.out _ _ la14 _ lb14).mono ?_)
              rintro e V15 ⟨v15, rfl, h15, g15⟩
              obtain ⟨ap, cp, bp, dp, rfl⟩ := h15.form
              have fb16 := fb15.trans (g15.mono fb15.size)
              have la15 := la14.below g15
              have lb15 := lb14.below g15
              have cz15 := cz14.below g15
              have hzl15 : Bz < V14.heap.size := cz14.lt
              refine hK.out _ _ ⟨(CA0_23.out.below fb16).c0, (CA0_23.out.below fb16).c1, (CA0_23.out.below fb16).c2, (CA1_23.out.below fb16).c0, (CA1_23.out.below fb16).c1, (CA1_23.out.below fb16).c2⟩ (fun hHeld => ?_)
              clear hK K
              try simp only [Act.put, List.setIfInBounds_toArray, List.set_cons_zero, List.set_cons_succ]
              refine wpAnyH_take (i := 6) (oi := { dst := some 98, op := Op.move (Operand.tmp 104), type := 28, pos := "exact.go:1829", after := #[{ on := 5, ground := Ground.data }], guard := none }) (v := ?_) rfl (by kernel_rfl) (by kernel_rfl) (by kernel_rfl) (fun _ _ _ h => h) (Or.inl ⟨by rfl, ?_⟩) (by assumption) ?_
              rotate_left
              focus (intro w' hSw; (try dsimp only at hSw); first | (go_simp; done) | (go_simp; with_reducible rfl))
              try simp only [Act.put, List.setIfInBounds_toArray, List.set_cons_zero, List.set_cons_succ]
              refine wpAnyH_take (i := 7) (oi := { dst := some 105, op := Op.extract (Operand.tmp 98) 0, type := 27, pos := "exact.go:1829", after := #[{ on := 6, ground := Ground.data }], guard := none }) (v := ?_) rfl (by kernel_rfl) (by kernel_rfl) (by kernel_rfl) (fun _ _ _ h => h) (Or.inl ⟨by rfl, ?_⟩) (by assumption) ?_
              rotate_left
              focus (intro w' hSw; (try dsimp only at hSw); first | (go_simp; done) | (go_simp; with_reducible rfl))
              try simp only [Act.put, List.setIfInBounds_toArray, List.set_cons_zero, List.set_cons_succ]
              refine wpAnyH_take (i := 8) (oi := { dst := some 106, op := Op.extract (Operand.tmp 98) 1, type := 4, pos := "exact.go:1829", after := #[{ on := 6, ground := Ground.data }, { on := 10, ground := Ground.gcOnly Departure.lateStores }], guard := none }) (v := ?_) rfl (by kernel_rfl) (by kernel_rfl) (by kernel_rfl) (fun _ _ _ h => h) (Or.inl ⟨by rfl, ?_⟩) (by assumption) ?_
              rotate_left
              focus (intro w' hSw; (try dsimp only at hSw); first | (go_simp; done) | (go_simp; with_reducible rfl))
              try simp only [Act.put, List.setIfInBounds_toArray, List.set_cons_zero, List.set_cons_succ]
              refine wpAnyH_ready (rs := [10]) (by kernel_rfl) (by simp) ?_
              refine AllReadyH.cons (o := { dst := none, op := Op.store 27 (Operand.tmp 17) (Operand.tmp 105), type := 0, pos := "exact.go:1829", after := #[{ on := 9, ground := Ground.data }, { on := 7, ground := Ground.data }, { on := 5, ground := Ground.chain }, { on := 0, ground := Ground.phase }, { on := 1, ground := Ground.phase }, { on := 2, ground := Ground.phase }, { on := 3, ground := Ground.phase }, { on := 4, ground := Ground.phase }, { on := 5, ground := Ground.phase }, { on := 6, ground := Ground.phase }, { on := 7, ground := Ground.phase }, { on := 8, ground := Ground.textOnly Departure.lateStores }, { on := 9, ground := Ground.phase }], guard := none }) rfl (fun K hK => ?_) AllReadyH.nil
              obtain ⟨z0, z1, z2⟩ := (⟨cz15.c0, cz15.c1, cz15.c2⟩ : _ ∧ _ ∧ _)
              have z3 := cz15.f
              go_simp
              have c3 := ((cz15.set0 (.int .i64 yb)).set1 (.slice ap yr.length cp)).set2 (.slice bp yo.length dp)
              have fz : Below W23.heap.size W23 (((V15.setCell ⟨Bz, 0, none⟩ (.int .i64 yb)).setCell ⟨Bz, 1, none⟩ (.slice ap yr.length cp)).setCell ⟨Bz, 2, none⟩ (.slice bp yo.length dp)) := ((fb16.setCell hb12 _).setCell hb12 _).setCell hb12 _
              have hT : ∀ (i : Nat) (u : Value) (W : World), Plain.Touch Bz (Bz + 1) W (W.setCell ⟨Bz, i, none⟩ u) := fun i u W => Plain.Touch.of_set (a := ⟨Bz, i, none⟩) u (Nat.le_refl _) (Nat.lt_succ_self _)
              have hq := own_wide ((h15.touch (((hT 0 (.int .i64 yb) V15).trans (hT 1 (.slice ap yr.length cp) _)).trans (hT 2 (.slice bp yo.length dp) _)) (.inr (Nat.succ_le_of_lt hzl15))).lower fb15.size) (hi' := V15.heap.size) (Nat.le_refl _) (by rw [size_setCell', size_setCell', size_setCell']; exact Nat.le_refl _)
              obtain ⟨Wz, hWz⟩ : ∃ W, W = (((V15.setCell ⟨Bz, 0, none⟩ (.int .i64 yb)).setCell ⟨Bz, 1, none⟩ (.slice ap yr.length cp)).setCell ⟨Bz, 2, none⟩ (.slice bp yo.length dp)) := ⟨_, rfl⟩
              have hsz : V15.heap.size = Wz.heap.size := by rw [hWz, size_setCell', size_setCell', size_setCell']
              rw [← hWz] at c3 fz hq ⊢
              rw [hsz] at hq
              clear hWz hsz hT z0 z1 z2 z3
              refine hK.out _ _ ⟨(CA0_23.out.below fz).c0, (CA0_23.out.below fz).c1, (CA0_23.out.below fz).c2, (CA1_23.out.below fz).c0, (CA1_23.out.below fz).c1, (CA1_23.out.below fz).c2⟩ (fun hHeld => ?_)
              clear hK K
              try simp only [Act.put, List.setIfInBounds_toArray, List.set_cons_zero, List.set_cons_succ]
              skip
              refine wpAnyH_take (i := 11) (oi := { dst := some 18, op := Op.assign (Operand.tmp 106), type := 4, pos := "exact.go:1829", after := #[{ on := 8, ground := Ground.data }, { on := 10, ground := Ground.chain }, { on := 0, ground := Ground.phase }, { on := 1, ground := Ground.phase }, { on := 2, ground := Ground.phase }, { on := 3, ground := Ground.phase }, { on := 4, ground := Ground.phase }, { on := 5, ground := Ground.phase }, { on := 6, ground := Ground.phase }, { on := 7, ground := Ground.phase }, { on := 8, ground := Ground.phase }, { on := 9, ground := Ground.phase }, { on := 10, ground := Ground.phase }], guard := none }) (v := ?_) rfl (by kernel_rfl) (by kernel_rfl) (by kernel_rfl) (fun _ _ _ h => h) (Or.inl ⟨by rfl, ?_⟩) (by assumption) ?_
              rotate_left
              focus (intro w' hSw; (try dsimp only at hSw); first | (go_simp; done) | (go_simp; with_reducible rfl))
              try simp only [Act.put, List.setIfInBounds_toArray, List.set_cons_zero, List.set_cons_succ]
              refine wpAnyH_done (by kernel_rfl) ?_ _
              go_wp2_with fail
              go_meet
              exact ⟨_, _, _, _, _, rfl, rfl, hb12, c3, hq, fz⟩
    case rest =>
      obtain ⟨Bh, anh, aoh, cnh, coh, rfl, rfl, hBh, cPh, hPh, bw24⟩ := hcut
      obtain ⟨W24, rfl⟩ : ∃ W, W = wc := ⟨_, rfl⟩
      have bw := bw24.out
      have HB_24 := Lib.hid (HB_23.out.trans (bw.mono HB_23.out.size))
      have CA0_24 := Lib.hid (CA0_23.out.below bw)
      have CA1_24 := Lib.hid (CA1_23.out.below bw)
      have CP_24 := Lib.hid (CP_23.out.below bw)
      have CG_24 := Lib.hid (CG_23.out.below bw)
      have Rp_24 := Lib.hid (Rp_23.out.below bw)
      have Rg_24 := Lib.hid (Rg_23.out.below bw)
      have Z30 := Lib.hid (bw.size)
      have CH_24 := cPh
      have Rh_24 := hPh
      have Z31 := Lib.hid (show W23.heap.size ≤ Bh ∧ Bh < W24.heap.size from ⟨hBh.out, cPh.out.lt⟩)
      clear CA0_23 CA1_23 CP_23 CG_23 Rp_23 Rg_23 HB_23 bw24 bw cPh hPh hBh
      clear CA0_24 CA1_24
      have kP0 := CP_24.out.c0
      have kP1 := CP_24.out.c1
      have kP2 := CP_24.out.c2
      have kG0 := CG_24.out.c0
      have kG1 := CG_24.out.c1
      have kG2 := CG_24.out.c2
      have kH0 := CH_24.out.c0
      have kH1 := CH_24.out.c1
      have kH2 := CH_24.out.c2
      go_wp2_with fail
      clear kP0 kP1 kP2 kG0 kG1 kG2 kH0 kH1 kH2
      refine (eqS _ _ yb yr yo _ Rh_24.out.lies Rp_24.out.lies).mono ?_
      rintro e W25 ⟨rfl, fb25⟩
      have HB_25 := Lib.hid (HB_24.out.trans (fb25.mono HB_24.out.size))
      have CP_25 := Lib.hid (CP_24.out.below fb25)
      have CG_25 := Lib.hid (CG_24.out.below fb25)
      have CH_25 := Lib.hid (CH_24.out.below fb25)
      have Rp_25 := Lib.hid (Rp_24.out.below fb25)
      have Rg_25 := Lib.hid (Rg_24.out.below fb25)
      have Rh_25 := Lib.hid (Rh_24.out.below fb25)
      have Z32 := Lib.hid (fb25.size)
      clear CP_24 CG_24 CH_24 Rp_24 Rg_24 Rh_24 HB_24 fb25
      clear Rp_25 Rh_25 CP_25 CH_25
      have kG0 := CG_25.out.c0
      have kG1 := CG_25.out.c1
      have kG2 := CG_25.out.c2
      go_wp2_with fail
      clear kG0 kG1 kG2
      refine (heldS' _ yb yr yo Ty _ HTy.out Rg_25.out.lies (by omega)).mono ?_
      rintro e W26 ⟨rfl, fb26⟩
      have HB_26 := Lib.hid (HB_25.out.trans (fb26.mono HB_25.out.size))
      have CG_26 := Lib.hid (CG_25.out.below fb26)
      have Rg_26 := Lib.hid (Rg_25.out.below fb26)
      have Z33 := Lib.hid (fb26.size)
      clear CG_25 Rg_25 HB_25 fb26
      clear Rg_26 CG_26
      go_wp2
      go_ret
      exact ⟨rfl, HB_26.out⟩


set_option maxRecDepth 100000 in
theorem lifted (os : Os) (started : os.Started) (H : Type) (enc : TypeId × Value → H) :
    ReturnsInHanded {} Try.checked os 3 .any (Rows.fnExactCombineTermsSpec.pre6 enc Try.prog Try.f3 Rows.fnExactCombineTermsRow.domain false) (Rows.fnExactCombineTermsSpec.post enc Try.prog Try.f3 false true false false) := by
  refine returnsInHanded_of_change (C := Try.checked) own started (by kernel_rfl) Try.func3
    (ChangeSpec.witness6 (enc := enc) (C := Try.checked) false ⟨#[], #[.agg #[.int .i64 0, .slice none 0 0, .slice none 0 0], .agg #[.int .i64 0, .slice none 0 0, .slice none 0 0], .int .i64 0], []⟩ 8 (by kernel_rfl) (by kernel_rfl) (by kernel_rfl) (by kernel_rfl)) ?_
  intro W base args ds gs before hval0 hW hcnd _
  have hval : ∀ (j : Nat) t v, Try.f3.params[j]? = some t → args[j]? = some v → Value.okWide Try.prog W .any base t v := hval0
  have hW' := hW
  obtain ⟨p, q, hA0, hV, rfl, hfz, hnd⟩ := hW
  have hA : DataW.TrodAll enc Try.prog W 0 (fun _ => true) true Try.f3.params.toList args.toList ds p := hA0
  rw [Try.params3] at hA hval
  obtain ⟨v0, vs0, d0, ds0, p0, q0, hargs, rfl, rfl, h0, r0⟩ := trodAll_cons hA
  obtain ⟨v1, vs1, d1, ds1, p1, q1, rfl, rfl, rfl, h1, r1⟩ := trodAll_cons r0
  obtain ⟨v2, vs2, d2, ds2, p2, q2, rfl, rfl, rfl, h2, r2⟩ := trodAll_cons r1
  obtain ⟨rfl, rfl, rfl⟩ := trodAll_nil r2
  obtain rfl : args = #[v0, v1, v2] := by cases args; simp_all
  obtain ⟨rfl, rfl⟩ := trodVars_none hV
  have k0 := h0
  have lt0 : ∀ x ∈ p0, x.block < W.heap.size := by obtain ⟨m, hm⟩ := k0; exact DataW.trod_lt m _ _ _ hm
  obtain ⟨b0, rows0, out0, l0⟩ := Seqs.open_seq (hval 0 25 v0 rfl rfl) h0
  have k1 := h1
  have lt1 : ∀ x ∈ p1, x.block < W.heap.size := by obtain ⟨m, hm⟩ := k1; exact DataW.trod_lt m _ _ _ hm
  obtain ⟨b1, rows1, out1, l1⟩ := Seqs.open_seq (hval 1 25 v1 rfl rfl) h1
  obtain ⟨a2, rfl, rfl, rfl, w2⟩ := open_int Try.underlying3 (hval 2 3 v2 rfl rfl) h2
  clear hA0 hval0
  refine (walk W v0 b0 rows0 out0 l0 v1 b1 rows1 out1 l1 a2 w2).mono fun e W' ⟨he, hg⟩ => ?_
  subst he
  exact ⟨_, rfl, _, _, _, [], _, [], hW', trodAll_mk1 (shut_bool Try.underlying4 _), (trodAll_cons_mk (Below.trod laidOut (by kernel_rfl) (of_decide_eq_true (by kernel_rfl)) k0 hg lt0) (trodAll_cons_mk (Below.trod laidOut (by kernel_rfl) (of_decide_eq_true (by kernel_rfl)) k1 hg lt1) (trodAll_cons_mk (shut_int Try.underlying3 w2) trodAll_mk0))), rfl, hg.frame _, fun h => by cases h⟩

theorem over : Rows.fnExactCombineTermsRow.holds Try.pinned (OpenSpec.ofChange Rows.fnExactCombineTermsSpec) :=
  OpenClaim.holds_of_wide 3 Try.f3 rfl rfl rfl rfl rfl rfl rfl ⟨rfl, rfl, rfl, rfl, rfl⟩ rfl rfl rfl rfl rfl (by kernel_rfl) Try.func3 (by kernel_rfl)
    (of_decide_eq_true (by kernel_rfl)) (by unfold Func.isWrapper; first | (rw [if_pos (by decide +kernel)]; kernel_rfl) | (rw [if_neg (by decide +kernel)]; exact ⟨rfl, rfl⟩))
    (fun os started H enc _ => lifted os started H enc)
/-- The statement. -/
theorem proved : Rows.FnExactCombineTermsSaid := over
#print axioms proved
end Go.Proofs.Ythnmighlgifoeaa.fnExactCombineTerms
