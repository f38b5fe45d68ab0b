/- The law FnExactFormatSequence answers true for every argument: the program's FormatSequence returns what the model's returns, writes into no argument and hands back memory of its own. Conditions: none beyond the row's own. -/
import Derived.Test.YtbebifnnnmgihabDoorCards
import Derived.Test.YtbebifnnnmgihabDoorTie
import Derived.WalkKit
import Derived.ProofKit
import Derived.OpenShut
import Derived.ShutString
import Derived.ChangeOld
import Derived.Below
import Derived.Deep.DeepHandedRow
import Derived.Lib.LaidTab
import Derived.Stop.LaidErr
import Derived.PlainAid
import Derived.Lib.Hide
import Derived.Deep.RegionHeld3
import Derived.Deep.DeepCutAuto
import Derived.Outline
import Derived.Test.YtbebifnnnmgihabDoorInts
import Derived.Test.YtbebifnnnmgihabDoorSeqMark
import Derived.Test.YtbebifnnnmgihabDoorSeqHeld
import Derived.Test.YtbebifnnnmgihabDoorSeqTo
import Derived.Test.YtbebifnnnmgihabDoorSeqOpen
import Derived.Test.YtbebifnnnmgihabDoorSeqEq
import Derived.Test.YtbebifnnnmgihabDoorSeqSz
import Derived.Test.YtbebifnnnmgihabDoorFmtS
namespace Go.Proofs.YtbebifnnnmgihabDoor.fnExactFormatSequence
open Go.ChangeShapes Go.WideShapes Go.ChangeAt Go.RowKit
open Go.ChangeMaps (open_string shut_string)
open Go.PlainAid Plain
set_option linter.unusedVariables false

theorem own : ownKnob Tryd.prog.godebug = none := by kernel_rfl
theorem laidOut : laidOutB Tryd.prog = true := by kernel_rfl
theorem gTab : Tryd.prog.globalNamed "internal/strconv.uint64pow10" = some 1 := by kernel_rfl
theorem gTabType : (Tryd.prog.globals[1]?).map (·.type) = some 95 := by kernel_rfl
theorem cellsT : Tryd.prog.cellsOf 95 = 20 := by kernel_rfl
theorem cellsE : Tryd.prog.cellsOf 86 = 1 := by kernel_rfl
/-- What the row's list gives of the table of powers of ten. -/
theorem table {W : World} (h : laidMetH Tryd.prog Rows.fnExactFormatSequenceRow.laid W) : Lib.TabIs Tryd.prog W "internal/strconv.uint64pow10" .u64 Lib.pow10Tab := by
  have h1 : laidMet Tryd.prog Rows.fnExactFormatSequenceRow.laid W := h
  exact Lib.tabIs_of_head gTab gTabType Tryd.underlying95 Tryd.underlying86 cellsE cellsT h1.tail.tail
open Seqs
set_option maxRecDepth 100000 in
set_option maxHeartbeats 4000000 in
theorem walk (w : World) (v0 : Value) (b0 : Int) (rows0 : List (List Int)) (out0 : List Int) (l0 : LiesS w v0 b0 rows0 out0) (htab : Lib.TabIs Tryd.prog w "internal/strconv.uint64pow10" .u64 Lib.pow10Tab) :
    Calls Tryd.prog 3 #[v0] w fun e w' => e = .returned (.bool true) ∧ Below w.heap.size w w' := by
  have HT0 := Lib.hid htab
  have HTB := Lib.hid (fun (w' : World) (h : Below w.heap.size w w') => var?_below (P := Tryd.prog) (n := "internal/strconv.uint64pow10") h gTab (by
    have h1 := HT0.out
    unfold Lib.TabIs World.var? at h1
    rw [gTab] at h1
    simp only [Option.bind_some] at h1
    rcases Nat.lt_or_ge 1 w.heap.size with h2 | h2
    · exact h2
    · rw [Array.getElem?_eq_none h2] at h1; simp at h1) HT0.out)
  clear htab HT0
  obtain ⟨an0, cn0, ao0, co0, rfl⟩ := l0.form
  have ARG0 := Lib.hid l0
  clear l0
  by_cases hs0 : (rows0.length + tot rows0 + out0.length) ≤ 1048576
  case neg =>
    have hq := szV_no (left := 1048576) (n := rows0.length + tot rows0 + out0.length) (by omega)
    have HQN := Lib.hid hq
    clear hq
    have HB_0 : Hid (Below w.heap.size w w) := Below.refl _ _
    go_enter Tryd.func3, Tryd.ntmps3
    go_wp2_with fail
    have bx1 : Below w.heap.size w (w.alloc (Obj.cells #[.int .i64 b0, .slice an0 rows0.length cn0, .slice ao0 out0.length co0] 25)) := (Below.refl _ _).alloc (Nat.le_refl _) _
    have cx1 := Cells3.new w 25 (.int .i64 b0) (.slice an0 rows0.length cn0) (.slice ao0 out0.length co0)
    have hz1 : (w.alloc (Obj.cells #[.int .i64 b0, .slice an0 rows0.length cn0, .slice ao0 out0.length co0] 25)).heap.size = w.heap.size + 1 := size_alloc' _ _
    obtain ⟨W1, hW1⟩ : ∃ W, W = (w.alloc (Obj.cells #[.int .i64 b0, .slice an0 rows0.length cn0, .slice ao0 out0.length co0] 25)) := ⟨_, rfl⟩
    rw [← hW1] at bx1 cx1 hz1 ⊢
    have HB_1 := Lib.hid (HB_0.out.trans (bx1.mono HB_0.out.size))
    have Z1 := Lib.hid (bx1.size)
    have CA0_1 := Lib.hid cx1
    have Z2 := Lib.hid hz1
    clear HB_0 bx1 hW1 cx1
    clear hz1
    refine (sz _ b0 rows0 out0 1048576 _ (ARG0.out.below HB_1.out) (by omega) (by omega)).mono ?_
    rintro e W2 ⟨rfl, fb2⟩
    have HB_2 := Lib.hid (HB_1.out.trans (fb2.mono HB_1.out.size))
    have CA0_2 := Lib.hid (CA0_1.out.below fb2)
    have Z3 := Lib.hid (fb2.size)
    clear CA0_1 HB_1 fb2
    rw [HQN.out]
    go_wp2
    go_ret
    exact ⟨rfl, HB_2.out⟩
  obtain ⟨q0, hq0⟩ : ∃ q : Nat, szV 1048576 (rows0.length + tot rows0 + out0.length) = (q : Int) := ⟨(1048576 - ((rows0.length + tot rows0 + out0.length : Nat) : Int)).toNat, by rw [szV_yes (by omega)]; omega⟩
  have hql0 : (q0 : Int) = 1048576 - ((rows0.length + tot rows0 + out0.length : Nat) : Int) := by rw [szV_yes (by omega)] at hq0; omega
  have HQ0 := Lib.hid hq0
  have HQL0 : (q0 : Int) ≤ 1048576 := by omega
  have hqd0 := decide_eq_false (show ¬ (q0 : Int) < 0 by omega)
  clear hq0
  have hz0 : rows0.length + tot rows0 + out0.length ≤ 1048576 := by omega
  obtain ⟨T0, hT0⟩ : ∃ T, T = tot rows0 + out0.length := ⟨_, rfl⟩
  have HT0 := Lib.hid hT0
  have hTl0 : T0 ≤ 1048576 := by omega
  have hTd0 := decide_eq_false (show ¬ (1 : Int) + (T0 : Int) < 0 by omega)
  clear hT0
  clear hql0
  have CS := Lib.hid (fun (W : World) (hw : Below w.heap.size w W) (u0 : Value) (l0 : LiesS W u0 b0 rows0 out0) => Fmt.spec_fmt u0 b0 rows0 out0 W l0)
  have CI := Lib.hid (fun (W : World) (hw : Below w.heap.size w W) (u0 : Value) (l0 : LiesS W u0 b0 rows0 out0) => Fmt.impl_fmt u0 b0 rows0 out0 W l0 (fun W' h => HTB.out W' (hw.trans (h.mono hw.size))))
  obtain ⟨y, hy⟩ : ∃ y, y = fmtV b0 rows0 out0 := ⟨_, rfl⟩
  rw [← hy] at CS CI
  clear hy
  have HB_0 : Hid (Below w.heap.size w w) := Below.refl _ _
  go_enter Tryd.func3, Tryd.ntmps3
  go_wp2_with fail
  have bx1 : Below w.heap.size w (w.alloc (Obj.cells #[.int .i64 b0, .slice an0 rows0.length cn0, .slice ao0 out0.length co0] 25)) := (Below.refl _ _).alloc (Nat.le_refl _) _
  have cx1 := Cells3.new w 25 (.int .i64 b0) (.slice an0 rows0.length cn0) (.slice ao0 out0.length co0)
  have hz1 : (w.alloc (Obj.cells #[.int .i64 b0, .slice an0 rows0.length cn0, .slice ao0 out0.length co0] 25)).heap.size = w.heap.size + 1 := size_alloc' _ _
  obtain ⟨W1, hW1⟩ : ∃ W, W = (w.alloc (Obj.cells #[.int .i64 b0, .slice an0 rows0.length cn0, .slice ao0 out0.length co0] 25)) := ⟨_, rfl⟩
  rw [← hW1] at bx1 cx1 hz1 ⊢
  have HB_1 := Lib.hid (HB_0.out.trans (bx1.mono HB_0.out.size))
  have Z1 := Lib.hid (bx1.size)
  have CA0_1 := Lib.hid cx1
  have Z2 := Lib.hid hz1
  clear HB_0 bx1 hW1 cx1
  clear hz1
  refine (sz _ b0 rows0 out0 1048576 _ (ARG0.out.below HB_1.out) (by omega) (by omega)).mono ?_
  rintro e W2 ⟨rfl, fb2⟩
  have HB_2 := Lib.hid (HB_1.out.trans (fb2.mono HB_1.out.size))
  have CA0_2 := Lib.hid (CA0_1.out.below fb2)
  have Z3 := Lib.hid (fb2.size)
  clear CA0_1 HB_1 fb2
  rw [HQ0.out]
  have kA00 := CA0_2.out.c0
  have kA01 := CA0_2.out.c1
  have kA02 := CA0_2.out.c2
  go_wp2_with fail
  clear kA00 kA01 kA02
  refine (toS _ b0 rows0 out0 _ (ARG0.out.below HB_2.out) hz0).mono ?_
  rintro e W3 ⟨vp0, rfl, h3, fb3⟩
  have HB_3 := Lib.hid (HB_2.out.trans (fb3.mono HB_2.out.size))
  have CA0_3 := Lib.hid (CA0_2.out.below fb3)
  have Z4 := Lib.hid (fb3.size)
  have Rp0_3 := Lib.hid h3
  clear CA0_2 HB_2 fb3 h3
  have kA00 := CA0_3.out.c0
  have kA01 := CA0_3.out.c1
  have kA02 := CA0_3.out.c2
  go_wp2_with fail
  clear kA00 kA01 kA02
  refine (CS.out _ HB_3.out _ Rp0_3.out.lies).mono ?_
  rintro e W4 ⟨rfl, fb4⟩
  have HB_4 := Lib.hid (HB_3.out.trans (fb4.mono HB_3.out.size))
  have CA0_4 := Lib.hid (CA0_3.out.below fb4)
  have Rp0_4 := Lib.hid (Rp0_3.out.below fb4)
  have Z5 := Lib.hid (fb4.size)
  clear CA0_3 Rp0_3 HB_3 fb4
  clear Rp0_4
  have kA00 := CA0_4.out.c0
  have kA01 := CA0_4.out.c1
  have kA02 := CA0_4.out.c2
  go_wp2_with fail
  clear kA00 kA01 kA02
  refine (toS _ b0 rows0 out0 _ (ARG0.out.below HB_4.out) hz0).mono ?_
  rintro e W5 ⟨vx0, rfl, h5, fb5⟩
  have HB_5 := Lib.hid (HB_4.out.trans (fb5.mono HB_4.out.size))
  have CA0_5 := Lib.hid (CA0_4.out.below fb5)
  have Z6 := Lib.hid (fb5.size)
  have Rx0_5 := Lib.hid h5
  clear CA0_4 HB_4 fb5 h5
  obtain ⟨anx0, cnx0, aox0, cox0, rfl⟩ := Rx0_5.out.form
  have kA00 := (CA0_5.out.alloc (Obj.cells #[.int .i64 b0, .slice anx0 rows0.length cnx0, .slice aox0 out0.length cox0] 28)).c0
  have kA01 := (CA0_5.out.alloc (Obj.cells #[.int .i64 b0, .slice anx0 rows0.length cnx0, .slice aox0 out0.length cox0] 28)).c1
  have kA02 := (CA0_5.out.alloc (Obj.cells #[.int .i64 b0, .slice anx0 rows0.length cnx0, .slice aox0 out0.length cox0] 28)).c2
  go_wp2_with fail
  clear kA00 kA01 kA02
  have bx6 : Below W5.heap.size W5 (W5.alloc (Obj.cells #[.int .i64 b0, .slice anx0 rows0.length cnx0, .slice aox0 out0.length cox0] 28)) := (Below.refl _ _).alloc (Nat.le_refl _) _
  have cx6 := Cells3.new W5 28 (.int .i64 b0) (.slice anx0 rows0.length cnx0) (.slice aox0 out0.length cox0)
  have hz6 : (W5.alloc (Obj.cells #[.int .i64 b0, .slice anx0 rows0.length cnx0, .slice aox0 out0.length cox0] 28)).heap.size = W5.heap.size + 1 := size_alloc' _ _
  obtain ⟨W6, hW6⟩ : ∃ W, W = (W5.alloc (Obj.cells #[.int .i64 b0, .slice anx0 rows0.length cnx0, .slice aox0 out0.length cox0] 28)) := ⟨_, rfl⟩
  rw [← hW6] at bx6 cx6 hz6 ⊢
  have HB_6 := Lib.hid (HB_5.out.trans (bx6.mono HB_5.out.size))
  have CA0_6 := Lib.hid (CA0_5.out.below bx6)
  have Rx0_6 := Lib.hid (Rx0_5.out.below bx6)
  have Z7 := Lib.hid (bx6.size)
  have CX0_6 := Lib.hid cx6
  have Z8 := Lib.hid hz6
  clear CA0_5 Rx0_5 HB_5 bx6 hW6 cx6
  clear hz6
  refine (CI.out _ HB_6.out _ Rx0_6.out.lies).mono ?_
  rintro e W7 ⟨rfl, fb7⟩
  have HB_7 := Lib.hid (HB_6.out.trans (fb7.mono HB_6.out.size))
  have CA0_7 := Lib.hid (CA0_6.out.below fb7)
  have CX0_7 := Lib.hid (CX0_6.out.below fb7)
  have Rx0_7 := Lib.hid (Rx0_6.out.below fb7)
  have Z9 := Lib.hid (fb7.size)
  clear CA0_6 CX0_6 Rx0_6 HB_6 fb7
  have kA00 := CA0_7.out.c0
  have kA01 := CA0_7.out.c1
  have kA02 := CA0_7.out.c2
  have kX00 := CX0_7.out.c0
  have kX01 := CX0_7.out.c1
  have kX02 := CX0_7.out.c2
  go_wp2_with fail
  clear kA00 kA01 kA02 kX00 kX01 kX02
  have bd8 := below_drew' W7
  obtain ⟨W8, hW8⟩ : ∃ W, W = W7.drew := ⟨_, rfl⟩
  rw [← hW8] at bd8
  have HB_8 := Lib.hid (HB_7.out.trans (bd8.mono HB_7.out.size))
  have CA0_8 := Lib.hid (CA0_7.out.below bd8)
  have CX0_8 := Lib.hid (CX0_7.out.below bd8)
  have Rx0_8 := Lib.hid (Rx0_7.out.below bd8)
  have Z10 := Lib.hid (bd8.size)
  clear CA0_7 CX0_7 Rx0_7 HB_7 bd8
  go_region_held3 (fun w' => w'.cell? ⟨W5.heap.size, 0, none⟩ = some (.int .i64 b0) ∧ w'.cell? ⟨W5.heap.size, 1, none⟩ = some (.slice anx0 rows0.length cnx0) ∧ w'.cell? ⟨W5.heap.size, 2, none⟩ = some (.slice aox0 out0.length cox0) ∧ w'.cell? ⟨w.heap.size, 0, none⟩ = some (.int .i64 b0) ∧ w'.cell? ⟨w.heap.size, 1, none⟩ = some (.slice an0 rows0.length cn0) ∧ w'.cell? ⟨w.heap.size, 2, none⟩ = some (.slice ao0 out0.length co0))
    (first | (rw [← hW8]; exact ⟨CX0_8.out.c0, CX0_8.out.c1, CX0_8.out.c2, CA0_8.out.c0, CA0_8.out.c1, CA0_8.out.c2⟩) | exact ⟨(CX0_8.out.below bt).c0, (CX0_8.out.below bt).c1, (CX0_8.out.below bt).c2, (CA0_8.out.below bt).c0, (CA0_8.out.below bt).c1, (CA0_8.out.below bt).c2⟩ | exact ⟨((CX0_8.out.below bt).below bu).c0, ((CX0_8.out.below bt).below bu).c1, ((CX0_8.out.below bt).below bu).c2, ((CA0_8.out.below bt).below bu).c0, ((CA0_8.out.below bt).below bu).c1, ((CA0_8.out.below bt).below bu).c2⟩)
    (first | (go_at_call 8; rw [← hW8]; refine (toS _ b0 rows0 out0 _ (ARG0.out.below HB_8.out) hz0).mono ?_; rintro e W9 ⟨vt, rfl, ht, bt⟩) | (go_at_call 10; refine (eqS _ _ b0 rows0 out0 _ (Rx0_8.out.below bt).lies ht.lies).mono ?_; rintro e W10 ⟨rfl, bu⟩))
  have HB_9 := Lib.hid (HB_8.out.trans (bt.mono HB_8.out.size))
  have CA0_9 := Lib.hid (CA0_8.out.below bt)
  have CX0_9 := Lib.hid (CX0_8.out.below bt)
  have Rx0_9 := Lib.hid (Rx0_8.out.below bt)
  have Z11 := Lib.hid (bt.size)
  have HB_10 := Lib.hid (HB_9.out.trans (bu.mono HB_9.out.size))
  have CA0_10 := Lib.hid (CA0_9.out.below bu)
  have CX0_10 := Lib.hid (CX0_9.out.below bu)
  have Rx0_10 := Lib.hid (Rx0_9.out.below bu)
  have Z12 := Lib.hid (bu.size)
  clear CA0_8 CX0_8 Rx0_8 HB_8 CA0_9 CX0_9 Rx0_9 HB_9 bt bu ht hW8
  clear Rx0_10 CA0_10 CX0_10
  go_wp2
  go_ret
  exact ⟨rfl, HB_10.out⟩


/-- What the walk gives, for every argument and every world that holds the tables. -/
theorem contract (H : Type) (enc : TypeId × Value → H) (W : World) (base : Nat) (args : Array Value) (ds gs : List (DataW H)) (before : List MemPlace)
    (hval : ∀ (j : Nat) t v, Tryd.f3.params[j]? = some t → args[j]? = some v → Value.okWide Tryd.prog W .any base t v)
    (hW : DataW.Whole enc Tryd.prog Tryd.f3.params.toList Rows.fnExactFormatSequenceSpec.vars false W args.toList ds gs before) (hL : laidMetH Tryd.prog Rows.fnExactFormatSequenceRow.laid W) :
    Calls Tryd.prog 3 args W fun e W' => ∃ v, e = .returned v ∧ Rows.fnExactFormatSequenceSpec.post enc Tryd.prog Tryd.f3 false true false false W args v W' := by
  have hW' := hW
  obtain ⟨p, q, hA0, hV, rfl, hfz, hnd⟩ := hW
  have hA : DataW.TrodAll enc Tryd.prog W 0 (fun _ => true) true Tryd.f3.params.toList args.toList ds p := hA0
  rw [Tryd.params3] at hA hval
  obtain ⟨v0, vs0, d0, ds0, p0, q0, hargs, rfl, rfl, h0, r0⟩ := trodAll_cons hA
  obtain ⟨rfl, rfl, rfl⟩ := trodAll_nil r0
  obtain rfl : args = #[v0] := by cases args; simp_all
  obtain ⟨rfl, rfl⟩ := trodVars_none hV
  have k0 := h0
  have lt0 : ∀ x ∈ p0, x.block < W.heap.size := by obtain ⟨m, hm⟩ := k0; exact DataW.trod_lt m _ _ _ hm
  obtain ⟨b0, rows0, out0, l0⟩ := Seqs.open_seq (hval 0 25 v0 rfl rfl) h0
  clear hA0
  refine (walk W v0 b0 rows0 out0 l0 (table hL)).mono fun e W' ⟨he, hg⟩ => ?_
  subst he
  exact ⟨_, rfl, _, _, _, [], _, [], hW', trodAll_mk1 (shut_bool Tryd.underlying4 _), (trodAll_cons_mk (Below.trod laidOut (by kernel_rfl) (of_decide_eq_true (by kernel_rfl)) k0 hg lt0) trodAll_mk0), rfl, hg.frame _, fun h => by cases h⟩

/-- A world for the witness: the settled one, the tables holding what their initialisers lay. -/
noncomputable def laidWorld (os : Os) : World :=
  { World.holding Tryd.prog os ⟨#[], #[], []⟩ with heap := ((((World.holding Tryd.prog os ⟨#[], #[], []⟩).heap.modify 4 fun | .cells _ t frozen => .cells #[.int .u8 0, .int .u8 1, .int .u8 28, .int .u8 2, .int .u8 29, .int .u8 14, .int .u8 24, .int .u8 3, .int .u8 30, .int .u8 22, .int .u8 20, .int .u8 15, .int .u8 25, .int .u8 17, .int .u8 4, .int .u8 8, .int .u8 31, .int .u8 27, .int .u8 13, .int .u8 23, .int .u8 21, .int .u8 19, .int .u8 16, .int .u8 7, .int .u8 26, .int .u8 12, .int .u8 18, .int .u8 6, .int .u8 11, .int .u8 5, .int .u8 10, .int .u8 9] t frozen | o => o).modify 5 fun | .cells _ t frozen => .cells #[.int .u8 0, .int .u8 1, .int .u8 56, .int .u8 2, .int .u8 57, .int .u8 49, .int .u8 28, .int .u8 3, .int .u8 61, .int .u8 58, .int .u8 42, .int .u8 50, .int .u8 38, .int .u8 29, .int .u8 17, .int .u8 4, .int .u8 62, .int .u8 47, .int .u8 59, .int .u8 36, .int .u8 45, .int .u8 43, .int .u8 51, .int .u8 22, .int .u8 53, .int .u8 39, .int .u8 33, .int .u8 30, .int .u8 24, .int .u8 18, .int .u8 12, .int .u8 5, .int .u8 63, .int .u8 55, .int .u8 48, .int .u8 27, .int .u8 60, .int .u8 41, .int .u8 37, .int .u8 16, .int .u8 46, .int .u8 35, .int .u8 44, .int .u8 21, .int .u8 52, .int .u8 32, .int .u8 23, .int .u8 11, .int .u8 54, .int .u8 26, .int .u8 40, .int .u8 15, .int .u8 34, .int .u8 20, .int .u8 31, .int .u8 10, .int .u8 25, .int .u8 14, .int .u8 19, .int .u8 9, .int .u8 13, .int .u8 8, .int .u8 7, .int .u8 6] t frozen | o => o).modify 1 fun | .cells _ t frozen => .cells #[.int .u64 1, .int .u64 10, .int .u64 100, .int .u64 1000, .int .u64 10000, .int .u64 100000, .int .u64 1000000, .int .u64 10000000, .int .u64 100000000, .int .u64 1000000000, .int .u64 10000000000, .int .u64 100000000000, .int .u64 1000000000000, .int .u64 10000000000000, .int .u64 100000000000000, .int .u64 1000000000000000, .int .u64 10000000000000000, .int .u64 100000000000000000, .int .u64 1000000000000000000, .int .u64 10000000000000000000] t frozen | o => o) }
theorem laid_met (os : Os) : laidMet Tryd.prog Rows.fnExactFormatSequenceRow.laid ((laidWorld os).forCall (fun _ _ => 0) ⟨#[], #[.agg #[.int .i64 0, .slice none 0 0, .slice none 0 0]], []⟩).memory :=
  laidMet_of_run' 8 (by kernel_rfl) (by kernel_rfl)
theorem reads (os : Os) {H : Type} (enc : TypeId × Value → H) : ∃ places, DataW.whole enc Tryd.prog ((laidWorld os).forCall (fun _ _ => 0) ⟨#[], #[.agg #[.int .i64 0, .slice none 0 0, .slice none 0 0]], []⟩).memory Tryd.f3.params.toList Rows.fnExactFormatSequenceSpec.vars false (#[.agg #[.int .i64 0, .slice none 0 0, .slice none 0 0]] : Array Value).toList 8 = some ([.agg [.lit (.int .i64 0), .nil, .nil]], [], places) :=
  ⟨[], by kernel_rfl⟩

set_option maxRecDepth 100000 in
theorem lifted (os : Os) (started : os.Started) (H : Type) (enc : TypeId × Value → H) (F : Stop.Interp) :
    ReturnsInHanded {} Tryd.checked os 3 .any ((OpenSpec.ofChange Rows.fnExactFormatSequenceSpec).preRow enc Tryd.prog Tryd.f3 Rows.fnExactFormatSequenceRow.domain false Rows.fnExactFormatSequenceRow.laid) (((OpenSpec.ofChange Rows.fnExactFormatSequenceSpec).at F).post enc Tryd.prog Tryd.f3 false true false false) := by
  obtain ⟨places, hx⟩ := reads os enc
  refine returnsInHanded_of_row (C := Tryd.checked) (s := OpenSpec.ofChange Rows.fnExactFormatSequenceSpec) own started (by kernel_rfl) Tryd.func3
    (witness_row_at (enc := enc) (C := Tryd.checked) false (laidWorld os) #[.agg #[.int .i64 0, .slice none 0 0, .slice none 0 0]] rfl (by kernel_rfl) (by kernel_rfl) (by kernel_rfl)
      (OpenSpec.preRow_of_cond 8 hx (by kernel_rfl) (fun k hk => by cases hk) (by kernel_rfl) (laid_met os))) ?_
  intro W base args ds gs before hval hW x1 x2 x3 hL x4 x5
  exact contract H enc W base args ds gs before hval hW hL

theorem said : Rows.FnExactFormatSequenceSaid :=
  OpenClaim.holds_of_cond 3 Tryd.f3 rfl rfl rfl rfl rfl rfl rfl ⟨rfl, rfl, rfl, rfl, rfl⟩ rfl rfl rfl rfl rfl (by kernel_rfl) Tryd.func3 (by kernel_rfl)
    (of_decide_eq_true (by kernel_rfl)) (by unfold Func.isWrapper; first | (rw [if_pos (by decide +kernel)]; kernel_rfl) | (rw [if_neg (by decide +kernel)]; exact ⟨rfl, rfl⟩))
    (fun os started H enc _ F => by rw [OpenClaim.pre_eq_preRow]; exact lifted os started H enc F)
/-- No parameter wants a stand-in; the program's own looks are off. -/
theorem plain (f : FuncId) (fn : Func) (hf : Tryd.pinned.checked.prog.funcNamed "loop.example/g02079/laws.FnExactFormatSequence" = some f) (hfn : Tryd.pinned.checked.prog.funcs[f]? = some fn) :
    false = Tryd.pinned.checked.prog.looks [] ∧ ∀ (j : Nat) t, fn.params[j]? = some t → Tryd.pinned.checked.prog.wantsStandIn t = false := by
  obtain rfl : f = 3 := Option.some.inj ((show Tryd.prog.funcNamed "loop.example/g02079/laws.FnExactFormatSequence" = some 3 by kernel_rfl).symm.trans hf) |>.symm
  obtain rfl : fn = Tryd.f3 := (Option.some.inj (Tryd.func3.symm.trans hfn)).symm
  refine ⟨by kernel_rfl, fun j t ht => ?_⟩
  rw [Tryd.params3] at ht
  obtain rfl : t = 25 := by simpa using Array.mem_of_getElem? ht
  exact (show Tryd.prog.wantsStandIn 25 = false by kernel_rfl)
/-- The card. -/
theorem card : Rows.FnExactFormatSequenceCardSaid :=
  Claim7.holds_tied_plain_at .later [] _ _ _ _ said (fun _ h => by cases h) (by kernel_rfl) (fun _ h => by cases h) fnExactFormatSequence_row_tie rfl ⟨rfl, rfl⟩ (by kernel_rfl) rfl plain (by kernel_rfl)
#print axioms card
end Go.Proofs.YtbebifnnnmgihabDoor.fnExactFormatSequence
