/- Several texts of this proof, one behind the other: each says ahead of it what it shows and under which conditions. -/
import Derived.Test.YtpndclpmhelikaaMM3
import Derived.Test.YtpndclpmhelikaaMM1
import Derived.Deep.RegionHeld3
import Derived.WalkKit
import Derived.Maps.OwnOps
import Derived.Maps.OwnSet
import Derived.Maps.RangeWalk
import Derived.DeepKeys4
import Derived.Test.YtpndclpmhelikaaMM2
import Derived.Deep.DeepCutAuto
/- Contracts of FirstDifference, of the program and of the model. No conditions beyond those that each states. -/
namespace Go.Proofs.Ytpndclpmhelikaa
open Go.ChangeShapes Go.WideShapes Go.ChangeAt Go.RowKit
open Go.PlainAid Plain
set_option linter.unusedVariables false
namespace Mins
open Seqs Digits
/-- The first number before 2000 whose terms differ. -/
def diffAt (b : Int) (rows : List (List Int)) (out : List Int) (rows' : List (List Int)) (out' : List Int) : Option Nat := (List.range 2000).find? fun n => decide (¬ termG b rows out n = termG b rows' out' n)
def diffOK (b b' : Int) (rows rows' : List (List Int)) (out out' : List Int) : Bool := seqB b rows out && seqB b' rows' out' && decide (b = b')
def diffV (b b' : Int) (rows rows' : List (List Int)) (out out' : List Int) : Int := if diffOK b b' rows rows' out out' = true then ((diffAt b rows out rows' out').getD 0 : Nat) else 0
def diffK (b b' : Int) (rows rows' : List (List Int)) (out out' : List Int) : Bool := diffOK b b' rows rows' out out' && (diffAt b rows out rows' out').isSome
theorem range_find {p : Nat → Bool} {n m : Nat} (h : m < n) (hp : p m = true) (hn : ∀ j < m, p j = false) : (List.range n).find? p = some m := by
  rw [List.find?_range_eq_some]
  exact ⟨hp, List.mem_range.2 h, fun j hj => by simp [hn j hj]⟩
theorem diffAt_some {b : Int} {rows rows' : List (List Int)} {out out' : List Int} {m : Nat} (h : m < 2000) (hp : ¬ termG b rows out m = termG b rows' out' m) (hn : ∀ j < m, termG b rows out j = termG b rows' out' j) : diffAt b rows out rows' out' = some m :=
  range_find h (decide_eq_true hp) fun j hj => decide_eq_false fun h => h (hn j hj)
theorem diffAt_none {b : Int} {rows rows' : List (List Int)} {out out' : List Int} (hn : ∀ j < 2000, termG b rows out j = termG b rows' out' j) : diffAt b rows out rows' out' = none := by
  rw [diffAt, List.find?_eq_none]
  intro j hj
  simp [hn j (List.mem_range.1 hj)]
theorem ask_small' {b : Int} {rows : List (List Int)} {out : List Int} (h : seqB b rows out = true) (i : Nat) (hi : i ≤ 4000) : termV b rows out (i : Int) = termG b rows out i := by
  have hb := seqB_out h
  have h2 : (i : Int) < powV b 16 := by
    obtain ⟨n, rfl⟩ := Int.eq_ofNat_of_zero_le (show 0 ≤ b by have := hb.1; omega)
    have hn := hb.1
    rw [powV_in n (by omega) (by have := hb.2.1; omega)]
    have h3 : 2 ^ 16 ≤ n ^ 16 := Nat.pow_le_pow_left (by omega) 16
    have h4 : (2 : Nat) ^ 16 = 65536 := by decide
    omega
  rw [termV, if_pos (by simp [askB, h, h2])]
  rfl
theorem ret_nb {m m' : Int} {c c' : Bool} (h1 : m = m') (h2 : c = c') : Ending.returned (.tuple #[.int .i64 m, .bool c]) = .returned (.tuple #[.int .i64 m', .bool c']) := by rw [h1, h2]
theorem six {w1 : World} {b1 b2 : Nat} {t : TypeId} {x y z x' y' z' : Value} (h1 : Cells3 w1 b1 t x y z) (h2 : Cells3 w1 b2 t x' y' z') :
    w1.cell? ⟨b1, 0, none⟩ = some x ∧ w1.cell? ⟨b1, 1, none⟩ = some y ∧ w1.cell? ⟨b1, 2, none⟩ = some z ∧ w1.cell? ⟨b2, 0, none⟩ = some x' ∧ w1.cell? ⟨b2, 1, none⟩ = some y' ∧ w1.cell? ⟨b2, 2, none⟩ = some z' := ⟨h1.c0, h1.c1, h1.c2, h2.c0, h2.c1, h2.c2⟩
set_option maxHeartbeats 1000000 in
theorem spec_diff_no (u v : Value) (b b' : Int) (rows rows' : List (List Int)) (out out' : List Int) (w : World) (h1 : LiesS w u b rows out) (h2 : LiesS w v b' rows' out') (hno : diffOK b b' rows rows' out out' = false) :
    Calls Try.prog 20 #[u, v] w fun e w' => e = .returned (.tuple #[.int .i64 (diffV b b' rows rows' out out'), .bool (diffK b b' rows rows' out out')]) ∧ Below w.heap.size w w' := by
  have HNO := Lib.hid hno
  have HS := Lib.hid h1
  have HS' := Lib.hid h2
  obtain ⟨an, cn, ao, co, rfl⟩ := h1.form
  obtain ⟨an', cn', ao', co', rfl⟩ := h2.form
  clear h1 h2
  have HB : Hid (Below w.heap.size w ((w.alloc (Obj.cells #[Value.int .i64 b, Value.slice an rows.length cn, Value.slice ao out.length co] 27)).alloc (Obj.cells #[Value.int .i64 b', Value.slice an' rows'.length cn', Value.slice ao' out'.length co'] 27))) := ((Below.refl _ _).alloc (Nat.le_refl _) _).alloc (by simp) _
  have hC' := Cells3.new (w.alloc (Obj.cells #[Value.int .i64 b, Value.slice an rows.length cn, Value.slice ao out.length co] 27)) 27 (.int .i64 b') (.slice an' rows'.length cn') (.slice ao' out'.length co')
  rw [size_alloc'] at hC'
  have HC := Lib.hid ((Cells3.new w 27 (.int .i64 b) (.slice an rows.length cn) (.slice ao out.length co)).alloc (Obj.cells #[Value.int .i64 b', Value.slice an' rows'.length cn', Value.slice ao' out'.length co'] 27))
  have HC' := Lib.hid hC'
  clear hC'
  have HV : Hid (diffV b b' rows rows' out out' = 0 ∧ diffK b b' rows rows' out out' = false) := by
    show _ ∧ _
    simp only [diffV, diffK, HNO.out]
    exact ⟨rfl, rfl⟩
  simp only [diffOK, Bool.and_eq_false_iff, decide_eq_false_iff_not] at hno
  have k0 := HC.out.c0
  have k1 := HC.out.c1
  have k2 := HC.out.c2
  have k3 := HC'.out.c0
  have k4 := HC'.out.c1
  have k5 := HC'.out.c2
  cases hq : seqB b rows out with
  | false =>
    have HQ := Lib.hid hq
    clear hq hno
    go_enter Try.func20, Try.ntmps20
    go_wp2_with fail
    refine (spec_is _ b rows out _ (HS.out.below HB.out)).mono ?_
    rintro e W1 ⟨rfl, b1⟩
    rw [HQ.out]
    have HB1 := Lib.hid (HB.out.trans (b1.mono HB.out.size))
    clear b1
    go_wp2
    go_ret2
    exact ⟨ret_nb HV.out.1.symm HV.out.2.symm, HB1.out⟩
  | true =>
    have HQ := Lib.hid hq
    cases hq' : seqB b' rows' out' with
    | false =>
      have HQ' := Lib.hid hq'
      clear hq hno hq'
      go_enter Try.func20, Try.ntmps20
      go_wp2_with fail
      refine (spec_is _ b rows out _ (HS.out.below HB.out)).mono ?_
      rintro e W1 ⟨rfl, b1⟩
      rw [HQ.out]
      have HB1 := Lib.hid (HB.out.trans (b1.mono HB.out.size))
      have HC1 := Lib.hid (HC.out.below b1)
      have HC1' := Lib.hid (HC'.out.below b1)
      clear b1 k0 k1 k2 k3 k4 k5 HB HC HC'
      have k0 := HC1.out.c0
      have k1 := HC1.out.c1
      have k2 := HC1.out.c2
      have k3 := HC1'.out.c0
      have k4 := HC1'.out.c1
      have k5 := HC1'.out.c2
      go_wp2_with fail
      refine (spec_is _ b' rows' out' _ (HS'.out.below HB1.out)).mono ?_
      rintro e W2 ⟨rfl, b1⟩
      rw [HQ'.out]
      have HB2 := Lib.hid (HB1.out.trans (b1.mono HB1.out.size))
      clear b1
      go_wp2
      go_ret2
      exact ⟨ret_nb HV.out.1.symm HV.out.2.symm, HB2.out⟩
    | true =>
      have HQ' := Lib.hid hq'
      have hb : ¬ b = b' := by
        rcases hno with (h | h) | h
        · rw [hq] at h; cases h
        · rw [hq'] at h; cases h
        · exact h
      have hd : (b != b') = true := by simpa using hb
      clear hq hno hq' hb
      go_enter Try.func20, Try.ntmps20
      go_wp2_with fail
      refine (spec_is _ b rows out _ (HS.out.below HB.out)).mono ?_
      rintro e W1 ⟨rfl, b1⟩
      rw [HQ.out]
      have HB1 := Lib.hid (HB.out.trans (b1.mono HB.out.size))
      have HC1 := Lib.hid (HC.out.below b1)
      have HC1' := Lib.hid (HC'.out.below b1)
      clear b1 k0 k1 k2 k3 k4 k5 HB HC HC'
      have k0 := HC1.out.c0
      have k1 := HC1.out.c1
      have k2 := HC1.out.c2
      have k3 := HC1'.out.c0
      have k4 := HC1'.out.c1
      have k5 := HC1'.out.c2
      go_wp2_with fail
      refine (spec_is _ b' rows' out' _ (HS'.out.below HB1.out)).mono ?_
      rintro e W2 ⟨rfl, b1⟩
      rw [HQ'.out]
      have HB2 := Lib.hid (HB1.out.trans (b1.mono HB1.out.size))
      have HC2 := Lib.hid (HC1.out.below b1)
      have HC2' := Lib.hid (HC1'.out.below b1)
      clear b1 k0 k1 k2 k3 k4 k5 HB1 HC1 HC1'
      have k0 := HC2.out.c0
      have k1 := HC2.out.c1
      have k2 := HC2.out.c2
      have k3 := HC2'.out.c0
      have k4 := HC2'.out.c1
      have k5 := HC2'.out.c2
      go_wp2
      go_ret2
      exact ⟨ret_nb HV.out.1.symm HV.out.2.symm, HB2.out⟩
set_option maxHeartbeats 1000000 in
theorem spec_diff_yes (u v : Value) (b : Int) (rows rows' : List (List Int)) (out out' : List Int) (w : World) (h1 : LiesS w u b rows out) (h2 : LiesS w v b rows' out') (hq : seqB b rows out = true) (hq' : seqB b rows' out' = true) :
    Calls Try.prog 20 #[u, v] w fun e w' => e = .returned (.tuple #[.int .i64 (((diffAt b rows out rows' out').getD 0 : Nat) : Int), .bool (diffAt b rows out rows' out').isSome]) ∧ Below w.heap.size w w' := by
  obtain ⟨b', hbb⟩ : ∃ b', b' = b := ⟨b, rfl⟩
  rw [← hbb] at h2 hq'
  have HBB := Lib.hid hbb
  have HQ := Lib.hid hq
  have HQ1 := Lib.hid hq'
  have hd : (b != b') = false := by simp [hbb]
  have HS := Lib.hid h1
  have HS' := Lib.hid h2
  obtain ⟨an, cn, ao, co, rfl⟩ := h1.form
  obtain ⟨an', cn', ao', co', rfl⟩ := h2.form
  clear h1 h2
  have HB : Hid (Below w.heap.size w ((w.alloc (Obj.cells #[Value.int .i64 b, Value.slice an rows.length cn, Value.slice ao out.length co] 27)).alloc (Obj.cells #[Value.int .i64 b', Value.slice an' rows'.length cn', Value.slice ao' out'.length co'] 27))) := ((Below.refl _ _).alloc (Nat.le_refl _) _).alloc (by simp) _
  have hC' := Cells3.new (w.alloc (Obj.cells #[Value.int .i64 b, Value.slice an rows.length cn, Value.slice ao out.length co] 27)) 27 (.int .i64 b') (.slice an' rows'.length cn') (.slice ao' out'.length co')
  rw [size_alloc'] at hC'
  have HC := Lib.hid ((Cells3.new w 27 (.int .i64 b) (.slice an rows.length cn) (.slice ao out.length co)).alloc (Obj.cells #[Value.int .i64 b', Value.slice an' rows'.length cn', Value.slice ao' out'.length co'] 27))
  have HC' := Lib.hid hC'
  clear hC'
  clear hq hq' hbb
  have CA := Lib.hid (fun (W : World) (hW : Below w.heap.size w W) (n : Nat) (hn : n ≤ 4000) => (by have h1 := spec_termat _ b rows out W (HS.out.below hW) (n : Int); rw [ask_small' HQ.out n hn] at h1; exact h1 : Calls Try.prog 37 #[_, .int .i64 (n : Int)] W fun e w' => e = .returned (.int .i64 (termG b rows out n)) ∧ Below W.heap.size W w'))
  have CB := Lib.hid (fun (W : World) (hW : Below w.heap.size w W) (n : Nat) (hn : n ≤ 4000) => (by have h1 := spec_termat _ b' rows' out' W (HS'.out.below hW) (n : Int); rw [ask_small' HQ1.out n hn] at h1; exact h1 : Calls Try.prog 37 #[_, .int .i64 (n : Int)] W fun e w' => e = .returned (.int .i64 (termG b' rows' out' n)) ∧ Below W.heap.size W w'))
  have k0 := HC.out.c0
  have k1 := HC.out.c1
  have k2 := HC.out.c2
  have k3 := HC'.out.c0
  have k4 := HC'.out.c1
  have k5 := HC'.out.c2
  go_enter Try.func20, Try.ntmps20
  go_wp2_with fail
  refine (spec_is _ b rows out _ (HS.out.below HB.out)).mono ?_
  rintro e W1 ⟨rfl, b1⟩
  rw [HQ.out]
  have HB1 := Lib.hid (HB.out.trans (b1.mono HB.out.size))
  have HC1 := Lib.hid (HC.out.below b1)
  have HC1' := Lib.hid (HC'.out.below b1)
  clear b1 k0 k1 k2 k3 k4 k5 HB HC HC'
  have k0 := HC1.out.c0
  have k1 := HC1.out.c1
  have k2 := HC1.out.c2
  have k3 := HC1'.out.c0
  have k4 := HC1'.out.c1
  have k5 := HC1'.out.c2
  go_wp2_with fail
  refine (spec_is _ b' rows' out' _ (HS'.out.below HB1.out)).mono ?_
  rintro e W2 ⟨rfl, b1⟩
  rw [HQ1.out]
  have HB2 := Lib.hid (HB1.out.trans (b1.mono HB1.out.size))
  have HC2 := Lib.hid (HC1.out.below b1)
  have HC2' := Lib.hid (HC1'.out.below b1)
  clear b1 k0 k1 k2 k3 k4 k5 HB1 HC1 HC1'
  have k0 := HC2.out.c0
  have k1 := HC2.out.c1
  have k2 := HC2.out.c2
  have k3 := HC2'.out.c0
  have k4 := HC2'.out.c1
  have k5 := HC2'.out.c2
  go_wp2_with fail
  go_loopw [6] (fun n' wr => ∃ n : Nat, n ≤ 2000 ∧ n' = .int .i64 n ∧ Hid (∀ j < n, termG b rows out j = termG b rows' out' j) ∧ Hid (Cells3 wr w.heap.size 27 (.int .i64 b) (.slice an rows.length cn) (.slice ao out.length co)) ∧ Hid (Cells3 wr (w.heap.size + 1) 27 (.int .i64 b') (.slice an' rows'.length cn') (.slice ao' out'.length co')) ∧ Hid (Below w.heap.size w wr)) (fun n' _ => 2000 - (intOf n').toNat)
  case atStart => exact ⟨0, by omega, rfl, fun j hj => by omega, HC2, HC2', HB2⟩
  case round =>
    clear k0 k1 k2 k3 k4 k5 HC2 HC2' HB2
    obtain ⟨n, hn, rfl, HI, hC, hC', hB⟩ := hrel
    by_cases hlt : n < 2000
    case neg =>
      have HE := Lib.hid (diffAt_none (b := b) (rows := rows) (rows' := rows') (out := out) (out' := out') fun j hj => HI.out j (by omega))
      have hdn : decide ((n : Int) < 2000) = false := decide_eq_false (by omega)
      go_wp2
      go_ret2
      exact ⟨ret_nb (by rw [HE.out]; rfl) (by rw [HE.out]; rfl), hB.out⟩
    case pos =>
      have hdn : decide ((n : Int) < 2000) = true := decide_eq_true (by omega)
      obtain ⟨t1, ht1⟩ : ∃ t, t = termG b rows out n := ⟨_, rfl⟩
      obtain ⟨t2, ht2⟩ : ∃ t, t = termG b' rows' out' n := ⟨_, rfl⟩
      have HT1 := Lib.hid ht1
      have HT2 := Lib.hid ht2
      clear ht1 ht2
      have HA := Lib.hid (fun (W : World) (hW : Below w.heap.size w W) => (CA.out W hW n (by omega)).mono fun e w' (h : e = .returned (.int .i64 (termG b rows out n)) ∧ Below W.heap.size W w') => (⟨by rw [HT1.out]; exact h.1, h.2⟩ : e = .returned (.int .i64 t1) ∧ Below W.heap.size W w'))
      have HX := Lib.hid (fun (W : World) (hW : Below w.heap.size w W) => (CB.out W hW n (by omega)).mono fun e w' (h : e = .returned (.int .i64 (termG b' rows' out' n)) ∧ Below W.heap.size W w') => (⟨by rw [HT2.out]; exact h.1, h.2⟩ : e = .returned (.int .i64 t2) ∧ Below W.heap.size W w'))
      have D := Lib.hid (hC.out.below (below_drew' wr))
      have D' := Lib.hid (hC'.out.below (below_drew' wr))
      have HD := Lib.hid (hB.out.trans ((below_drew' wr).mono hB.out.size))
      have HTE : Hid (termG b rows' out' n = t2) := by show _ = _; rw [HT2.out, HBB.out]
      have k0 := hC.out.c0
      have k1 := hC.out.c1
      have k2 := hC.out.c2
      have k3 := hC'.out.c0
      have k4 := hC'.out.c1
      have k5 := hC'.out.c2
      by_cases he : t1 = t2
      case pos =>
        have HE : Hid (∀ j < n + 1, termG b rows out j = termG b rows' out' j) := fun j hj => by
          by_cases e : j = n
          · subst e
            rw [HTE.out, ← HT1.out, he]
          · exact HI.out j (by omega)
        have hdt : (t1 != t2) = false := by simp [he]
        clear he
        go_wp2_with fail
        go_region_held3 (fun w' => w'.cell? ⟨w.heap.size, 0, none⟩ = some (.int .i64 b) ∧ w'.cell? ⟨w.heap.size, 1, none⟩ = some (.slice an rows.length cn) ∧ w'.cell? ⟨w.heap.size, 2, none⟩ = some (.slice ao out.length co) ∧ w'.cell? ⟨w.heap.size + 1, 0, none⟩ = some (.int .i64 b') ∧ w'.cell? ⟨w.heap.size + 1, 1, none⟩ = some (.slice an' rows'.length cn') ∧ w'.cell? ⟨w.heap.size + 1, 2, none⟩ = some (.slice ao' out'.length co'))
          (first | exact six D.out D'.out | exact six (D.out.below f1) (D'.out.below f1) | exact six ((D.out.below f1).below f2) ((D'.out.below f1).below f2))
          (first | (go_at_call 37; (with_reducible refine (HA.out _ HD.out).mono ?_); rintro e Wt ⟨rfl, f1⟩) | (go_at_call 37; (with_reducible refine (HX.out _ HD.out).mono ?_); rintro e Wt ⟨rfl, f1⟩) | (go_at_call 37; (with_reducible refine (HA.out _ (HD.out.trans (f1.mono HD.out.size))).mono ?_); rintro e Wu ⟨rfl, f2⟩) | (go_at_call 37; (with_reducible refine (HX.out _ (HD.out.trans (f1.mono HD.out.size))).mono ?_); rintro e Wu ⟨rfl, f2⟩))
        all_goals
          have hC2 := Lib.hid ((D.out.below f1).below f2)
          have hC2' := Lib.hid ((D'.out.below f1).below f2)
          have hB2 := Lib.hid ((HD.out.trans (f1.mono HD.out.size)).trans (f2.mono (HD.out.trans (f1.mono HD.out.size)).size))
          clear f1 f2 D D' HD hC hC' hB k0 k1 k2 k3 k4 k5
          go_wp2
          go_roundw
          case rel => exact ⟨n + 1, by omega, by go_num, HE, hC2, hC2', hB2⟩
          case measure => simp [intOf]; omega
      case neg =>
        have HE := Lib.hid (diffAt_some (b := b) (rows := rows) (rows' := rows') (out := out) (out' := out') hlt (by rw [HTE.out, ← HT1.out]; exact he) HI.out)
        have hdt : (t1 != t2) = true := by simpa using he
        clear he
        go_wp2_with fail
        go_region_held3 (fun w' => w'.cell? ⟨w.heap.size, 0, none⟩ = some (.int .i64 b) ∧ w'.cell? ⟨w.heap.size, 1, none⟩ = some (.slice an rows.length cn) ∧ w'.cell? ⟨w.heap.size, 2, none⟩ = some (.slice ao out.length co) ∧ w'.cell? ⟨w.heap.size + 1, 0, none⟩ = some (.int .i64 b') ∧ w'.cell? ⟨w.heap.size + 1, 1, none⟩ = some (.slice an' rows'.length cn') ∧ w'.cell? ⟨w.heap.size + 1, 2, none⟩ = some (.slice ao' out'.length co'))
          (first | exact six D.out D'.out | exact six (D.out.below f1) (D'.out.below f1) | exact six ((D.out.below f1).below f2) ((D'.out.below f1).below f2))
          (first | (go_at_call 37; (with_reducible refine (HA.out _ HD.out).mono ?_); rintro e Wt ⟨rfl, f1⟩) | (go_at_call 37; (with_reducible refine (HX.out _ HD.out).mono ?_); rintro e Wt ⟨rfl, f1⟩) | (go_at_call 37; (with_reducible refine (HA.out _ (HD.out.trans (f1.mono HD.out.size))).mono ?_); rintro e Wu ⟨rfl, f2⟩) | (go_at_call 37; (with_reducible refine (HX.out _ (HD.out.trans (f1.mono HD.out.size))).mono ?_); rintro e Wu ⟨rfl, f2⟩))
        all_goals
          have hB2 := Lib.hid ((HD.out.trans (f1.mono HD.out.size)).trans (f2.mono (HD.out.trans (f1.mono HD.out.size)).size))
          clear f1 f2 D D' HD hC hC' hB k0 k1 k2 k3 k4 k5
          go_wp2
          go_ret2
          exact ⟨ret_nb (by rw [HE.out]; rfl) (by rw [HE.out]; rfl), hB2.out⟩
set_option maxHeartbeats 1000000 in
theorem impl_diff_no (u v : Value) (b b' : Int) (rows rows' : List (List Int)) (out out' : List Int) (w : World) (h1 : LiesS w u b rows out) (h2 : LiesS w v b' rows' out') (hno : diffOK b b' rows rows' out out' = false) :
    Calls Try.prog 19 #[u, v] w fun e w' => e = .returned (.tuple #[.int .i64 (diffV b b' rows rows' out out'), .bool (diffK b b' rows rows' out out')]) ∧ Below w.heap.size w w' := by
  have HNO := Lib.hid hno
  have HS := Lib.hid h1
  have HS' := Lib.hid h2
  obtain ⟨an, cn, ao, co, rfl⟩ := h1.form
  obtain ⟨an', cn', ao', co', rfl⟩ := h2.form
  clear h1 h2
  have HB : Hid (Below w.heap.size w ((w.alloc (Obj.cells #[Value.int .i64 b, Value.slice an rows.length cn, Value.slice ao out.length co] 27)).alloc (Obj.cells #[Value.int .i64 b', Value.slice an' rows'.length cn', Value.slice ao' out'.length co'] 27))) := ((Below.refl _ _).alloc (Nat.le_refl _) _).alloc (by simp) _
  have hC' := Cells3.new (w.alloc (Obj.cells #[Value.int .i64 b, Value.slice an rows.length cn, Value.slice ao out.length co] 27)) 27 (.int .i64 b') (.slice an' rows'.length cn') (.slice ao' out'.length co')
  rw [size_alloc'] at hC'
  have HC := Lib.hid ((Cells3.new w 27 (.int .i64 b) (.slice an rows.length cn) (.slice ao out.length co)).alloc (Obj.cells #[Value.int .i64 b', Value.slice an' rows'.length cn', Value.slice ao' out'.length co'] 27))
  have HC' := Lib.hid hC'
  clear hC'
  have HV : Hid (diffV b b' rows rows' out out' = 0 ∧ diffK b b' rows rows' out out' = false) := by
    show _ ∧ _
    simp only [diffV, diffK, HNO.out]
    exact ⟨rfl, rfl⟩
  simp only [diffOK, Bool.and_eq_false_iff, decide_eq_false_iff_not] at hno
  have k0 := HC.out.c0
  have k1 := HC.out.c1
  have k2 := HC.out.c2
  have k3 := HC'.out.c0
  have k4 := HC'.out.c1
  have k5 := HC'.out.c2
  cases hq : seqB b rows out with
  | false =>
    have HQ := Lib.hid hq
    clear hq hno
    go_enter Try.func19, Try.ntmps19
    go_wp2_with fail
    refine (impl_is _ b rows out _ (HS.out.below HB.out)).mono ?_
    rintro e W1 ⟨rfl, b1⟩
    rw [HQ.out]
    have HB1 := Lib.hid (HB.out.trans (b1.mono HB.out.size))
    clear b1
    go_wp2
    go_ret2
    exact ⟨ret_nb HV.out.1.symm HV.out.2.symm, HB1.out⟩
  | true =>
    have HQ := Lib.hid hq
    cases hq' : seqB b' rows' out' with
    | false =>
      have HQ' := Lib.hid hq'
      clear hq hno hq'
      go_enter Try.func19, Try.ntmps19
      go_wp2_with fail
      refine (impl_is _ b rows out _ (HS.out.below HB.out)).mono ?_
      rintro e W1 ⟨rfl, b1⟩
      rw [HQ.out]
      have HB1 := Lib.hid (HB.out.trans (b1.mono HB.out.size))
      have HC1 := Lib.hid (HC.out.below b1)
      have HC1' := Lib.hid (HC'.out.below b1)
      clear b1 k0 k1 k2 k3 k4 k5 HB HC HC'
      have k0 := HC1.out.c0
      have k1 := HC1.out.c1
      have k2 := HC1.out.c2
      have k3 := HC1'.out.c0
      have k4 := HC1'.out.c1
      have k5 := HC1'.out.c2
      go_wp2_with fail
      refine (impl_is _ b' rows' out' _ (HS'.out.below HB1.out)).mono ?_
      rintro e W2 ⟨rfl, b1⟩
      rw [HQ'.out]
      have HB2 := Lib.hid (HB1.out.trans (b1.mono HB1.out.size))
      clear b1
      go_wp2
      go_ret2
      exact ⟨ret_nb HV.out.1.symm HV.out.2.symm, HB2.out⟩
    | true =>
      have HQ' := Lib.hid hq'
      have hb : ¬ b = b' := by
        rcases hno with (h | h) | h
        · rw [hq] at h; cases h
        · rw [hq'] at h; cases h
        · exact h
      have hd : (b != b') = true := by simpa using hb
      clear hq hno hq' hb
      go_enter Try.func19, Try.ntmps19
      go_wp2_with fail
      refine (impl_is _ b rows out _ (HS.out.below HB.out)).mono ?_
      rintro e W1 ⟨rfl, b1⟩
      rw [HQ.out]
      have HB1 := Lib.hid (HB.out.trans (b1.mono HB.out.size))
      have HC1 := Lib.hid (HC.out.below b1)
      have HC1' := Lib.hid (HC'.out.below b1)
      clear b1 k0 k1 k2 k3 k4 k5 HB HC HC'
      have k0 := HC1.out.c0
      have k1 := HC1.out.c1
      have k2 := HC1.out.c2
      have k3 := HC1'.out.c0
      have k4 := HC1'.out.c1
      have k5 := HC1'.out.c2
      go_wp2_with fail
      refine (impl_is _ b' rows' out' _ (HS'.out.below HB1.out)).mono ?_
      rintro e W2 ⟨rfl, b1⟩
      rw [HQ'.out]
      have HB2 := Lib.hid (HB1.out.trans (b1.mono HB1.out.size))
      have HC2 := Lib.hid (HC1.out.below b1)
      have HC2' := Lib.hid (HC1'.out.below b1)
      clear b1 k0 k1 k2 k3 k4 k5 HB1 HC1 HC1'
      have k0 := HC2.out.c0
      have k1 := HC2.out.c1
      have k2 := HC2.out.c2
      have k3 := HC2'.out.c0
      have k4 := HC2'.out.c1
      have k5 := HC2'.out.c2
      go_wp2
      go_ret2
      exact ⟨ret_nb HV.out.1.symm HV.out.2.symm, HB2.out⟩
set_option maxHeartbeats 1000000 in
theorem impl_diff_yes (u v : Value) (b : Int) (rows rows' : List (List Int)) (out out' : List Int) (w : World) (h1 : LiesS w u b rows out) (h2 : LiesS w v b rows' out') (hq : seqB b rows out = true) (hq' : seqB b rows' out' = true) :
    Calls Try.prog 19 #[u, v] w fun e w' => e = .returned (.tuple #[.int .i64 (((diffAt b rows out rows' out').getD 0 : Nat) : Int), .bool (diffAt b rows out rows' out').isSome]) ∧ Below w.heap.size w w' := by
  obtain ⟨b', hbb⟩ : ∃ b', b' = b := ⟨b, rfl⟩
  rw [← hbb] at h2 hq'
  have HBB := Lib.hid hbb
  have HQ := Lib.hid hq
  have HQ1 := Lib.hid hq'
  have hd : (b != b') = false := by simp [hbb]
  have HS := Lib.hid h1
  have HS' := Lib.hid h2
  obtain ⟨an, cn, ao, co, rfl⟩ := h1.form
  obtain ⟨an', cn', ao', co', rfl⟩ := h2.form
  clear h1 h2
  have HB : Hid (Below w.heap.size w ((w.alloc (Obj.cells #[Value.int .i64 b, Value.slice an rows.length cn, Value.slice ao out.length co] 27)).alloc (Obj.cells #[Value.int .i64 b', Value.slice an' rows'.length cn', Value.slice ao' out'.length co'] 27))) := ((Below.refl _ _).alloc (Nat.le_refl _) _).alloc (by simp) _
  have hC' := Cells3.new (w.alloc (Obj.cells #[Value.int .i64 b, Value.slice an rows.length cn, Value.slice ao out.length co] 27)) 27 (.int .i64 b') (.slice an' rows'.length cn') (.slice ao' out'.length co')
  rw [size_alloc'] at hC'
  have HC := Lib.hid ((Cells3.new w 27 (.int .i64 b) (.slice an rows.length cn) (.slice ao out.length co)).alloc (Obj.cells #[Value.int .i64 b', Value.slice an' rows'.length cn', Value.slice ao' out'.length co'] 27))
  have HC' := Lib.hid hC'
  clear hC'
  clear hq hq' hbb
  have CA := Lib.hid (fun (W : World) (hW : Below w.heap.size w W) (n : Nat) (hn : n ≤ 4000) => (impl_term _ b rows out W (HS.out.below hW) (n : Int) (seqB_out HQ.out) : Calls Try.prog 36 #[_, .int .i64 (n : Int)] W fun e w' => e = .returned (.int .i64 (termG b rows out n)) ∧ Below W.heap.size W w'))
  have CB := Lib.hid (fun (W : World) (hW : Below w.heap.size w W) (n : Nat) (hn : n ≤ 4000) => (impl_term _ b' rows' out' W (HS'.out.below hW) (n : Int) (seqB_out HQ1.out) : Calls Try.prog 36 #[_, .int .i64 (n : Int)] W fun e w' => e = .returned (.int .i64 (termG b' rows' out' n)) ∧ Below W.heap.size W w'))
  have k0 := HC.out.c0
  have k1 := HC.out.c1
  have k2 := HC.out.c2
  have k3 := HC'.out.c0
  have k4 := HC'.out.c1
  have k5 := HC'.out.c2
  go_enter Try.func19, Try.ntmps19
  go_wp2_with fail
  refine (impl_is _ b rows out _ (HS.out.below HB.out)).mono ?_
  rintro e W1 ⟨rfl, b1⟩
  rw [HQ.out]
  have HB1 := Lib.hid (HB.out.trans (b1.mono HB.out.size))
  have HC1 := Lib.hid (HC.out.below b1)
  have HC1' := Lib.hid (HC'.out.below b1)
  clear b1 k0 k1 k2 k3 k4 k5 HB HC HC'
  have k0 := HC1.out.c0
  have k1 := HC1.out.c1
  have k2 := HC1.out.c2
  have k3 := HC1'.out.c0
  have k4 := HC1'.out.c1
  have k5 := HC1'.out.c2
  go_wp2_with fail
  refine (impl_is _ b' rows' out' _ (HS'.out.below HB1.out)).mono ?_
  rintro e W2 ⟨rfl, b1⟩
  rw [HQ1.out]
  have HB2 := Lib.hid (HB1.out.trans (b1.mono HB1.out.size))
  have HC2 := Lib.hid (HC1.out.below b1)
  have HC2' := Lib.hid (HC1'.out.below b1)
  clear b1 k0 k1 k2 k3 k4 k5 HB1 HC1 HC1'
  have k0 := HC2.out.c0
  have k1 := HC2.out.c1
  have k2 := HC2.out.c2
  have k3 := HC2'.out.c0
  have k4 := HC2'.out.c1
  have k5 := HC2'.out.c2
  go_wp2_with fail
  go_loopw [22] (fun n' wr => ∃ n : Nat, n ≤ 2000 ∧ n' = .int .i64 n ∧ Hid (∀ j < n, termG b rows out j = termG b rows' out' j) ∧ Hid (Cells3 wr w.heap.size 27 (.int .i64 b) (.slice an rows.length cn) (.slice ao out.length co)) ∧ Hid (Cells3 wr (w.heap.size + 1) 27 (.int .i64 b') (.slice an' rows'.length cn') (.slice ao' out'.length co')) ∧ Hid (Below w.heap.size w wr)) (fun n' _ => 2000 - (intOf n').toNat)
  case atStart => exact ⟨0, by omega, rfl, fun j hj => by omega, HC2, HC2', HB2⟩
  case round =>
    clear k0 k1 k2 k3 k4 k5 HC2 HC2' HB2
    obtain ⟨n, hn, rfl, HI, hC, hC', hB⟩ := hrel
    by_cases hlt : n < 2000
    case neg =>
      have HE := Lib.hid (diffAt_none (b := b) (rows := rows) (rows' := rows') (out := out) (out' := out') fun j hj => HI.out j (by omega))
      have hdn : decide ((n : Int) < 2000) = false := decide_eq_false (by omega)
      go_wp2
      go_ret2
      exact ⟨ret_nb (by rw [HE.out]; rfl) (by rw [HE.out]; rfl), hB.out⟩
    case pos =>
      have hdn : decide ((n : Int) < 2000) = true := decide_eq_true (by omega)
      obtain ⟨t1, ht1⟩ : ∃ t, t = termG b rows out n := ⟨_, rfl⟩
      obtain ⟨t2, ht2⟩ : ∃ t, t = termG b' rows' out' n := ⟨_, rfl⟩
      have HT1 := Lib.hid ht1
      have HT2 := Lib.hid ht2
      clear ht1 ht2
      have HA := Lib.hid (fun (W : World) (hW : Below w.heap.size w W) => (CA.out W hW n (by omega)).mono fun e w' (h : e = .returned (.int .i64 (termG b rows out n)) ∧ Below W.heap.size W w') => (⟨by rw [HT1.out]; exact h.1, h.2⟩ : e = .returned (.int .i64 t1) ∧ Below W.heap.size W w'))
      have HX := Lib.hid (fun (W : World) (hW : Below w.heap.size w W) => (CB.out W hW n (by omega)).mono fun e w' (h : e = .returned (.int .i64 (termG b' rows' out' n)) ∧ Below W.heap.size W w') => (⟨by rw [HT2.out]; exact h.1, h.2⟩ : e = .returned (.int .i64 t2) ∧ Below W.heap.size W w'))
      have D := Lib.hid (hC.out.below (below_drew' wr))
      have D' := Lib.hid (hC'.out.below (below_drew' wr))
      have HD := Lib.hid (hB.out.trans ((below_drew' wr).mono hB.out.size))
      have HTE : Hid (termG b rows' out' n = t2) := by show _ = _; rw [HT2.out, HBB.out]
      have k0 := hC.out.c0
      have k1 := hC.out.c1
      have k2 := hC.out.c2
      have k3 := hC'.out.c0
      have k4 := hC'.out.c1
      have k5 := hC'.out.c2
      by_cases he : t1 = t2
      case pos =>
        have HE : Hid (∀ j < n + 1, termG b rows out j = termG b rows' out' j) := fun j hj => by
          by_cases e : j = n
          · subst e
            rw [HTE.out, ← HT1.out, he]
          · exact HI.out j (by omega)
        have hdt : (t1 != t2) = false := by simp [he]
        clear he
        go_wp2_with fail
        go_region_held3 (fun w' => w'.cell? ⟨w.heap.size, 0, none⟩ = some (.int .i64 b) ∧ w'.cell? ⟨w.heap.size, 1, none⟩ = some (.slice an rows.length cn) ∧ w'.cell? ⟨w.heap.size, 2, none⟩ = some (.slice ao out.length co) ∧ w'.cell? ⟨w.heap.size + 1, 0, none⟩ = some (.int .i64 b') ∧ w'.cell? ⟨w.heap.size + 1, 1, none⟩ = some (.slice an' rows'.length cn') ∧ w'.cell? ⟨w.heap.size + 1, 2, none⟩ = some (.slice ao' out'.length co'))
          (first | exact six D.out D'.out | exact six (D.out.below f1) (D'.out.below f1) | exact six ((D.out.below f1).below f2) ((D'.out.below f1).below f2))
          (first | (go_at_call 36; (with_reducible refine (HA.out _ HD.out).mono ?_); rintro e Wt ⟨rfl, f1⟩) | (go_at_call 36; (with_reducible refine (HX.out _ HD.out).mono ?_); rintro e Wt ⟨rfl, f1⟩) | (go_at_call 36; (with_reducible refine (HA.out _ (HD.out.trans (f1.mono HD.out.size))).mono ?_); rintro e Wu ⟨rfl, f2⟩) | (go_at_call 36; (with_reducible refine (HX.out _ (HD.out.trans (f1.mono HD.out.size))).mono ?_); rintro e Wu ⟨rfl, f2⟩))
        all_goals
          have hC2 := Lib.hid ((D.out.below f1).below f2)
          have hC2' := Lib.hid ((D'.out.below f1).below f2)
          have hB2 := Lib.hid ((HD.out.trans (f1.mono HD.out.size)).trans (f2.mono (HD.out.trans (f1.mono HD.out.size)).size))
          clear f1 f2 D D' HD hC hC' hB k0 k1 k2 k3 k4 k5
          go_wp2
          go_roundw
          case rel => exact ⟨n + 1, by omega, by go_num, HE, hC2, hC2', hB2⟩
          case measure => simp [intOf]; omega
      case neg =>
        have HE := Lib.hid (diffAt_some (b := b) (rows := rows) (rows' := rows') (out := out) (out' := out') hlt (by rw [HTE.out, ← HT1.out]; exact he) HI.out)
        have hdt : (t1 != t2) = true := by simpa using he
        clear he
        go_wp2_with fail
        go_region_held3 (fun w' => w'.cell? ⟨w.heap.size, 0, none⟩ = some (.int .i64 b) ∧ w'.cell? ⟨w.heap.size, 1, none⟩ = some (.slice an rows.length cn) ∧ w'.cell? ⟨w.heap.size, 2, none⟩ = some (.slice ao out.length co) ∧ w'.cell? ⟨w.heap.size + 1, 0, none⟩ = some (.int .i64 b') ∧ w'.cell? ⟨w.heap.size + 1, 1, none⟩ = some (.slice an' rows'.length cn') ∧ w'.cell? ⟨w.heap.size + 1, 2, none⟩ = some (.slice ao' out'.length co'))
          (first | exact six D.out D'.out | exact six (D.out.below f1) (D'.out.below f1) | exact six ((D.out.below f1).below f2) ((D'.out.below f1).below f2))
          (first | (go_at_call 36; (with_reducible refine (HA.out _ HD.out).mono ?_); rintro e Wt ⟨rfl, f1⟩) | (go_at_call 36; (with_reducible refine (HX.out _ HD.out).mono ?_); rintro e Wt ⟨rfl, f1⟩) | (go_at_call 36; (with_reducible refine (HA.out _ (HD.out.trans (f1.mono HD.out.size))).mono ?_); rintro e Wu ⟨rfl, f2⟩) | (go_at_call 36; (with_reducible refine (HX.out _ (HD.out.trans (f1.mono HD.out.size))).mono ?_); rintro e Wu ⟨rfl, f2⟩))
        all_goals
          have hB2 := Lib.hid ((HD.out.trans (f1.mono HD.out.size)).trans (f2.mono (HD.out.trans (f1.mono HD.out.size)).size))
          clear f1 f2 D D' HD hC hC' hB k0 k1 k2 k3 k4 k5
          go_wp2
          go_ret2
          exact ⟨ret_nb (by rw [HE.out]; rfl) (by rw [HE.out]; rfl), hB2.out⟩
theorem spec_diff (u v : Value) (b b' : Int) (rows rows' : List (List Int)) (out out' : List Int) (w : World) (h1 : LiesS w u b rows out) (h2 : LiesS w v b' rows' out') : Calls Try.prog 20 #[u, v] w fun e w' => e = .returned (.tuple #[.int .i64 (diffV b b' rows rows' out out'), .bool (diffK b b' rows rows' out out')]) ∧ Below w.heap.size w w' := by
  cases hd : diffOK b b' rows rows' out out' with
  | false => exact spec_diff_no u v b b' rows rows' out out' w h1 h2 hd
  | true =>
    have hd2 := hd
    simp only [diffOK, Bool.and_eq_true, decide_eq_true_eq] at hd2
    obtain ⟨⟨hq, hq'⟩, rfl⟩ := hd2
    rw [diffV, diffK, if_pos hd, hd, Bool.true_and]
    exact spec_diff_yes u v b rows rows' out out' w h1 h2 hq hq'
theorem impl_diff (u v : Value) (b b' : Int) (rows rows' : List (List Int)) (out out' : List Int) (w : World) (h1 : LiesS w u b rows out) (h2 : LiesS w v b' rows' out') : Calls Try.prog 19 #[u, v] w fun e w' => e = .returned (.tuple #[.int .i64 (diffV b b' rows rows' out out'), .bool (diffK b b' rows rows' out out')]) ∧ Below w.heap.size w w' := by
  cases hd : diffOK b b' rows rows' out out' with
  | false => exact impl_diff_no u v b b' rows rows' out out' w h1 h2 hd
  | true =>
    have hd2 := hd
    simp only [diffOK, Bool.and_eq_true, decide_eq_true_eq] at hd2
    obtain ⟨⟨hq, hq'⟩, rfl⟩ := hd2
    rw [diffV, diffK, if_pos hd, hd, Bool.true_and]
    exact impl_diff_yes u v b rows rows' out out' w h1 h2 hq hq'
end Mins
end Go.Proofs.Ytpndclpmhelikaa
/- Plain facts on lists without repetition: how many elements they can have, an element put behind a list that lacks it, the different elements of a list and their numbers. No conditions beyond those that each fact states. -/
namespace Go.Proofs.Ytpndclpmhelikaa.Plain
set_option linter.unusedVariables false
/-! ### lists without repetition -/
theorem nodup_sub_len {α : Type} [DecidableEq α] : ∀ (l m : List α), l.Nodup → (∀ x ∈ l, x ∈ m) → l.length ≤ m.length
  | [], _, _, _ => Nat.zero_le _
  | a :: l, m, hn, hs => by
    have ha : a ∈ m := hs a (by simp)
    rw [List.nodup_cons] at hn
    have h1 := nodup_sub_len l (m.erase a) hn.2 (fun x hx => (List.mem_erase_of_ne (fun e => hn.1 (by rw [← e]; exact hx))).2 (hs x (by simp [hx])))
    rw [List.length_erase_of_mem ha] at h1
    have : 0 < m.length := List.length_pos_of_mem ha
    simp
    omega
theorem nodup_of_sub_len {α : Type} [DecidableEq α] : ∀ (l m : List α), l.Nodup → (∀ x ∈ l, x ∈ m) → m.length ≤ l.length → m.Nodup
  | [], m, _, _, hl => by
    have : m = [] := List.eq_nil_of_length_eq_zero (by simpa using hl)
    subst this
    exact List.nodup_nil
  | a :: l, m, hn, hs, hl => by
    have ha : a ∈ m := hs a (by simp)
    have hn' := hn
    rw [List.nodup_cons] at hn
    have hs' : ∀ x ∈ l, x ∈ m.erase a := fun x hx => (List.mem_erase_of_ne (fun e => hn.1 (by rw [← e]; exact hx))).2 (hs x (by simp [hx]))
    have hle : (m.erase a).length = m.length - 1 := List.length_erase_of_mem ha
    have h0 : 0 < m.length := List.length_pos_of_mem ha
    have hl' : m.length ≤ l.length + 1 := by simpa using hl
    have h1 := nodup_of_sub_len l (m.erase a) hn.2 hs' (by omega)
    have hna : a ∉ m.erase a := fun h2 => by
      have h3 := nodup_sub_len (a :: l) (m.erase a) hn' (fun x hx => by
        rcases List.mem_cons.1 hx with rfl | hx
        · exact h2
        · exact hs' x hx)
      simp at h3
      omega
    exact (List.perm_cons_erase ha).nodup_iff.2 (List.nodup_cons.2 ⟨hna, h1⟩)
theorem nodup_bounded (l : List Int) (N : Nat) (hn : l.Nodup) (hb : ∀ x ∈ l, 0 ≤ x ∧ x < N) : l.length ≤ N := by
  have h := nodup_sub_len l ((List.range N).map (fun n : Nat => (n : Int))) hn (fun x hx => by
    have := hb x hx
    exact List.mem_map.2 ⟨x.toNat, List.mem_range.2 (by omega), by omega⟩)
  simpa using h

/-! ### an element is put behind a list that lacks it -/
section
variable {α : Type} [DecidableEq α]
def addTo (l : List α) (x : α) : List α := if x ∈ l then l else l ++ [x]
def addAll (l xs : List α) : List α := xs.foldl addTo l
theorem addTo_in {l : List α} {x : α} (h : x ∈ l) : addTo l x = l := if_pos h
theorem addTo_new {l : List α} {x : α} (h : x ∉ l) : addTo l x = l ++ [x] := if_neg h
theorem addTo_nodup {l : List α} (h : l.Nodup) (x : α) : (addTo l x).Nodup := by
  unfold addTo
  split
  · exact h
  · rename_i hx
    rw [List.nodup_append]
    exact ⟨h, by simp, by simp; exact fun a ha e => hx (e ▸ ha)⟩
theorem mem_addTo {l : List α} {x y : α} : y ∈ addTo l x ↔ y ∈ l ∨ y = x := by
  unfold addTo
  split
  · rename_i h
    exact ⟨.inl, fun h1 => h1.elim id (fun e => e ▸ h)⟩
  · simp
theorem addTo_prefix (l : List α) (x : α) : l <+: addTo l x := by
  unfold addTo
  split
  · exact List.prefix_refl _
  · exact List.prefix_append _ _
theorem addAll_nil (l : List α) : addAll l [] = l := rfl
theorem addAll_cons (l : List α) (x : α) (xs : List α) : addAll l (x :: xs) = addAll (addTo l x) xs := rfl
theorem addAll_snoc (l xs : List α) (x : α) : addAll l (xs ++ [x]) = addTo (addAll l xs) x := by simp [addAll]
theorem addAll_nodup : ∀ (xs : List α) (l : List α), l.Nodup → (addAll l xs).Nodup
  | [], _, h => h
  | x :: xs, l, h => addAll_nodup xs _ (addTo_nodup h x)
theorem mem_addAll : ∀ (xs l : List α) (y : α), y ∈ addAll l xs ↔ y ∈ l ∨ y ∈ xs
  | [], l, y => by simp [addAll]
  | x :: xs, l, y => by
    rw [addAll_cons, mem_addAll xs, mem_addTo, List.mem_cons]
    constructor
    · rintro ((h | h) | h)
      · exact .inl h
      · exact .inr (.inl h)
      · exact .inr (.inr h)
    · rintro (h | h | h)
      · exact .inl (.inl h)
      · exact .inl (.inr h)
      · exact .inr h
theorem addAll_prefix : ∀ (xs l : List α), l <+: addAll l xs
  | [], _ => List.prefix_refl _
  | x :: xs, l => (addTo_prefix l x).trans (addAll_prefix xs _)
theorem addAll_get {l xs : List α} {i : Nat} {s : α} (h : l[i]? = some s) : (addAll l xs)[i]? = some s := by
  obtain ⟨t, ht⟩ := addAll_prefix xs l
  have hi := (List.getElem?_eq_some_iff.1 h).1
  rw [← ht, List.getElem?_append_left hi]
  exact h
theorem addAll_of_sub : ∀ (xs l : List α), (∀ x ∈ xs, x ∈ l) → addAll l xs = l
  | [], _, _ => rfl
  | x :: xs, l, h => by
    rw [addAll_cons, addTo_in (h x (by simp))]
    exact addAll_of_sub xs l fun y hy => h y (by simp [hy])
theorem addAll_append (l xs ys : List α) : addAll l (xs ++ ys) = addAll (addAll l xs) ys := by simp [addAll]
/-- An element's first place. -/
def ix (l : List α) (x : α) : Nat := l.idxOf x
/-- The first place of an element stays while the list grows behind. -/
theorem idxOf_prefix {l m : List α} (h : l <+: m) {x : α} (hx : x ∈ l) : ix m x = ix l x := by
  obtain ⟨t, rfl⟩ := h
  rw [ix, List.idxOf_append, if_pos hx]
  rfl
theorem idxOf_lt {l : List α} {x : α} (h : x ∈ l) : ix l x < l.length := List.idxOf_lt_length_of_mem h
theorem get_idxOf {l : List α} {x : α} (h : x ∈ l) : l[ix l x]? = some x := by
  rw [List.getElem?_eq_getElem (idxOf_lt h)]
  exact congrArg some (List.getElem_idxOf (idxOf_lt h))
theorem idxOf_inj {l : List α} {x y : α} (hx : x ∈ l) (hy : y ∈ l) (h : ix l x = ix l y) : x = y := by
  have h1 := get_idxOf hx
  rw [h, get_idxOf hy] at h1
  exact (Option.some.inj h1).symm
theorem idxOf_get {l : List α} (hn : l.Nodup) {i : Nat} {x : α} (h : l[i]? = some x) : ix l x = i := by
  obtain ⟨hi, rfl⟩ := List.getElem?_eq_some_iff.1 h
  have h1 : l[i] ∈ l := List.getElem_mem _
  have h2 := get_idxOf h1
  obtain ⟨h3, h4⟩ := List.getElem?_eq_some_iff.1 h2
  have hp := List.pairwise_iff_getElem.1 hn
  rcases Nat.lt_trichotomy (ix l l[i]) i with h5 | h5 | h5
  · exact absurd h4 (hp _ _ h3 hi h5)
  · exact h5
  · exact absurd h4.symm (hp _ _ hi h3 h5)
/-- The different elements, as they first come. -/
def dist (keys : List α) : List α := addAll [] keys
theorem dist_nodup (keys : List α) : (dist keys).Nodup := addAll_nodup keys _ List.nodup_nil
theorem mem_dist {keys : List α} {x : α} : x ∈ dist keys ↔ x ∈ keys := by simp [dist, mem_addAll]
theorem dist_snoc (keys : List α) (x : α) : dist (keys ++ [x]) = addTo (dist keys) x := addAll_snoc _ _ _
theorem dist_prefix (keys ys : List α) : dist keys <+: dist (keys ++ ys) := by
  rw [dist, dist, addAll_append]
  exact addAll_prefix _ _
/-- Each key's number, by the order in which they first come. -/
def numb (keys : List α) : List Int := keys.map fun k => (ix (dist keys) k : Int)
theorem numb_len (keys : List α) : (numb keys).length = keys.length := by simp [numb]
theorem numb_get {keys : List α} {i : Nat} {k : α} (h : keys[i]? = some k) : (numb keys)[i]? = some (ix (dist keys) k : Int) := by simp [numb, h]
theorem numb_snoc (keys : List α) (k : α) : numb (keys ++ [k]) = numb keys ++ [(ix (addTo (dist keys) k) k : Int)] := by
  rw [numb, dist_snoc, List.map_append]
  congr 1
  apply List.map_congr_left
  intro x hx
  rw [idxOf_prefix (addTo_prefix _ _) (mem_dist.2 hx)]
theorem numb_new {keys : List α} {k : α} (h : k ∉ keys) : numb (keys ++ [k]) = numb keys ++ [((dist keys).length : Int)] := by
  rw [numb_snoc, addTo_new (fun h1 => h (mem_dist.1 h1)), ix, List.idxOf_append, if_neg (fun h1 => h (mem_dist.1 h1))]
  simp
theorem numb_old {keys : List α} {k : α} (h : k ∈ keys) : numb (keys ++ [k]) = numb keys ++ [(ix (dist keys) k : Int)] := by
  rw [numb_snoc, addTo_in (mem_dist.2 h)]
theorem numb_bd {keys : List α} {c : Int} (h : c ∈ numb keys) : 0 ≤ c ∧ c < (dist keys).length := by
  obtain ⟨k, hk, rfl⟩ := List.mem_map.1 h
  have := idxOf_lt (mem_dist.2 hk)
  omega
theorem numb_eq_iff {keys : List α} {i j : Nat} {k k' : α} (h : keys[i]? = some k) (h' : keys[j]? = some k') : (numb keys)[i]? = (numb keys)[j]? ↔ k = k' := by
  rw [numb_get h, numb_get h']
  constructor
  · intro e
    have e1 : ix (dist keys) k = ix (dist keys) k' := by injection e with e; omega
    exact idxOf_inj (mem_dist.2 (List.mem_of_getElem? h)) (mem_dist.2 (List.mem_of_getElem? h')) e1
  · rintro rfl; rfl
end
theorem mem_map_inj {α β : Type} {f : α → β} {l : List α} {x : α} (hf : ∀ a b, a ∈ l → f a = f b → b = x → a = b) : f x ∈ l.map f ↔ x ∈ l := by
  constructor
  · intro h
    obtain ⟨a, ha, e⟩ := List.mem_map.1 h
    exact (hf a x ha e rfl) ▸ ha
  · exact fun h => List.mem_map.2 ⟨x, h, rfl⟩
section
variable {α β : Type} [DecidableEq α] [DecidableEq β]
theorem addAll_map (f : α → β) (S : List α) (hf : ∀ a ∈ S, ∀ b ∈ S, f a = f b → a = b) : ∀ (xs l : List α), (∀ x ∈ l, x ∈ S) → (∀ x ∈ xs, x ∈ S) → addAll (l.map f) (xs.map f) = (addAll l xs).map f
  | [], _, _, _ => rfl
  | x :: xs, l, hl, hx => by
    have hxS := hx x (by simp)
    have hm : f x ∈ l.map f ↔ x ∈ l := mem_map_inj (fun a b ha e eb => by subst eb; exact hf a (hl a ha) b hxS e)
    have e1 : addTo (l.map f) (f x) = (addTo l x).map f := by
      by_cases h : x ∈ l
      · rw [addTo_in h, addTo_in (hm.2 h)]
      · rw [addTo_new h, addTo_new (fun h1 => h (hm.1 h1))]
        simp
    rw [List.map_cons, addAll_cons, e1, addAll_cons]
    exact addAll_map f S hf xs _ (fun y hy => by rcases mem_addTo.1 hy with h | rfl; exact hl y h; exact hxS) (fun y hy => hx y (by simp [hy]))
theorem dist_map (f : α → β) (keys : List α) (hf : ∀ a ∈ keys, ∀ b ∈ keys, f a = f b → a = b) : dist (keys.map f) = (dist keys).map f :=
  addAll_map f keys hf keys [] (by simp) (fun _ h => h)
theorem idxOf_map (f : α → β) : ∀ (l : List α) (x : α), (∀ a ∈ l, f a = f x → a = x) → ix (l.map f) (f x) = ix l x
  | [], _, _ => rfl
  | a :: l, x, h => by
    rw [ix, ix, List.map_cons, List.idxOf_cons, List.idxOf_cons]
    have ih := idxOf_map f l x (fun b hb => h b (by simp [hb]))
    by_cases e : a = x
    · subst e
      simp
    · have e2 : f a ≠ f x := fun e2 => e (h a (by simp) e2)
      have b1 : (f a == f x) = false := by simpa using e2
      have b2 : (a == x) = false := by simpa using e
      have ih' : List.idxOf (f x) (l.map f) = List.idxOf x l := ih
      rw [b1, b2, ih']
theorem numb_map (f : α → β) (keys : List α) (hf : ∀ a ∈ keys, ∀ b ∈ keys, f a = f b → a = b) : numb (keys.map f) = numb keys := by
  unfold numb
  rw [dist_map f keys hf, List.map_map]
  apply List.map_congr_left
  intro k hk
  show (ix ((dist keys).map f) (f k) : Int) = _
  rw [idxOf_map f _ k (fun a ha e => hf a (mem_dist.1 ha) k hk e)]
/-- Equal partitions have equal numbers. -/
theorem numb_same (keys : List α) (keys' : List β) (hl : keys.length = keys'.length) (h : ∀ (i j : Nat), i < keys.length → j < keys.length → (keys[i]? = keys[j]? ↔ keys'[i]? = keys'[j]?)) : numb keys = numb keys' := by
  cases keys' with
  | nil =>
    have : keys = [] := List.eq_nil_of_length_eq_zero (by simpa using hl)
    subst this; rfl
  | cons k0 ks0 =>
    obtain ⟨ks', hks⟩ : ∃ ks', ks' = k0 :: ks0 := ⟨_, rfl⟩
    rw [← hks] at hl h ⊢
    have e1 : ks' = keys.map (fun k => ks'.getD (ix keys k) k0) := by
      apply List.ext_getElem?
      intro i
      rw [List.getElem?_map]
      by_cases hi : i < keys.length
      · obtain ⟨k, hk⟩ : ∃ k, keys[i]? = some k := ⟨_, List.getElem?_eq_getElem hi⟩
        have hm := List.mem_of_getElem? hk
        have hj := idxOf_lt hm
        have h2 := (h (ix keys k) i hj hi).1 (by rw [get_idxOf hm, hk])
        rw [hk, Option.map_some, List.getD_eq_getElem?_getD, h2, List.getElem?_eq_getElem (by omega)]
        rfl
      · rw [List.getElem?_eq_none (by omega), List.getElem?_eq_none (by omega)]
        rfl
    have e2 : numb keys = numb (keys.map (fun k => ks'.getD (ix keys k) k0)) := (numb_map _ keys (fun a ha b hb e => by
      have ja := idxOf_lt ha
      have jb := idxOf_lt hb
      rw [List.getD_eq_getElem?_getD, List.getD_eq_getElem?_getD, List.getElem?_eq_getElem (show ix keys a < ks'.length by omega), List.getElem?_eq_getElem (show ix keys b < ks'.length by omega)] at e
      have h2 := (h (ix keys a) (ix keys b) ja jb).2 (by
        rw [List.getElem?_eq_getElem (show ix keys a < ks'.length by omega), List.getElem?_eq_getElem (show ix keys b < ks'.length by omega)]
        exact congrArg some e)
      rw [get_idxOf ha, get_idxOf hb] at h2
      exact Option.some.inj h2)).symm
    rw [← e1] at e2
    exact e2
end
end Go.Proofs.Ytpndclpmhelikaa.Plain
/- Plain facts on minimal forms: the states that are reached, the classes of states that no digits tell apart, the merged sequence, the minimal form. No conditions beyond those that each fact states. -/
namespace Go.Proofs.Ytpndclpmhelikaa.Plain
set_option linter.unusedVariables false
/-! ### the states that are reached -/
def rowOf (rows : List (List Int)) (s : Int) : List Int := rows.getD s.toNat []
/-- What a search has found when it has looked at i states. -/
def reachI (rows : List (List Int)) : Nat → List Int
  | 0 => [0]
  | i + 1 => match (reachI rows i)[i]? with
    | some s => addAll (reachI rows i) (rowOf rows s)
    | none => reachI rows i
theorem reachI_step {rows : List (List Int)} {i : Nat} {s : Int} (h : (reachI rows i)[i]? = some s) : reachI rows (i + 1) = addAll (reachI rows i) (rowOf rows s) := by
  rw [reachI, h]
theorem reachI_stop {rows : List (List Int)} {i : Nat} (h : (reachI rows i).length ≤ i) : reachI rows (i + 1) = reachI rows i := by
  rw [reachI, List.getElem?_eq_none h]
theorem reachI_over {rows : List (List Int)} {i : Nat} (h : (reachI rows i).length ≤ i) : ∀ j, i ≤ j → reachI rows j = reachI rows i := by
  intro j hj
  obtain ⟨d, rfl⟩ := Nat.le.dest hj
  induction d with
  | zero => rfl
  | succ d ih =>
    have ih := ih (by omega)
    rw [← Nat.add_assoc, reachI_stop (by rw [ih]; omega), ih]
/-- All next states are states. -/
def Closed (rows : List (List Int)) : Prop := 0 < rows.length ∧ ∀ r ∈ rows, ∀ x ∈ r, 0 ≤ x ∧ x < (rows.length : Int)
theorem IsSeq.closed {b : Int} {rows : List (List Int)} {out : List Int} (h : IsSeq b rows out) : Closed rows := ⟨h.2.2.1, fun r hr x hx => (h.2.2.2.2.2.1 r hr).2 x hx⟩
theorem rowOf_mem {rows : List (List Int)} {s : Int} (h0 : 0 ≤ s) (h1 : s < rows.length) : rowOf rows s ∈ rows := by
  have h2 : s.toNat < rows.length := by omega
  rw [rowOf, List.getD_eq_getElem?_getD, List.getElem?_eq_getElem h2]
  exact List.getElem_mem _
theorem rowOf_get {rows : List (List Int)} {s : Int} (h0 : 0 ≤ s) (h1 : s < rows.length) : rows[s.toNat]? = some (rowOf rows s) := by
  have h2 : s.toNat < rows.length := by omega
  rw [rowOf, List.getD_eq_getElem?_getD, List.getElem?_eq_getElem h2]
  rfl
theorem reachI_ok {rows : List (List Int)} (hc : Closed rows) : ∀ i, (reachI rows i).Nodup ∧ ∀ x ∈ reachI rows i, 0 ≤ x ∧ x < (rows.length : Int)
  | 0 => ⟨by simp [reachI], fun x hx => by
      have : x = 0 := by simpa [reachI] using hx
      have := hc.1
      omega⟩
  | i + 1 => by
    obtain ⟨h1, h2⟩ := reachI_ok hc i
    cases hs : (reachI rows i)[i]? with
    | none =>
      rw [reachI, hs]
      exact ⟨h1, h2⟩
    | some s =>
      rw [reachI_step hs]
      have h3 := h2 s (List.mem_of_getElem? hs)
      refine ⟨addAll_nodup _ _ h1, fun x hx => ?_⟩
      rcases (mem_addAll _ _ _).1 hx with h | h
      · exact h2 x h
      · exact hc.2 _ (rowOf_mem h3.1 h3.2) x h
theorem reachI_len {rows : List (List Int)} (hc : Closed rows) (i : Nat) : (reachI rows i).length ≤ rows.length := nodup_bounded _ _ (reachI_ok hc i).1 (reachI_ok hc i).2
theorem reachI_prefix_succ (rows : List (List Int)) (i : Nat) : reachI rows i <+: reachI rows (i + 1) := by
  cases hs : (reachI rows i)[i]? with
  | none => rw [reachI, hs]; exact List.prefix_refl _
  | some s => rw [reachI_step hs]; exact addAll_prefix _ _
theorem reachI_prefix (rows : List (List Int)) {i j : Nat} (h : i ≤ j) : reachI rows i <+: reachI rows j := by
  obtain ⟨d, rfl⟩ := Nat.le.dest h
  induction d with
  | zero => exact List.prefix_refl _
  | succ d ih => exact (ih (by omega)).trans (reachI_prefix_succ rows _)
/-- All that is reached. -/
def reached (rows : List (List Int)) : List Int := reachI rows rows.length
theorem reachI_end {rows : List (List Int)} (hc : Closed rows) {i : Nat} (h : (reachI rows i).length ≤ i) : reachI rows i = reached rows := by
  have h1 := reachI_over h
  have h2 : (reachI rows rows.length).length ≤ rows.length := reachI_len hc _
  rcases Nat.le_total i rows.length with h3 | h3
  · exact (h1 _ h3).symm
  · exact reachI_over h2 i h3
theorem reached_len {rows : List (List Int)} (hc : Closed rows) : (reached rows).length ≤ rows.length := reachI_len hc _
theorem reachI_sub {rows : List (List Int)} (hc : Closed rows) (i : Nat) : reachI rows i <+: reached rows := by
  rcases Nat.le_total i rows.length with h3 | h3
  · exact reachI_prefix rows h3
  · rw [reachI_over (reachI_len hc _) i h3]; exact List.prefix_refl _
theorem reached_zero (rows : List (List Int)) : (reached rows)[0]? = some 0 := by
  obtain ⟨t, ht⟩ := reachI_prefix rows (Nat.zero_le rows.length)
  rw [reached, ← ht]
  rfl
/-- What is reached is closed. -/
theorem reached_next {rows : List (List Int)} (hc : Closed rows) {s x : Int} (hs : s ∈ reached rows) (hx : x ∈ rowOf rows s) : x ∈ reached rows := by
  obtain ⟨i, hi⟩ := List.getElem?_of_mem hs
  have hl : i < rows.length := Nat.lt_of_lt_of_le (List.getElem?_eq_some_iff.1 hi).1 (reached_len hc)
  have h1 : (reachI rows i)[i]? = some s ∨ (reachI rows i).length ≤ i := by
    rcases Nat.lt_or_ge i (reachI rows i).length with h2 | h2
    · left
      obtain ⟨t, ht⟩ := reachI_sub hc i
      rw [← ht, List.getElem?_append_left h2] at hi
      exact hi
    · exact .inr h2
  rcases h1 with h1 | h1
  · obtain ⟨t, ht⟩ := reachI_sub hc (i + 1)
    rw [← ht, reachI_step h1]
    simp [mem_addAll, hx]
  · have h2 := reachI_end hc h1
    rw [h2] at h1
    have := (List.getElem?_eq_some_iff.1 hi).1
    omega
def reachV (b : Int) (rows : List (List Int)) (out : List Int) : List Int := if seqB b rows out = true then reached rows else []
/-! ### the classes -/
/-- What tells a state: its term and the classes of its next states. -/
def keyC (rows : List (List Int)) (out cls : List Int) (s : Nat) : List Int := out.getD s 0 :: (rows.getD s []).map fun x => cls.getD x.toNat 0
def keysOf (rows : List (List Int)) (out cls : List Int) : List (List Int) := (List.range rows.length).map (keyC rows out cls)
/-- The keys of round k, the classes behind it. -/
def keysR (rows : List (List Int)) (out : List Int) : Nat → List (List Int)
  | 0 => List.replicate rows.length []
  | k + 1 => keysOf rows out (numb (keysR rows out k))
def clsR (rows : List (List Int)) (out : List Int) (k : Nat) : List Int := numb (keysR rows out k)
theorem keysR_len (rows : List (List Int)) (out : List Int) : ∀ k, (keysR rows out k).length = rows.length
  | 0 => by simp [keysR]
  | k + 1 => by simp [keysR, keysOf]
theorem clsR_len (rows : List (List Int)) (out : List Int) (k : Nat) : (clsR rows out k).length = rows.length := by rw [clsR, numb_len, keysR_len]
theorem keysR_get (rows : List (List Int)) (out : List Int) (k : Nat) {i : Nat} (h : i < rows.length) : (keysR rows out (k + 1))[i]? = some (keyC rows out (clsR rows out k) i) := by
  simp [keysR, keysOf, clsR, h]
theorem addAll_rep {α : Type} [DecidableEq α] (x : α) (l : List α) : ∀ n, addAll (x :: l) (List.replicate n x) = x :: l
  | 0 => rfl
  | n + 1 => by
    rw [List.replicate_succ, addAll_cons, addTo_in (by simp)]
    exact addAll_rep x l n
theorem dist_rep {α : Type} [DecidableEq α] (x : α) (n : Nat) : dist (List.replicate (n + 1) x) = [x] := by
  rw [dist, List.replicate_succ, addAll_cons, addTo_new (by simp)]
  exact addAll_rep x [] n
theorem numb_rep {α : Type} [DecidableEq α] (x : α) (n : Nat) : numb (List.replicate n x) = List.replicate n 0 := by
  cases n with
  | zero => rfl
  | succ n =>
    rw [numb, dist_rep]
    simp [ix]
theorem clsR_zero (rows : List (List Int)) (out : List Int) : clsR rows out 0 = List.replicate rows.length 0 := numb_rep _ _
/-- How many classes there are in round k. -/
def cntR (rows : List (List Int)) (out : List Int) (k : Nat) : Nat := (dist (keysR rows out k)).length
theorem cntR_zero {rows : List (List Int)} (out : List Int) (h : 0 < rows.length) : cntR rows out 0 = 1 := by
  obtain ⟨n, hn⟩ : ∃ n, rows.length = n + 1 := ⟨rows.length - 1, by omega⟩
  rw [cntR, keysR, hn, dist_rep]
  rfl
theorem dist_le {α : Type} [DecidableEq α] (keys : List α) : (dist keys).length ≤ keys.length := nodup_sub_len _ _ (dist_nodup _) (fun x hx => mem_dist.1 hx)
theorem cntR_le (rows : List (List Int)) (out : List Int) (k : Nat) : cntR rows out k ≤ rows.length := by
  have := dist_le (keysR rows out k)
  rw [keysR_len] at this
  exact this
/-- Rows of states. -/
structure Auto (rows : List (List Int)) (out : List Int) (n : Nat) : Prop where
  closed : Closed rows
  width : ∀ r ∈ rows, r.length = n
  terms : out.length = rows.length
theorem IsSeq.auto {b : Int} {rows : List (List Int)} {out : List Int} (h : IsSeq b rows out) : Auto rows out b.toNat := ⟨h.closed, fun r hr => by have := (h.2.2.2.2.2.1 r hr).1; omega, h.2.2.2.2.1⟩
theorem keyC_iff {rows : List (List Int)} {out cls : List Int} {n : Nat} (A : Auto rows out n) {i j : Nat} (hi : i < rows.length) (hj : j < rows.length) :
    keyC rows out cls i = keyC rows out cls j ↔ out.getD i 0 = out.getD j 0 ∧ ∀ d < n, cls.getD ((rows.getD i []).getD d 0).toNat 0 = cls.getD ((rows.getD j []).getD d 0).toNat 0 := by
  have w : ∀ i < rows.length, (rows.getD i []).length = n := fun i hi => by
    rw [List.getD_eq_getElem?_getD, List.getElem?_eq_getElem hi]
    exact A.width _ (List.getElem_mem _)
  have wi := w i hi
  have wj := w j hj
  have g : ∀ (l : List Int), l.length = n → ∀ d < n, (l.map fun x => cls.getD x.toNat 0)[d]? = some (cls.getD (l.getD d 0).toNat 0) := fun l hl d hd => by
    have hd' : d < l.length := by omega
    rw [List.getElem?_map, show l.getD d 0 = l[d] by simp [List.getD_eq_getElem?_getD, hd'], List.getElem?_eq_getElem hd']
    rfl
  unfold keyC
  rw [List.cons.injEq]
  refine and_congr_right fun _ => ⟨fun h d hd => ?_, fun h => ?_⟩
  · have h1 := g _ wi d hd
    rw [h, g _ wj d hd] at h1
    exact (Option.some.inj h1).symm
  · apply List.ext_getElem?
    intro d
    rcases Nat.lt_or_ge d n with hd | hd
    · rw [g _ wi d hd, g _ wj d hd, h d hd]
    · rw [List.getElem?_eq_none (by simp only [List.length_map]; omega), List.getElem?_eq_none (by simp only [List.length_map]; omega)]
theorem cls_iff {rows : List (List Int)} {out : List Int} {k i j : Nat} (hi : i < rows.length) (hj : j < rows.length) :
    (clsR rows out (k + 1)).getD i 0 = (clsR rows out (k + 1)).getD j 0 ↔ keyC rows out (clsR rows out k) i = keyC rows out (clsR rows out k) j := by
  have h1 := keysR_get rows out k hi
  have h2 := keysR_get rows out k hj
  have h3 := numb_eq_iff h1 h2
  rw [← h3, List.getD_eq_getElem?_getD, List.getD_eq_getElem?_getD]
  show ((numb (keysR rows out (k + 1)))[i]?).getD 0 = ((numb (keysR rows out (k + 1)))[j]?).getD 0 ↔ _
  rw [numb_get h1, numb_get h2]
  simp
theorem next_lt {rows : List (List Int)} {out : List Int} {n : Nat} (A : Auto rows out n) {i d : Nat} (hi : i < rows.length) (hd : d < n) : 0 ≤ (rows.getD i []).getD d 0 ∧ ((rows.getD i []).getD d 0).toNat < rows.length := by
  have h1 : rows.getD i [] ∈ rows := by
    rw [List.getD_eq_getElem?_getD, List.getElem?_eq_getElem hi]
    exact List.getElem_mem _
  have h2 := A.width _ h1
  have h3 : (rows.getD i []).getD d 0 ∈ rows.getD i [] := by
    rw [List.getD_eq_getElem?_getD (l := rows.getD i []), List.getElem?_eq_getElem (by omega)]
    exact List.getElem_mem _
  have := A.closed.2 _ h1 _ h3
  omega
/-- Each round divides the classes of the round before. -/
theorem refines {rows : List (List Int)} {out : List Int} {n : Nat} (A : Auto rows out n) : ∀ (k : Nat) {i j : Nat}, i < rows.length → j < rows.length → (clsR rows out (k + 1)).getD i 0 = (clsR rows out (k + 1)).getD j 0 → (clsR rows out k).getD i 0 = (clsR rows out k).getD j 0
  | 0, i, j, hi, hj, _ => by
    rw [clsR_zero]
    simp [List.getD_eq_getElem?_getD, hi, hj]
  | k + 1, i, j, hi, hj, h => by
    rw [cls_iff hi hj, keyC_iff A hi hj] at h ⊢
    exact ⟨h.1, fun d hd => refines A k (next_lt A hi hd).2 (next_lt A hj hd).2 (h.2 d hd)⟩
/-- As many classes as before: the same ones. -/
theorem stable {rows : List (List Int)} {out : List Int} {n : Nat} (A : Auto rows out n) {k : Nat} (h : cntR rows out (k + 1) = cntR rows out k) : clsR rows out (k + 1) = clsR rows out k := by
  have hpos : 0 < rows.length := A.closed.1
  -- the classes of round k as a function of those of round k + 1
  have hl1 := keysR_len rows out (k + 1)
  have hl0 := keysR_len rows out k
  let D1 := dist (keysR rows out (k + 1))
  let D0 := dist (keysR rows out k)
  let g : List Int → List Int := fun x => (keysR rows out k).getD (ix (keysR rows out (k + 1)) x) []
  have gk : ∀ i, i < rows.length → ∀ x, (keysR rows out (k + 1))[i]? = some x → (keysR rows out k)[i]? = some (g x) := fun i hi x hx => by
    have hm := List.mem_of_getElem? hx
    have hj := idxOf_lt hm
    rw [hl1] at hj
    have h1 : (clsR rows out (k + 1)).getD (ix (keysR rows out (k + 1)) x) 0 = (clsR rows out (k + 1)).getD i 0 := by
      rw [List.getD_eq_getElem?_getD, List.getD_eq_getElem?_getD]
      show ((numb _)[_]?).getD 0 = ((numb _)[_]?).getD 0
      rw [numb_get hx, numb_get (get_idxOf hm)]
    have h2 := refines A k hj hi h1
    obtain ⟨y, hy⟩ : ∃ y, (keysR rows out k)[i]? = some y := ⟨_, List.getElem?_eq_getElem (by omega)⟩
    obtain ⟨z, hz⟩ : ∃ z, (keysR rows out k)[ix (keysR rows out (k + 1)) x]? = some z := ⟨_, List.getElem?_eq_getElem (by omega)⟩
    have h3 : (numb (keysR rows out k))[ix (keysR rows out (k + 1)) x]? = (numb (keysR rows out k))[i]? := by
      rw [List.getD_eq_getElem?_getD, List.getD_eq_getElem?_getD] at h2
      rw [numb_get hz, numb_get hy]
      have h4 : ((numb (keysR rows out k))[ix (keysR rows out (k + 1)) x]?).getD 0 = ((numb (keysR rows out k))[i]?).getD 0 := h2
      rw [numb_get hz, numb_get hy] at h4
      exact congrArg some h4
    have h5 := (numb_eq_iff hz hy).1 h3
    show _ = some ((keysR rows out k).getD _ [])
    rw [List.getD_eq_getElem?_getD, hz, hy, h5]
    rfl
  have hsub : ∀ y ∈ D0, y ∈ D1.map g := fun y hy => by
    obtain ⟨i, hi⟩ := List.getElem?_of_mem (mem_dist.1 hy)
    have hi' : i < rows.length := by have := (List.getElem?_eq_some_iff.1 hi).1; omega
    obtain ⟨x, hx⟩ : ∃ x, (keysR rows out (k + 1))[i]? = some x := ⟨_, List.getElem?_eq_getElem (by omega)⟩
    have := gk i hi' x hx
    rw [hi] at this
    exact List.mem_map.2 ⟨x, mem_dist.2 (List.mem_of_getElem? hx), (Option.some.inj this).symm⟩
  have hnd : (D1.map g).Nodup := nodup_of_sub_len D0 _ (dist_nodup _) hsub (by
    have h1 : D1.length = D0.length := h
    rw [List.length_map]
    omega)
  have ginj : ∀ x ∈ D1, ∀ x' ∈ D1, g x = g x' → x = x' := fun x hx x' hx' e => by
    obtain ⟨i, hi⟩ := List.getElem?_of_mem hx
    obtain ⟨j, hj⟩ := List.getElem?_of_mem hx'
    have h1 : (D1.map g)[i]? = some (g x) := by rw [List.getElem?_map, hi]; rfl
    have h2 : (D1.map g)[j]? = some (g x) := by rw [List.getElem?_map, hj, e]; rfl
    have := (idxOf_get hnd h1).symm.trans (idxOf_get hnd h2)
    subst this
    rw [hi] at hj
    exact Option.some.inj hj
  refine numb_same _ _ (by omega) fun i j hi hj => ?_
  rw [hl1] at hi hj
  obtain ⟨x, hx⟩ : ∃ x, (keysR rows out (k + 1))[i]? = some x := ⟨_, List.getElem?_eq_getElem (by omega)⟩
  obtain ⟨y, hy⟩ : ∃ y, (keysR rows out (k + 1))[j]? = some y := ⟨_, List.getElem?_eq_getElem (by omega)⟩
  rw [hx, hy, gk i hi x hx, gk j hj y hy]
  constructor
  · intro e; rw [Option.some.inj e]
  · intro e
    rw [ginj x (mem_dist.2 (List.mem_of_getElem? hx)) y (mem_dist.2 (List.mem_of_getElem? hy)) (Option.some.inj e)]
theorem cnt_up {rows : List (List Int)} {out : List Int} {n : Nat} (A : Auto rows out n) (k : Nat) : cntR rows out k ≤ cntR rows out (k + 1) := by
  refine Nat.le_trans (nodup_sub_len (dist (keysR rows out k)) ((dist (keysR rows out (k + 1))).map fun x => (keysR rows out k).getD (ix (keysR rows out (k + 1)) x) []) (dist_nodup _) fun y hy => ?_) (by simp [cntR])
  have hl1 := keysR_len rows out (k + 1)
  have hl0 := keysR_len rows out k
  obtain ⟨i, hi⟩ := List.getElem?_of_mem (mem_dist.1 hy)
  have hi' : i < rows.length := by have := (List.getElem?_eq_some_iff.1 hi).1; omega
  obtain ⟨x, hx⟩ : ∃ x, (keysR rows out (k + 1))[i]? = some x := ⟨_, List.getElem?_eq_getElem (by omega)⟩
  have hm := List.mem_of_getElem? hx
  have hj := idxOf_lt hm
  rw [hl1] at hj
  have h1 : (clsR rows out (k + 1)).getD (ix (keysR rows out (k + 1)) x) 0 = (clsR rows out (k + 1)).getD i 0 := by
    rw [List.getD_eq_getElem?_getD, List.getD_eq_getElem?_getD]
    show ((numb _)[_]?).getD 0 = ((numb _)[_]?).getD 0
    rw [numb_get hx, numb_get (get_idxOf hm)]
  have h2 := refines A k hj hi' h1
  obtain ⟨z, hz⟩ : ∃ z, (keysR rows out k)[ix (keysR rows out (k + 1)) x]? = some z := ⟨_, List.getElem?_eq_getElem (by omega)⟩
  rw [List.getD_eq_getElem?_getD, List.getD_eq_getElem?_getD] at h2
  have h4 : ((numb (keysR rows out k))[ix (keysR rows out (k + 1)) x]?).getD 0 = ((numb (keysR rows out k))[i]?).getD 0 := h2
  rw [numb_get hz, numb_get hi] at h4
  have h5 := (numb_eq_iff hz hi).1 (by rw [numb_get hz, numb_get hi]; exact congrArg some h4)
  refine List.mem_map.2 ⟨x, mem_dist.2 hm, ?_⟩
  rw [List.getD_eq_getElem?_getD, hz, h5]
  rfl
theorem stable_on {rows : List (List Int)} {out : List Int} {k : Nat} (h : clsR rows out (k + 1) = clsR rows out k) : ∀ j, k ≤ j → clsR rows out j = clsR rows out k := by
  intro j hj
  obtain ⟨d, rfl⟩ := Nat.le.dest hj
  induction d with
  | zero => rfl
  | succ d ih =>
    have ih := ih (by omega)
    have e : keysR rows out (k + d + 1) = keysR rows out (k + 1) := by
      show keysOf rows out (clsR rows out (k + d)) = keysOf rows out (clsR rows out k)
      rw [ih]
    show numb (keysR rows out (k + d + 1)) = _
    rw [e]
    exact h
/-- The classes of the states. -/
def classes (rows : List (List Int)) (out : List Int) : List Int := clsR rows out (rows.length + 1)
theorem classes_at {rows : List (List Int)} {out : List Int} {n : Nat} (A : Auto rows out n) {k : Nat} (hk : k ≤ rows.length + 1) (h : cntR rows out (k + 1) = cntR rows out k) : clsR rows out (k + 1) = classes rows out ∧ clsR rows out k = classes rows out := by
  have h1 := stable A h
  have h2 := stable_on h1 (rows.length + 1) hk
  exact ⟨h1.trans h2.symm, h2.symm⟩
/-- The rounds come to an end. -/
theorem stops {rows : List (List Int)} {out : List Int} {n : Nat} (A : Auto rows out n) (k : Nat) (h : ∀ j < k, cntR rows out (j + 1) ≠ cntR rows out j) : k + 1 ≤ cntR rows out k := by
  induction k with
  | zero => rw [cntR_zero out A.closed.1]; omega
  | succ k ih =>
    have h1 := ih (fun j hj => h j (by omega))
    have h2 := cnt_up A (out := out) k
    have h3 := h k (by omega)
    omega
theorem stops_le {rows : List (List Int)} {out : List Int} {n : Nat} (A : Auto rows out n) (k : Nat) (h : ∀ j < k, cntR rows out (j + 1) ≠ cntR rows out j) : k < rows.length := by
  have := stops A k h
  have := cntR_le rows out k
  omega
theorem classes_fix {rows : List (List Int)} {out : List Int} {n : Nat} (A : Auto rows out n) : clsR rows out (rows.length + 2) = classes rows out ∧ clsR rows out rows.length = classes rows out := by
  have : ∃ j < rows.length, cntR rows out (j + 1) = cntR rows out j := by
    refine Classical.byContradiction fun hn => ?_
    have := stops_le A rows.length (fun j hj e => hn ⟨j, hj, e⟩)
    omega
  obtain ⟨j, hj, e⟩ := this
  have h1 := stable A e
  have h2 := stable_on h1
  refine ⟨(h2 _ (by omega)).trans (h2 (rows.length + 1) (by omega)).symm, (h2 _ (by omega)).trans (h2 (rows.length + 1) (by omega)).symm⟩
/-! ### the model's way to the classes -/
/-- The model's key: the state's class and those of its next states. -/
def keyM (rows : List (List Int)) (cls : List Int) (s : Nat) : List Int := cls.getD s 0 :: (rows.getD s []).map fun x => cls.getD x.toNat 0
def clsM (rows : List (List Int)) (out : List Int) : Nat → List Int
  | 0 => numb (out.map fun o => [o])
  | k + 1 => numb ((List.range rows.length).map (keyM rows (clsM rows out k)))
theorem clsM_eq {rows : List (List Int)} {out : List Int} {n : Nat} (A : Auto rows out n) : ∀ k, clsM rows out k = clsR rows out (k + 1)
  | 0 => by
    refine numb_same _ _ (by rw [List.length_map, keysR_len, A.terms]) fun i j hi hj => ?_
    rw [List.length_map, A.terms] at hi hj
    have z : ∀ x : Nat, (clsR rows out 0).getD x 0 = 0 := fun x => by
      rw [clsR_zero, List.getD_eq_getElem?_getD, List.getElem?_replicate]
      split <;> rfl
    have o : ∀ i < rows.length, (out.map fun o => [o])[i]? = some [out.getD i 0] := fun i hi => by
      rw [List.getElem?_map, List.getD_eq_getElem?_getD, List.getElem?_eq_getElem (by rw [A.terms]; exact hi)]
      rfl
    rw [o i hi, o j hj, keysR_get rows out 0 hi, keysR_get rows out 0 hj, Option.some.injEq, Option.some.injEq, keyC_iff A hi hj]
    simp only [z, List.cons.injEq, and_true, implies_true]
  | k + 1 => by
    have ih := clsM_eq A k
    rw [clsM, ih]
    refine numb_same _ _ (by rw [keysR_len]; simp) fun i j hi hj => ?_
    rw [List.length_map, List.length_range] at hi hj
    have o : ∀ i < rows.length, ((List.range rows.length).map (keyM rows (clsR rows out (k + 1))))[i]? = some (keyM rows (clsR rows out (k + 1)) i) := fun i hi => by simp [hi]
    rw [o i hi, o j hj, keysR_get rows out (k + 1) hi, keysR_get rows out (k + 1) hj, Option.some.injEq, Option.some.injEq, keyC_iff A hi hj]
    have A' : Auto rows (clsR rows out (k + 1)) n := ⟨A.closed, A.width, clsR_len _ _ _⟩
    have h0 : keyM rows (clsR rows out (k + 1)) i = keyM rows (clsR rows out (k + 1)) j ↔ _ := keyC_iff (cls := clsR rows out (k + 1)) A' hi hj
    rw [h0]
    refine and_congr_left fun h2 => ⟨fun h1 => ?_, fun h1 => ?_⟩
    · rw [cls_iff hi hj, keyC_iff A hi hj] at h1
      exact h1.1
    · rw [cls_iff hi hj, keyC_iff A hi hj]
      exact ⟨h1, fun d hd => refines A k (next_lt A hi hd).2 (next_lt A hj hd).2 (h2 d hd)⟩
theorem clsM_end {rows : List (List Int)} {out : List Int} {n : Nat} (A : Auto rows out n) : clsM rows out rows.length = classes rows out := clsM_eq A _
def classV (b : Int) (rows : List (List Int)) (out : List Int) : List Int := if seqB b rows out = true then classes rows out else []
/-! ### the merged sequence and the minimal form -/
/-- The keys of the classes, in the order of their numbers. -/
def keysQ (rows : List (List Int)) (out : List Int) : List (List Int) := dist (keysOf rows out (classes rows out))
def rowsQ (rows : List (List Int)) (out : List Int) : List (List Int) := (keysQ rows out).map List.tail
def outQ (rows : List (List Int)) (out : List Int) : List Int := (keysQ rows out).map fun k => k.headD 0
theorem keysR_fix {rows : List (List Int)} {out : List Int} {n : Nat} (A : Auto rows out n) : numb (keysOf rows out (classes rows out)) = classes rows out := (classes_fix A).1
theorem keysQ_at {rows : List (List Int)} {out : List Int} {n : Nat} (A : Auto rows out n) {k : Nat} (hk : k ≤ rows.length + 1) (h : cntR rows out (k + 1) = cntR rows out k) : dist (keysR rows out (k + 1)) = keysQ rows out := by
  show dist (keysOf rows out (clsR rows out k)) = _
  rw [(classes_at A hk h).2]
  rfl
theorem keysQ_len (rows : List (List Int)) (out : List Int) : (keysQ rows out).length ≤ rows.length := by
  have := dist_le (keysOf rows out (classes rows out))
  simpa [keysQ, keysOf] using this
theorem classes_len (rows : List (List Int)) (out : List Int) : (classes rows out).length = rows.length := clsR_len _ _ _
/-- A state's class is the place of its key. -/
theorem class_at {rows : List (List Int)} {out : List Int} {n : Nat} (A : Auto rows out n) {s : Nat} (hs : s < rows.length) :
    (classes rows out).getD s 0 = (ix (keysQ rows out) (keyC rows out (classes rows out) s) : Int) ∧ (keysQ rows out)[((classes rows out).getD s 0).toNat]? = some (keyC rows out (classes rows out) s) := by
  have h1 : (keysOf rows out (classes rows out))[s]? = some (keyC rows out (classes rows out) s) := by simp [keysOf, hs]
  have h2 := numb_get h1
  rw [keysR_fix A] at h2
  have h3 : (classes rows out).getD s 0 = (ix (keysQ rows out) (keyC rows out (classes rows out) s) : Int) := by
    rw [List.getD_eq_getElem?_getD, h2]
    rfl
  refine ⟨h3, ?_⟩
  rw [h3]
  exact get_idxOf (mem_dist.2 (List.mem_of_getElem? h1))
theorem class_lt {rows : List (List Int)} {out : List Int} {n : Nat} (A : Auto rows out n) {s : Nat} (hs : s < rows.length) : 0 ≤ (classes rows out).getD s 0 ∧ (classes rows out).getD s 0 < (rowsQ rows out).length := by
  have h := (class_at A hs).2
  have h1 := (List.getElem?_eq_some_iff.1 h).1
  have h2 := (class_at A hs).1
  simp only [rowsQ, List.length_map]
  omega
/-- The row and the term of a state's class. -/
theorem rowsQ_at {rows : List (List Int)} {out : List Int} {n : Nat} (A : Auto rows out n) {s : Nat} (hs : s < rows.length) :
    rowOf (rowsQ rows out) ((classes rows out).getD s 0) = (rows.getD s []).map (fun x => (classes rows out).getD x.toNat 0) ∧ (outQ rows out).getD ((classes rows out).getD s 0).toNat 0 = out.getD s 0 := by
  have h := (class_at A hs).2
  constructor
  · rw [rowOf, rowsQ, List.getD_eq_getElem?_getD, List.getElem?_map, h]
    rfl
  · rw [outQ, List.getD_eq_getElem?_getD (l := List.map _ _), List.getElem?_map, h]
    rfl
theorem keysQ_mem {rows : List (List Int)} {out k : List Int} (h : k ∈ keysQ rows out) : ∃ s < rows.length, k = keyC rows out (classes rows out) s := by
  have h1 := mem_dist.1 h
  simp only [keysOf, List.mem_map, List.mem_range] at h1
  obtain ⟨s, hs, rfl⟩ := h1
  exact ⟨s, hs, rfl⟩
theorem class_zero {rows : List (List Int)} {out : List Int} {n : Nat} (A : Auto rows out n) : (classes rows out).getD 0 0 = 0 := by
  have h := (class_at A A.closed.1).1
  rw [h]
  have h1 : (keysOf rows out (classes rows out))[0]? = some (keyC rows out (classes rows out) 0) := by simp [keysOf, A.closed.1]
  obtain ⟨t, ht⟩ : ∃ t, keysOf rows out (classes rows out) = [keyC rows out (classes rows out) 0] ++ t := by
    cases hk : keysOf rows out (classes rows out) with
    | nil => rw [hk] at h1; simp at h1
    | cons a l =>
      rw [hk] at h1
      simp at h1
      exact ⟨l, by rw [h1]; rfl⟩
  have h2 : ix (keysQ rows out) (keyC rows out (classes rows out) 0) = ix (dist [keyC rows out (classes rows out) 0]) (keyC rows out (classes rows out) 0) := by
    rw [keysQ, ht]
    exact idxOf_prefix (dist_prefix _ _) (mem_dist.2 (by simp))
  rw [h2]
  simp [dist, addAll, addTo, ix]
/-- The merged sequence. -/
theorem rowsQ_auto {rows : List (List Int)} {out : List Int} {n : Nat} (A : Auto rows out n) : Auto (rowsQ rows out) (outQ rows out) n := by
  have hrow : ∀ r ∈ rowsQ rows out, ∃ s < rows.length, r = (rows.getD s []).map fun x => (classes rows out).getD x.toNat 0 := fun r hr => by
    obtain ⟨k, hk, rfl⟩ := List.mem_map.1 hr
    obtain ⟨s, hs, rfl⟩ := keysQ_mem hk
    exact ⟨s, hs, rfl⟩
  have hget : ∀ s < rows.length, rows.getD s [] ∈ rows := fun s hs => by
    rw [List.getD_eq_getElem?_getD, List.getElem?_eq_getElem hs]
    exact List.getElem_mem _
  refine ⟨⟨?_, fun r hr x hx => ?_⟩, fun r hr => ?_, by simp [outQ, rowsQ]⟩
  · have := class_lt A A.closed.1
    omega
  · obtain ⟨s, hs, rfl⟩ := hrow r hr
    obtain ⟨y, hy, rfl⟩ := List.mem_map.1 hx
    have := A.closed.2 _ (hget s hs) y hy
    exact class_lt A (by omega)
  · obtain ⟨s, hs, rfl⟩ := hrow r hr
    rw [List.length_map]
    exact A.width _ (hget s hs)
/-- The states of the minimal form as classes; its rows; its terms. -/
def minS (rows : List (List Int)) (out : List Int) : List Int := reached (rowsQ rows out)
def minRow (Q : List (List Int)) (L : List Int) (s : Int) : List Int := (rowOf Q s).map fun x => (ix L x : Int)
def searchR (Q : List (List Int)) : List (List Int) := (reached Q).map (minRow Q (reached Q))
def searchO (Q : List (List Int)) (o : List Int) : List Int := (reached Q).map fun s => o.getD s.toNat 0
def minR (rows : List (List Int)) (out : List Int) : List (List Int) := searchR (rowsQ rows out)
def minO (rows : List (List Int)) (out : List Int) : List Int := searchO (rowsQ rows out) (outQ rows out)
theorem searchR_auto {Q : List (List Int)} {o : List Int} {n : Nat} (A : Auto Q o n) : Auto (searchR Q) (searchO Q o) n := by
  have hz := reached_zero Q
  have hm : ∀ r ∈ searchR Q, ∃ s ∈ reached Q, r = minRow Q (reached Q) s := fun r hr => by
    obtain ⟨s, hs, rfl⟩ := List.mem_map.1 hr
    exact ⟨s, hs, rfl⟩
  have hb : ∀ s ∈ reached Q, 0 ≤ s ∧ s < Q.length := (reachI_ok A.closed _).2
  refine ⟨⟨?_, fun r hr x hx => ?_⟩, fun r hr => ?_, by simp [searchO, searchR]⟩
  · rw [searchR, List.length_map]
    exact (List.getElem?_eq_some_iff.1 hz).1
  · obtain ⟨s, hs, rfl⟩ := hm r hr
    obtain ⟨y, hy, rfl⟩ := List.mem_map.1 hx
    have h1 := idxOf_lt (reached_next A.closed hs hy)
    rw [searchR, List.length_map]
    omega
  · obtain ⟨s, hs, rfl⟩ := hm r hr
    rw [minRow, List.length_map]
    exact A.width _ (rowOf_mem (hb s hs).1 (hb s hs).2)
theorem searchO_mem {Q : List (List Int)} {o : List Int} {n : Nat} (A : Auto Q o n) : ∀ x ∈ searchO Q o, x ∈ o := fun x hx => by
  obtain ⟨s, hs, rfl⟩ := List.mem_map.1 hx
  have hb := (reachI_ok A.closed _).2 s hs
  rw [List.getD_eq_getElem?_getD, List.getElem?_eq_getElem (show s.toNat < o.length by rw [A.terms]; omega)]
  exact List.getElem_mem _
theorem outQ_mem {rows : List (List Int)} {out : List Int} {n : Nat} (A : Auto rows out n) : ∀ x ∈ outQ rows out, x ∈ out := fun x hx => by
  obtain ⟨k, hk, rfl⟩ := List.mem_map.1 hx
  obtain ⟨s, hs, rfl⟩ := keysQ_mem hk
  show out.getD s 0 ∈ out
  rw [List.getD_eq_getElem?_getD, List.getElem?_eq_getElem (show s < out.length by rw [A.terms]; omega)]
  exact List.getElem_mem _
theorem rowsQ_len (rows : List (List Int)) (out : List Int) : (rowsQ rows out).length ≤ rows.length := by
  rw [rowsQ, List.length_map]
  exact keysQ_len rows out
theorem searchR_len {Q : List (List Int)} (hc : Closed Q) : (searchR Q).length ≤ Q.length := by
  rw [searchR, List.length_map]
  exact reached_len hc
theorem isSeq_of_auto {b : Int} {rows : List (List Int)} {out : List Int} {n : Nat} (A : Auto rows out n) (hn : (n : Int) = b) (h2 : 2 ≤ b) (h4 : b ≤ 4) (hl : rows.length ≤ 16) (ho : ∀ x ∈ out, 0 ≤ x ∧ x ≤ 3) : IsSeq b rows out :=
  ⟨h2, h4, A.closed.1, hl, A.terms, fun r hr => ⟨by rw [A.width r hr]; exact hn, A.closed.2 r hr⟩, ho⟩
theorem IsSeq.merged {b : Int} {rows : List (List Int)} {out : List Int} (h : IsSeq b rows out) : IsSeq b (rowsQ rows out) (outQ rows out) := by
  have A := h.auto
  refine isSeq_of_auto (rowsQ_auto A) ?_ h.1 h.2.1 (Nat.le_trans (rowsQ_len _ _) h.2.2.2.1) fun x hx => h.2.2.2.2.2.2 x (outQ_mem A x hx)
  have := h.1
  omega
theorem IsSeq.searched {b : Int} {rows : List (List Int)} {out : List Int} (h : IsSeq b rows out) : IsSeq b (searchR rows) (searchO rows out) := by
  have A := h.auto
  refine isSeq_of_auto (searchR_auto A) ?_ h.1 h.2.1 (Nat.le_trans (searchR_len A.closed) h.2.2.2.1) fun x hx => h.2.2.2.2.2.2 x (searchO_mem A x hx)
  have := h.1
  omega
theorem IsSeq.minimal {b : Int} {rows : List (List Int)} {out : List Int} (h : IsSeq b rows out) : IsSeq b (minR rows out) (minO rows out) := h.merged.searched
end Go.Proofs.Ytpndclpmhelikaa.Plain
/- Plain facts on the model's way to the minimal form: a search over states that looks at their classes. No conditions beyond those that each fact states. -/
namespace Go.Proofs.Ytpndclpmhelikaa.Plain
set_option linter.unusedVariables false
/-- A state's class. -/
def clsF (rows : List (List Int)) (out : List Int) (s : Int) : Int := (classes rows out).getD s.toNat 0
/-- The states of a search and their classes. -/
def Order (rows : List (List Int)) (out od L : List Int) : Prop := od.map (clsF rows out) = L ∧ ∀ x ∈ od, 0 ≤ x ∧ x < (rows.length : Int)
theorem order_start {rows : List (List Int)} {out : List Int} {n : Nat} (A : Auto rows out n) : Order rows out [0] (reachI (rowsQ rows out) 0) := by
  refine ⟨?_, fun x hx => ?_⟩
  · show [clsF rows out 0] = [0]
    rw [clsF]
    congr 1
    exact class_zero A
  · simp at hx
    subst hx
    have := A.closed.1
    omega
/-- What a round finds. -/
theorem order_round {rows : List (List Int)} {out od : List Int} {n i : Nat} (A : Auto rows out n) (h : Order rows out od (reachI (rowsQ rows out) i)) (hi : i < od.length) :
    ∃ (tn : Nat) (r : List Int) (o : Int), od[i]? = some (tn : Int) ∧ tn < rows.length ∧ rows[tn]? = some r ∧ out[tn]? = some o ∧ r.length = n ∧ (∀ y ∈ r, 0 ≤ y ∧ y < (rows.length : Int)) ∧
      (reached (rowsQ rows out))[i]? = some (clsF rows out tn) ∧ rowOf (rowsQ rows out) (clsF rows out tn) = r.map (clsF rows out) ∧ (outQ rows out).getD (clsF rows out tn).toNat 0 = o ∧ reachI (rowsQ rows out) (i + 1) = addAll (reachI (rowsQ rows out) i) (r.map (clsF rows out)) := by
  have h1 : od[i]? = some od[i] := List.getElem?_eq_getElem hi
  have h2 := h.2 _ (List.getElem_mem hi)
  obtain ⟨tn, htn⟩ : ∃ tn : Nat, (tn : Int) = od[i] := ⟨od[i].toNat, by omega⟩
  rw [← htn] at h1 h2
  have ht : tn < rows.length := by omega
  obtain ⟨r, hr⟩ : ∃ r, rows[tn]? = some r := ⟨_, List.getElem?_eq_getElem ht⟩
  obtain ⟨o, ho⟩ : ∃ o, out[tn]? = some o := ⟨_, List.getElem?_eq_getElem (by rw [A.terms]; exact ht)⟩
  have hq := rowsQ_at A ht
  have hL : (reachI (rowsQ rows out) i)[i]? = some (clsF rows out tn) := by
    rw [← h.1, List.getElem?_map, h1]
    rfl
  have hrD : rows.getD tn [] = r := by rw [List.getD_eq_getElem?_getD, hr]; rfl
  have hoD : out.getD tn 0 = o := by rw [List.getD_eq_getElem?_getD, ho]; rfl
  have hrow : rowOf (rowsQ rows out) (clsF rows out tn) = r.map (clsF rows out) := by
    rw [clsF, Int.toNat_natCast, hq.1, hrD]
    rfl
  refine ⟨tn, r, o, h1, ht, hr, ho, A.width r (List.mem_of_getElem? hr), A.closed.2 r (List.mem_of_getElem? hr), ?_, hrow, ?_, ?_⟩
  · obtain ⟨t, ht'⟩ := reachI_sub (rowsQ_auto A).closed i
    have hl := (List.getElem?_eq_some_iff.1 hL).1
    rw [← ht', List.getElem?_append_left hl]
    exact hL
  · rw [clsF, Int.toNat_natCast, hq.2, hoD]
  · rw [reachI_step hL, hrow]
/-- The classes that are found in the middle of a round. -/
def midL (rows : List (List Int)) (out : List Int) (i : Nat) (r : List Int) (k : Nat) : List Int := addAll (reachI (rowsQ rows out) i) ((r.take k).map (clsF rows out))
theorem midL_zero (rows : List (List Int)) (out : List Int) (i : Nat) (r : List Int) : midL rows out i r 0 = reachI (rowsQ rows out) i := rfl
theorem midL_succ {rows : List (List Int)} {out : List Int} {i k : Nat} {r : List Int} {y : Int} (h : r[k]? = some y) : midL rows out i r (k + 1) = addTo (midL rows out i r k) (clsF rows out y) := by
  obtain ⟨hk, rfl⟩ := List.getElem?_eq_some_iff.1 h
  rw [midL, List.take_succ_eq_append_getElem hk, List.map_append, List.map_singleton, addAll_snoc]
  rfl
theorem midL_end {rows : List (List Int)} {out : List Int} {i : Nat} {r : List Int} (h : reachI (rowsQ rows out) (i + 1) = addAll (reachI (rowsQ rows out) i) (r.map (clsF rows out))) : midL rows out i r r.length = reachI (rowsQ rows out) (i + 1) := by rw [midL, List.take_length, h]
theorem midL_sub {rows : List (List Int)} {out : List Int} {n i k : Nat} {r : List Int} (A : Auto rows out n) (h : reachI (rowsQ rows out) (i + 1) = addAll (reachI (rowsQ rows out) i) (r.map (clsF rows out))) : midL rows out i r k <+: reached (rowsQ rows out) := by
  refine List.IsPrefix.trans ?_ (reachI_sub (rowsQ_auto A).closed (i + 1))
  rw [h, midL]
  have e : (r.map (clsF rows out)) = (r.take k).map (clsF rows out) ++ (r.drop k).map (clsF rows out) := by rw [← List.map_append, List.take_append_drop]
  rw [e, addAll_append]
  exact addAll_prefix _ _
theorem midL_len {rows : List (List Int)} {out : List Int} {n i k : Nat} {r : List Int} (A : Auto rows out n) (h : reachI (rowsQ rows out) (i + 1) = addAll (reachI (rowsQ rows out) i) (r.map (clsF rows out))) : (midL rows out i r k).length ≤ rows.length := by
  have h1 := (midL_sub (k := k) A h).length_le
  have h2 := reached_len (rowsQ_auto A).closed
  have h3 := rowsQ_len rows out
  omega
theorem midL_nodup {rows : List (List Int)} {out : List Int} {n i k : Nat} {r : List Int} (A : Auto rows out n) : (midL rows out i r k).Nodup := addAll_nodup _ _ (reachI_ok (rowsQ_auto A).closed i).1
/-- A class that is there already. -/
theorem mid_old {rows : List (List Int)} {out : List Int} {n i k : Nat} {r : List Int} {y : Int} (A : Auto rows out n) (h : reachI (rowsQ rows out) (i + 1) = addAll (reachI (rowsQ rows out) i) (r.map (clsF rows out))) (hy : r[k]? = some y) (hc : clsF rows out y ∈ midL rows out i r k) :
    midL rows out i r (k + 1) = midL rows out i r k ∧ ix (reached (rowsQ rows out)) (clsF rows out y) = ix (midL rows out i r k) (clsF rows out y) :=
  ⟨by rw [midL_succ hy, addTo_in hc], idxOf_prefix (midL_sub A h) hc⟩
/-- A new class. -/
theorem mid_new {rows : List (List Int)} {out od : List Int} {n i k : Nat} {r : List Int} {y : Int} (A : Auto rows out n) (h : reachI (rowsQ rows out) (i + 1) = addAll (reachI (rowsQ rows out) i) (r.map (clsF rows out))) (hy : r[k]? = some y) (hc : clsF rows out y ∉ midL rows out i r k)
    (ho : Order rows out od (midL rows out i r k)) (hb : 0 ≤ y ∧ y < (rows.length : Int)) :
    Order rows out (od ++ [y]) (midL rows out i r (k + 1)) ∧ ix (reached (rowsQ rows out)) (clsF rows out y) = (midL rows out i r k).length := by
  have e : midL rows out i r (k + 1) = midL rows out i r k ++ [clsF rows out y] := by rw [midL_succ hy, addTo_new hc]
  refine ⟨⟨by rw [List.map_append, ho.1, e]; rfl, fun x hx => ?_⟩, ?_⟩
  · rcases List.mem_append.1 hx with hx | hx
    · exact ho.2 x hx
    · simp at hx
      subst hx
      exact hb
  · have hm : clsF rows out y ∈ midL rows out i r (k + 1) := by rw [e]; simp
    rw [idxOf_prefix (midL_sub A h) hm, e, ix, List.idxOf_append, if_neg hc]
    simp
/-- What the search for a class has found. -/
def FoundC (L : List Int) (c : Int) (k : Nat) (f : Int) : Prop := (f = -1 ∧ ∀ j < k, L[j]? ≠ some c) ∨ (0 ≤ f ∧ c ∈ L ∧ f = (ix L c : Int))
theorem foundC_yes {L : List Int} {c : Int} {k : Nat} (hn : L.Nodup) (h : L[k]? = some c) : FoundC L c (k + 1) (k : Int) :=
  .inr ⟨Int.natCast_nonneg _, List.mem_of_getElem? h, by rw [idxOf_get hn h]⟩
theorem foundC_no {L : List Int} {c x : Int} {k : Nat} {f : Int} (hf : FoundC L c k f) (h0 : f < 0) (h : L[k]? = some x) (hx : ¬ x = c) : FoundC L c (k + 1) f := by
  rcases hf with ⟨h1, h2⟩ | h1
  · refine .inl ⟨h1, fun j hj hje => ?_⟩
    by_cases e : j = k
    · subst e
      rw [h] at hje
      exact hx (Option.some.inj hje)
    · exact h2 j (by omega) hje
  · omega
theorem foundC_end {L : List Int} {c : Int} {k : Nat} {f : Int} (hf : FoundC L c k f) (he : k = L.length ∨ 0 ≤ f) (hk : k ≤ L.length) : (f = -1 ∧ c ∉ L) ∨ (0 ≤ f ∧ c ∈ L ∧ f = (ix L c : Int)) := by
  rcases hf with ⟨h1, h2⟩ | h1
  · refine .inl ⟨h1, fun hm => ?_⟩
    obtain ⟨j, hj⟩ := List.getElem?_of_mem hm
    have := (List.getElem?_eq_some_iff.1 hj).1
    exact h2 j (by omega) hj
  · exact .inr h1
/-- A row in the making. -/
def partR (rows : List (List Int)) (out r : List Int) (k : Nat) : List Int := (r.take k).map fun y => (ix (reached (rowsQ rows out)) (clsF rows out y) : Int)
theorem partR_succ {rows : List (List Int)} {out r : List Int} {k : Nat} {y : Int} (h : r[k]? = some y) : partR rows out r (k + 1) = partR rows out r k ++ [(ix (reached (rowsQ rows out)) (clsF rows out y) : Int)] := by
  obtain ⟨hk, rfl⟩ := List.getElem?_eq_some_iff.1 h
  rw [partR, List.take_succ_eq_append_getElem hk, List.map_append]
  rfl
theorem partR_len {rows : List (List Int)} {out r : List Int} {k : Nat} (h : k ≤ r.length) : (partR rows out r k).length = k := by simp [partR]; omega
theorem partR_end {rows : List (List Int)} {out r : List Int} {s : Int} (h : rowOf (rowsQ rows out) s = r.map (clsF rows out)) : partR rows out r r.length = minRow (rowsQ rows out) (reached (rowsQ rows out)) s := by
  rw [partR, List.take_length, minRow, h, List.map_map]
  rfl
theorem order_end {rows : List (List Int)} {out od : List Int} {n i : Nat} (A : Auto rows out n) (h : Order rows out od (reachI (rowsQ rows out) i)) (hi : ¬ i < od.length) (hl : i ≤ od.length) : i = (reached (rowsQ rows out)).length ∧ od.length = i := by
  have h1 : (reachI (rowsQ rows out) i).length = od.length := by rw [← h.1, List.length_map]
  have h2 := reachI_end (rowsQ_auto A).closed (i := i) (by omega)
  rw [← h2]
  omega
end Go.Proofs.Ytpndclpmhelikaa.Plain
/- What a first difference says of the terms. No conditions beyond those that each fact states. -/
namespace Go.Proofs.Ytpndclpmhelikaa
open Go.ChangeShapes Go.WideShapes Go.ChangeAt Go.RowKit
open Go.PlainAid Plain
set_option linter.unusedVariables false
namespace Mins
open Seqs Digits
/-- Where a difference is found, the terms at it differ. -/
theorem diff_differs {b b' : Int} {rows rows' : List (List Int)} {out out' : List Int} (h : diffK b b' rows rows' out out' = true) :
    ∃ n : Nat, n < 2000 ∧ diffV b b' rows rows' out out' = (n : Int) ∧ termV b rows out (n : Int) ≠ termV b' rows' out' (n : Int) := by
  rw [diffK, Bool.and_eq_true] at h
  obtain ⟨hd, hs⟩ := h
  obtain ⟨n, hn⟩ := Option.isSome_iff_exists.1 hs
  have hd2 := hd
  simp only [diffOK, Bool.and_eq_true, decide_eq_true_eq] at hd2
  obtain ⟨⟨hq, hq'⟩, rfl⟩ := hd2
  have h1 := List.find?_some hn
  have h2 := List.mem_range.1 (List.mem_of_find?_eq_some hn)
  refine ⟨n, h2, by rw [diffV, if_pos hd, hn]; rfl, ?_⟩
  rw [ask_small' hq n (by omega), ask_small' hq' n (by omega)]
  exact of_decide_eq_true h1
/-- Sequences with the same terms have no difference. -/
theorem diff_same {b : Int} {rows rows' : List (List Int)} {out out' : List Int} (h : ∀ j < 2000, termG b rows out j = termG b rows' out' j) : diffK b b rows rows' out out' = false := by
  rw [diffK, diffAt_none h]
  simp
/-- A map of states that starts at 0 and goes along with every digit goes along with every list of digits. -/
theorem after_sim {rows rows' : List (List Int)} {b : Int} (φ : Int → Int) (P : Int → Prop) (h0 : P 0) (hφ : φ 0 = 0)
    (hs : ∀ s d, P s → 0 ≤ d → d < b → P (nextS rows s d) ∧ φ (nextS rows s d) = nextS rows' (φ s) d) :
    ∀ ds : List Int, (∀ d ∈ ds, 0 ≤ d ∧ d < b) → P (afterS rows ds) ∧ φ (afterS rows ds) = afterS rows' ds := by
  have key : ∀ (ds : List Int) (s : Int), P s → (∀ d ∈ ds, 0 ≤ d ∧ d < b) → P (ds.foldl (nextS rows) s) ∧ φ (ds.foldl (nextS rows) s) = ds.foldl (nextS rows') (φ s) := by
    intro ds
    induction ds with
    | nil => intro s hp _; exact ⟨hp, rfl⟩
    | cons d ds ih =>
      intro s hp hd
      have h1 := hd d List.mem_cons_self
      have h2 := hs s d hp h1.1 h1.2
      have h3 := ih (nextS rows s d) h2.1 (fun x hx => hd x (List.mem_cons_of_mem _ hx))
      rw [List.foldl_cons, List.foldl_cons, ← h2.2]
      exact h3
  intro ds hd
  have h := key ds 0 h0 hd
  rw [hφ] at h
  exact h
/-- The merged automaton has the terms of the automaton. -/
theorem quot_out {rows : List (List Int)} {out : List Int} {n : Nat} (A : Auto rows out n) (ds : List Int) (hd : ∀ d ∈ ds, 0 ≤ d ∧ d < (n : Int)) :
    (0 ≤ afterS rows ds ∧ afterS rows ds < (rows.length : Int)) ∧ (outQ rows out).getD (afterS (rowsQ rows out) ds).toNat 0 = out.getD (afterS rows ds).toNat 0 := by
  have h := after_sim (rows := rows) (rows' := rowsQ rows out) (b := n) (clsF rows out) (fun s => 0 ≤ s ∧ s < (rows.length : Int)) ⟨by omega, by have := A.closed.1; omega⟩ (by rw [clsF]; exact class_zero A) (by
    intro s d ⟨h0, h1⟩ hd0 hd1
    obtain ⟨k, rfl⟩ := Int.eq_ofNat_of_zero_le h0
    obtain ⟨e, rfl⟩ := Int.eq_ofNat_of_zero_le hd0
    have hk : k < rows.length := by omega
    have he : e < n := by omega
    have h2 := next_lt A hk he
    have h3 : nextS rows (k : Int) (e : Int) = (rows.getD k []).getD e 0 := rfl
    rw [h3]
    refine ⟨⟨h2.1, by omega⟩, ?_⟩
    have hq := (rowsQ_at A hk).1
    have h4 : nextS (rowsQ rows out) (clsF rows out (k : Int)) (e : Int) = (rowOf (rowsQ rows out) ((classes rows out).getD k 0)).getD e 0 := rfl
    rw [h4, hq]
    have hl : e < (rows.getD k []).length := by
      rw [A.width _ (by rw [List.getD_eq_getElem?_getD, List.getElem?_eq_getElem hk]; exact List.getElem_mem hk)]
      exact he
    rw [List.getD_eq_getElem?_getD (l := List.map _ _), List.getElem?_map, List.getD_eq_getElem?_getD (l := rows.getD k []), List.getElem?_eq_getElem hl]
    rfl) ds hd
  refine ⟨h.1, ?_⟩
  rw [← h.2]
  obtain ⟨k, hk⟩ := Int.eq_ofNat_of_zero_le h.1.1
  have hkl : k < rows.length := by have := h.1.2; omega
  rw [hk, clsF, Int.toNat_natCast]
  exact (rowsQ_at A hkl).2
/-- The automaton of the reached states in their order has the terms of the automaton. -/
theorem search_out {Q : List (List Int)} {o : List Int} {n : Nat} (A : Auto Q o n) (ds : List Int) (hd : ∀ d ∈ ds, 0 ≤ d ∧ d < (n : Int)) :
    (searchO Q o).getD (afterS (searchR Q) ds).toNat 0 = o.getD (afterS Q ds).toNat 0 := by
  have hz := reached_zero Q
  have hnd : (reached Q).Nodup := (reachI_ok A.closed _).1
  have hb : ∀ s ∈ reached Q, 0 ≤ s ∧ s < Q.length := (reachI_ok A.closed _).2
  have h := after_sim (rows := Q) (rows' := searchR Q) (b := n) (fun s => (ix (reached Q) s : Int)) (fun s => s ∈ reached Q) (List.mem_of_getElem? hz) (by rw [idxOf_get hnd hz]; rfl) (by
    intro s d hs hd0 hd1
    obtain ⟨k, rfl⟩ := Int.eq_ofNat_of_zero_le (hb s hs).1
    obtain ⟨e, rfl⟩ := Int.eq_ofNat_of_zero_le hd0
    have hk : k < Q.length := by have := (hb _ hs).2; omega
    have he : e < n := by omega
    have hr : rowOf Q (k : Int) = Q.getD k [] := rfl
    have hl : e < (rowOf Q (k : Int)).length := by
      rw [A.width _ (rowOf_mem (by omega) (by omega))]
      exact he
    have h3 : nextS Q (k : Int) (e : Int) = (rowOf Q (k : Int))[e] := by
      show (rowOf Q (k : Int)).getD e 0 = _
      rw [List.getD_eq_getElem?_getD, List.getElem?_eq_getElem hl]
      rfl
    rw [h3]
    refine ⟨reached_next A.closed hs (List.getElem_mem hl), ?_⟩
    have hg := get_idxOf hs
    have h4 : nextS (searchR Q) (ix (reached Q) (k : Int) : Int) (e : Int) = ((searchR Q).getD (ix (reached Q) (k : Int)) []).getD e 0 := rfl
    rw [h4, searchR, List.getD_eq_getElem?_getD (l := List.map _ _), List.getElem?_map, hg, Option.map_some, Option.getD_some, minRow, List.getD_eq_getElem?_getD, List.getElem?_map, List.getElem?_eq_getElem hl]
    rfl) ds hd
  rw [← h.2, searchO, Int.toNat_natCast, List.getD_eq_getElem?_getD, List.getElem?_map, get_idxOf h.1, Option.map_some, Option.getD_some]
/-- The minimal automaton has the terms of the automaton. -/
theorem min_out {rows : List (List Int)} {out : List Int} {n : Nat} (A : Auto rows out n) (ds : List Int) (hd : ∀ d ∈ ds, 0 ≤ d ∧ d < (n : Int)) :
    (minO rows out).getD (afterS (minR rows out) ds).toNat 0 = out.getD (afterS rows ds).toNat 0 := by
  rw [minO, minR, search_out (rowsQ_auto A) ds hd, (quot_out A ds hd).2]
end Mins
end Go.Proofs.Ytpndclpmhelikaa
/- Laws for a map that the call itself makes and never hands out, told as the list of its keys: the i-th key that was stored leads to the number i. No conditions beyond those that each states. -/
namespace Go.Proofs.Ytpndclpmhelikaa.Plain
open Go.RowKit Go.ChangeMaps Go.MapKept
open Go.Maps (Keyed)
set_option linter.unusedVariables false
section
variable {κ : Type} {enc : κ → Value} {P : Program} {k e t : TypeId} {w : World} {b : Nat} {keys : List κ}
/-- The entries are those of the keys, the i-th one leads to i. -/
structure EntriesOf (enc : κ → Value) (es : Array MapEntry) (clock : Nat) (keys : List κ) : Prop where
  old : ∀ x ∈ es.toList, x.born < clock
  born : (es.toList.map (·.born)).Nodup
  len : es.toList.length = keys.length
  at_ : ∀ (i : Nat) (x : κ), keys[i]? = some x → ∃ y, es.toList[i]? = some y ∧ y.key = enc x ∧ y.val = .int .i64 i
/-- Block b is a map with these keys. -/
def MapOf (enc : κ → Value) (w : World) (b : Nat) (keys : List κ) : Prop := ∃ es clock, w.heap[b]? = some (.map es clock) ∧ EntriesOf enc es clock keys
/-- What is asked of the keys: they can be read, and no two read alike. -/
structure GoodKeys (P : Program) (k : TypeId) (enc : κ → Value) (Ok : κ → Prop) : Prop where
  law : Keyed P k
  reads : ∀ x, Ok x → ∃ l, Go.keyOf P k (enc x) = some l
  inj : ∀ x y, Ok x → Ok y → enc x = enc y → x = y
theorem EntriesOf.back {es : Array MapEntry} {clock : Nat} (h : EntriesOf enc es clock keys) {i : Nat} {y : MapEntry} (hy : es.toList[i]? = some y) : ∃ x, keys[i]? = some x ∧ y.key = enc x ∧ y.val = .int .i64 i := by
  have hi : i < keys.length := by rw [← h.len]; exact (List.getElem?_eq_some_iff.1 hy).1
  obtain ⟨y', hy', h1, h2⟩ := h.at_ i _ (List.getElem?_eq_getElem hi)
  rw [hy] at hy'
  cases hy'
  exact ⟨_, List.getElem?_eq_getElem hi, h1, h2⟩
theorem EntriesOf.empty (clock : Nat) : EntriesOf enc #[] clock [] := ⟨by simp, by simp, rfl, fun i x h => by simp at h⟩
theorem MapOf.made (w : World) : MapOf enc (w.alloc (.map #[] 0)) w.heap.size [] := ⟨#[], 0, heap_alloc_new w _, EntriesOf.empty 0⟩
theorem MapOf.lt (h : MapOf enc w b keys) : b < w.heap.size := by
  obtain ⟨es, clock, hb, _⟩ := h
  exact (Array.getElem?_eq_some_iff.1 hb).1
theorem MapOf.grown {w' : World} {row : Option Nat} (h : MapOf enc w b keys) (hg : w.grownBy w' row) (hne : row ≠ some b) : MapOf enc w' b keys := by
  have hlt := h.lt
  obtain ⟨es, clock, hb, H⟩ := h
  exact ⟨es, clock, (hg.block b hlt (Ne.symm hne)).trans hb, H⟩
theorem MapOf.below {w' : World} (h : MapOf enc w b keys) (hb : Below w.heap.size w w') : MapOf enc w' b keys := h.grown (grown_of_below hb) (by simp)
theorem MapOf.ne_cells {g : Nat} {cs : Array Value} {ty : TypeId} {fz : Nat × Nat} (h : MapOf enc w b keys) (hg : w.heap[g]? = some (.cells cs ty fz)) : g ≠ b := by
  obtain ⟨es, clock, hb, _⟩ := h
  intro e
  subst e
  rw [hb] at hg
  cases hg
/-- What 'find' finds. -/
theorem EntriesOf.find [DecidableEq κ] {Ok : κ → Prop} (G : GoodKeys P k enc Ok) {es : Array MapEntry} {clock : Nat} (h : EntriesOf enc es clock keys) (hok : ∀ x ∈ keys, Ok x) {x : κ} (hx : Ok x) (hnd : keys.Nodup) :
    (x ∉ keys → (Instr.findKey k (enc x) es.toList).run P w = .ok none w) ∧ (x ∈ keys → ∃ j, (Instr.findKey k (enc x) es.toList).run P w = .ok (some (j, .int .i64 (ix keys x))) w) := by
  obtain ⟨l, hl⟩ := G.reads x hx
  have hall : ∀ y ∈ es.toList, ∃ l, Go.keyOf P k y.key = some l := fun y hy => by
    obtain ⟨i, hi⟩ := List.getElem?_of_mem hy
    obtain ⟨z, hz, h1, _⟩ := h.back hi
    obtain ⟨l', hl'⟩ := G.reads z (hok z (List.mem_of_getElem? hz))
    exact ⟨l', by rw [h1]; exact hl'⟩
  rcases G.law.find w hl es.toList hall with ⟨h1, h2⟩ | ⟨j, y, h1, h2, h3⟩
  · refine ⟨fun _ => h1, fun hm => ?_⟩
    obtain ⟨i, hi⟩ := List.getElem?_of_mem hm
    obtain ⟨y, hy, h3, _⟩ := h.at_ i x hi
    exact absurd h3 (h2 y (List.mem_of_getElem? hy))
  · obtain ⟨z, hz, h4, h5⟩ := h.back h2
    have hzk := List.mem_of_getElem? hz
    have e1 : z = x := G.inj z x (hok z hzk) hx (h4.symm.trans h3)
    subst e1
    refine ⟨fun hn => absurd hzk hn, fun _ => ⟨j, ?_⟩⟩
    rw [h1, h5, idxOf_get hnd hz]
theorem MapOf.look_no [DecidableEq κ] {Ok : κ → Prop} (G : GoodKeys P k enc Ok) (ht : P.underlying t = some (.map k e)) (h : MapOf enc w b keys) (hz : (zeroValue e).run P w = .ok (.int .i64 0) w) (hok : ∀ x ∈ keys, Ok x) {x : κ} (hx : Ok x) (hnd : keys.Nodup) (hn : x ∉ keys) :
    (Instr.lookup t (.map (some b)) (enc x) true).run P w = .ok (.tuple #[.int .i64 0, .bool false]) w := by
  obtain ⟨l, hl⟩ := G.reads x hx
  obtain ⟨es, clock, hb, H⟩ := h
  have h1 := (H.find G (w := w) hok hx hnd).1 hn
  simp [Instr.lookup, run_underlying ht, MapKept.run_getObj_map hb, G.law.check w _ hl, h1, hz, Result.andThen]
theorem MapOf.look_yes [DecidableEq κ] {Ok : κ → Prop} (G : GoodKeys P k enc Ok) (ht : P.underlying t = some (.map k e)) (h : MapOf enc w b keys) (hok : ∀ x ∈ keys, Ok x) {x : κ} (hx : Ok x) (hnd : keys.Nodup) (hn : x ∈ keys) :
    (Instr.lookup t (.map (some b)) (enc x) true).run P w = .ok (.tuple #[.int .i64 (ix keys x), .bool true]) w := by
  obtain ⟨l, hl⟩ := G.reads x hx
  obtain ⟨es, clock, hb, H⟩ := h
  obtain ⟨j, h1⟩ := (H.find G (w := w) hok hx hnd).2 hn
  simp [Instr.lookup, run_underlying ht, MapKept.run_getObj_map hb, G.law.check w _ hl, h1, Result.andThen]
theorem MapOf.store [DecidableEq κ] {Ok : κ → Prop} (G : GoodKeys P k enc Ok) (ht : P.underlying t = some (.map k e)) (h : MapOf enc w b keys) (hok : ∀ x ∈ keys, Ok x) {x : κ} (hx : Ok x) (hnd : keys.Nodup) (hn : x ∉ keys) :
    ∃ w', (Instr.mapUpdate t (.map (some b)) (enc x) (.int .i64 keys.length)).run P w = .ok () w' ∧ MapOf enc w' b (keys ++ [x]) ∧ w.grownBy w' (some b) := by
  obtain ⟨l, hl⟩ := G.reads x hx
  obtain ⟨es, clock, hb, H⟩ := h
  have h1 := (H.find G (w := w) hok hx hnd).1 hn
  refine ⟨setBlock w b (.map (es.push ⟨enc x, .int .i64 keys.length, clock⟩) (clock + 1)), ?_, ⟨_, _, heap_setBlock_same hb _, ?_⟩, ⟨rfl, rfl, rfl, by simp [setBlock], fun i _ hi => heap_setBlock_other hb _ (fun e => hi (by rw [e]))⟩⟩
  · simp [Instr.mapUpdate, run_underlying ht, MapKept.run_getObj_map hb, G.law.check w false hl, h1, MapKept.run_setObj_map _ hb, Result.andThen, setBlock]
  · refine ⟨fun y hy => ?_, ?_, ?_, fun i y hy => ?_⟩
    · simp only [Array.toList_push, List.mem_append, List.mem_singleton] at hy
      rcases hy with hy | rfl
      · have := H.old y hy
        omega
      · exact Nat.lt_succ_self _
    · rw [Array.toList_push, List.map_append, List.nodup_append]
      refine ⟨H.born, by simp, fun a ha c hc => ?_⟩
      obtain ⟨y, hy, rfl⟩ := List.mem_map.1 ha
      have := H.old y hy
      simp at hc
      subst hc
      omega
    · rw [Array.toList_push, List.length_append, List.length_append, H.len]
      rfl
    · rw [Array.toList_push]
      by_cases hi : i < keys.length
      · rw [List.getElem?_append_left hi] at hy
        obtain ⟨z, hz, h2⟩ := H.at_ i y hy
        exact ⟨z, by rw [List.getElem?_append_left (by rw [H.len]; exact hi)]; exact hz, h2⟩
      · have hi' := (List.getElem?_eq_some_iff.1 hy).1
        simp at hi'
        have : i = keys.length := by omega
        subst this
        simp at hy
        subst hy
        exact ⟨⟨enc x, .int .i64 keys.length, clock⟩, by rw [List.getElem?_append_right (by rw [H.len]; exact Nat.le_refl _), H.len]; simp, rfl, rfl⟩
theorem MapOf.clear_ (ht : P.underlying t = some (.map k e)) (h : MapOf enc w b keys) (ty : TypeId) :
    ∃ w', (Builtin.clear_ #[t] ty #[.map (some b)]).run P w = .ok (.tuple #[]) w' ∧ MapOf enc w' b [] ∧ w.grownBy w' (some b) := by
  obtain ⟨es, clock, hb, H⟩ := h
  refine ⟨setBlock w b (.map #[] clock), ?_, ⟨_, _, heap_setBlock_same hb _, EntriesOf.empty clock⟩, ⟨rfl, rfl, rfl, by simp [setBlock], fun i _ hi => heap_setBlock_other hb _ (fun e => hi (by rw [e]))⟩⟩
  simp [Builtin.clear_, run_underlying ht, MapKept.run_getObj_map hb, MapKept.run_setObj_map _ hb, Result.andThen, setBlock]
theorem MapOf.len_ (ht : P.underlying t = some (.map k e)) (h : MapOf enc w b keys) (ty : TypeId) : (Builtin.len_ #[t] ty #[.map (some b)]).run P w = .ok (.int .i64 keys.length) w := by
  obtain ⟨es, clock, hb, H⟩ := h
  have h1 : es.size = keys.length := by rw [← H.len]; simp
  simp [Builtin.len_, run_underlying ht, MapKept.run_getObj_map hb, goInt, h1]
end
/-! ### at the operation -/
section
variable {κ : Type} {enc : κ → Value} {P : Program} {k e : TypeId} (w : World) {b : Nat} {keys : List κ} {ops : Array Oper} {rest : List Oper} {o : Oper} {a : Act} {Q : Exit → Act → World → Prop} {Ok : κ → Prop}
theorem wpList_look_no [DecidableEq κ] (hg : o.guard = none) (m x : Operand) (t : TypeId) (hop : o.op = Op.lookup t m x true) (G : GoodKeys P k enc Ok) (ht : P.underlying t = some (.map k e)) (hz : (zeroValue e).run P w = .ok (.int .i64 0) w)
    (hm : a.eval m = .map (some b)) (h : MapOf enc w b keys) (hok : ∀ x ∈ keys, Ok x) (hnd : keys.Nodup) (y : κ) (hx : a.eval x = enc y) (hy : Ok y) (hn : y ∉ keys)
    (hK : wpList P ops Q rest (a.put o.dst (.tuple #[.int .i64 0, .bool false])) w) : wpList P ops Q (o :: rest) a w := by
  refine wpList_plain hg fun K' hK' => ?_
  have hrun := h.look_no G ht hz hok hy hnd hn
  unfold Oper.wp
  simp [execOp, hop, hm, hx, hrun, Result.andThen]
  exact hK' _ _ hK
theorem wpList_look_yes [DecidableEq κ] (hg : o.guard = none) (m x : Operand) (t : TypeId) (hop : o.op = Op.lookup t m x true) (G : GoodKeys P k enc Ok) (ht : P.underlying t = some (.map k e))
    (hm : a.eval m = .map (some b)) (h : MapOf enc w b keys) (hok : ∀ x ∈ keys, Ok x) (hnd : keys.Nodup) (y : κ) (hx : a.eval x = enc y) (hy : Ok y) (hn : y ∈ keys)
    (hK : wpList P ops Q rest (a.put o.dst (.tuple #[.int .i64 (ix keys y), .bool true])) w) : wpList P ops Q (o :: rest) a w := by
  refine wpList_plain hg fun K' hK' => ?_
  have hrun := h.look_yes G ht hok hy hnd hn
  unfold Oper.wp
  simp [execOp, hop, hm, hx, hrun, Result.andThen]
  exact hK' _ _ hK
theorem wpList_store_new [DecidableEq κ] (hg : o.guard = none) (m x v : Operand) (t : TypeId) (hop : o.op = Op.mapUpdate t m x v) (G : GoodKeys P k enc Ok) (ht : P.underlying t = some (.map k e))
    (hm : a.eval m = .map (some b)) (h : MapOf enc w b keys) (hok : ∀ x ∈ keys, Ok x) (hnd : keys.Nodup) (y : κ) (hx : a.eval x = enc y) (hv : a.eval v = .int .i64 keys.length) (hy : Ok y) (hn : y ∉ keys)
    (hK : ∀ w', MapOf enc w' b (keys ++ [y]) → w.grownBy w' (some b) → wpList P ops Q rest (a.put o.dst undef) w') : wpList P ops Q (o :: rest) a w := by
  refine wpList_plain hg fun K' hK' => ?_
  obtain ⟨w', hrun, r1, r2⟩ := h.store G ht hok hy hnd hn
  unfold Oper.wp
  simp [execOp, hop, hm, hx, hv, hrun, Result.andThen]
  exact hK' _ _ (hK w' r1 r2)
theorem wpList_clear (hg : o.guard = none) (m : Operand) (t : TypeId) (hop : o.op = Op.call { callee := Callee.builtin Builtin.clear, args := #[m], argTypes := #[t] }) (ht : P.underlying t = some (.map k e))
    (hm : a.eval m = .map (some b)) (h : MapOf enc w b keys) (hK : ∀ w', MapOf enc w' b [] → w.grownBy w' (some b) → wpList P ops Q rest (a.put o.dst (.tuple #[])) w') : wpList P ops Q (o :: rest) a w := by
  refine wpList_plain hg fun K' hK' => ?_
  obtain ⟨w', hrun, r1, r2⟩ := h.clear_ ht o.type
  unfold Oper.wp
  simp [execOp, hop, resolve, invoke, builtin, hm, hrun, Result.andThen]
  exact hK' _ _ (hK w' r1 r2)
theorem wpList_maplen (hg : o.guard = none) (m : Operand) (t : TypeId) (hop : o.op = Op.call { callee := Callee.builtin Builtin.len, args := #[m], argTypes := #[t] }) (ht : P.underlying t = some (.map k e))
    (hm : a.eval m = .map (some b)) (h : MapOf enc w b keys) (hK : wpList P ops Q rest (a.put o.dst (.int .i64 keys.length)) w) : wpList P ops Q (o :: rest) a w := by
  refine wpList_plain hg fun K' hK' => ?_
  have hrun := h.len_ ht o.type
  unfold Oper.wp
  simp [execOp, hop, resolve, invoke, builtin, hm, hrun, Result.andThen]
  exact hK' _ _ hK
end
/-! ### a range over the map -/
section
variable {κ : Type} {enc : κ → Value} {P : Program} {k e t : TypeId} {w : World} {b r : Nat} {keys : List κ} {dn : Nat → Bool} {cnt : Nat}
/-- Block r is an iterator over the map b: the keys i with 'dn i' have come, cnt are left. -/
def RangeOf (enc : κ → Value) (w : World) (b r : Nat) (keys : List κ) (dn : Nat → Bool) (cnt : Nat) : Prop :=
  ∃ es clock since seen c0, w.heap[b]? = some (.map es clock) ∧ EntriesOf enc es clock keys ∧ w.heap[r]? = some (.mapIter (some b) since seen c0) ∧ (∀ x ∈ es.toList, x.born < since) ∧ cnt = (leftOf es seen).size ∧ since ≤ c0 ∧ since ≤ clock ∧ ∀ i y, es.toList[i]? = some y → seen.contains y.born = dn i
theorem RangeOf.map_ (h : RangeOf enc w b r keys dn cnt) : MapOf enc w b keys := by
  obtain ⟨es, clock, since, seen, c0, hb, H, _⟩ := h
  exact ⟨es, clock, hb, H⟩
theorem RangeOf.lt (h : RangeOf enc w b r keys dn cnt) : r < w.heap.size := by
  obtain ⟨es, clock, since, seen, c0, hb, H, hr, _⟩ := h
  exact (Array.getElem?_eq_some_iff.1 hr).1
theorem RangeOf.grown {w' : World} {row : Option Nat} (h : RangeOf enc w b r keys dn cnt) (hg : w.grownBy w' row) (h1 : row ≠ some b) (h2 : row ≠ some r) : RangeOf enc w' b r keys dn cnt := by
  have l1 := h.map_.lt
  have l2 := h.lt
  obtain ⟨es, clock, since, seen, c0, hb, H, hr, R⟩ := h
  exact ⟨es, clock, since, seen, c0, (hg.block b l1 (Ne.symm h1)).trans hb, H, (hg.block r l2 (Ne.symm h2)).trans hr, R⟩
theorem RangeOf.below {w' : World} (h : RangeOf enc w b r keys dn cnt) (hb : Below w.heap.size w w') : RangeOf enc w' b r keys dn cnt := h.grown (grown_of_below hb) (by simp) (by simp)
theorem RangeOf.ne_cells {g : Nat} {cs : Array Value} {ty : TypeId} {fz : Nat × Nat} (h : RangeOf enc w b r keys dn cnt) (hg : w.heap[g]? = some (.cells cs ty fz)) : g ≠ b ∧ g ≠ r := by
  refine ⟨h.map_.ne_cells hg, ?_⟩
  obtain ⟨es, clock, since, seen, c0, hb, H, hr, _⟩ := h
  intro e
  subst e
  rw [hr] at hg
  cases hg
theorem MapOf.range_ (ht : P.underlying t = some (.map k e)) (h : MapOf enc w b keys) :
    ∃ w', (Instr.range t (.map (some b))).run P w = .ok (.pointer (some ⟨w.heap.size, 0, none⟩)) w' ∧ RangeOf enc w' b w.heap.size keys (fun _ => false) keys.length ∧ w.grownBy w' none ∧ w'.heap.size = w.heap.size + 1 := by
  have hlt := h.lt
  obtain ⟨es, clock, hb, H⟩ := h
  refine ⟨_, run_range_map w t k e b es clock ht hb, ⟨es, clock, clock, #[], clock, ((MapKept.heap_alloc w _).2 b hlt).trans hb, H, (MapKept.heap_alloc w _).1, H.old, ?_, Nat.le_refl _, Nat.le_refl _, fun i y _ => by simp⟩, World.grownBy_alloc w _ none, by simp⟩
  rw [← H.len]
  have h1 : es.filter (fun e => !(#[] : Array Nat).contains e.born) = es := Array.filter_eq_self.2 (fun x _ => by simp)
  rw [leftOf, h1]
  simp
theorem RangeOf.next_ (h : RangeOf enc w b r keys dn cnt) (ty : TypeId) :
    (cnt = 0 ∧ (∀ i < keys.length, dn i = true) ∧ (Instr.next (.pointer (some ⟨r, 0, none⟩)) false ty).run P w = .ok (.tuple #[.bool false]) w) ∨
    ∃ i x w' cnt', keys[i]? = some x ∧ dn i = false ∧ (Instr.next (.pointer (some ⟨r, 0, none⟩)) false ty).run P w = .ok (.tuple #[.bool true, enc x, .int .i64 i]) w' ∧
      RangeOf enc w' b r keys (fun j => dn j || j == i) cnt' ∧ cnt' < cnt ∧ w.grownBy w' (some r) ∧ w'.heap.size = w.heap.size ∧ (Instr.entry (.pointer (some ⟨r, 0, none⟩))).run P w' = .ok (.tuple #[enc x, .int .i64 i]) w' := by
  obtain ⟨es, clock, since, seen, c0, hb, H, hr, hold, rfl, hsc, hsk, hdn⟩ := h
  have hne : r ≠ b := fun e => by
    subst e
    rw [hb] at hr
    cases hr
  rcases run_next_at (P := P) w ty r b since c0 seen es clock hr hb hold hsc with ⟨h0, hrun⟩ | ⟨y, he, w1, hal, hrun⟩
  · refine .inl ⟨h0, fun i hi => ?_, hrun⟩
    obtain ⟨y, hy, _⟩ := H.at_ i _ (List.getElem?_eq_getElem hi)
    rw [← hdn i y hy]
    exact all_seen es seen h0 y (List.mem_of_getElem? hy)
  · obtain ⟨hem, hes⟩ := mem_left he
    obtain ⟨i, hi⟩ := List.getElem?_of_mem hem
    obtain ⟨x, hx, hk, hv⟩ := H.back hi
    have hr1 : w1.heap[r]? = some (.mapIter (some b) since seen c0) := by rcases hal with rfl | rfl <;> exact hr
    have hb1 : w1.heap[b]? = some (.map es clock) := by rcases hal with rfl | rfl <;> exact hb
    have hset := heap_set (o' := .mapIter (some b) since (seen.push y.born) clock) hr1
    have hb' : (setBlock w1 r (.mapIter (some b) since (seen.push y.born) clock)).heap[b]? = some (.map es clock) := (hset.2 b (fun e1 => hne e1.symm)).trans hb1
    rw [hk, hv] at hrun
    have hent := run_entry_at (P := P) _ r b since seen es clock y hset.1 hb' hem H.born
    rw [hk, hv] at hent
    refine .inr ⟨i, x, _, _, hx, by rw [← hdn i y hi]; exact hes, hrun, ⟨es, clock, since, seen.push y.born, clock, hb', H, hset.1, hold, rfl, hsk, hsk, fun j z hz => ?_⟩, left_shrinks es seen y he, ?_, ?_, hent⟩
    · rw [contains_push, hdn j z hz]
      congr 1
      by_cases e : j = i
      · subst e
        rw [hi] at hz
        cases hz
        simp
      · have h1 : (j == i) = false := by simpa using e
        rw [h1]
        simp only [beq_eq_false_iff_ne, ne_eq]
        intro e2
        have hj := (List.getElem?_eq_some_iff.1 hz).1
        have hi' := (List.getElem?_eq_some_iff.1 hi).1
        have g1 : (es.toList.map (·.born))[j]? = some z.born := by rw [List.getElem?_map, hz]; rfl
        have g2 : (es.toList.map (·.born))[i]? = some y.born := by rw [List.getElem?_map, hi]; rfl
        rw [e2] at g1
        exact e ((idxOf_get H.born g1).symm.trans (idxOf_get H.born g2))
    · rcases hal with rfl | rfl <;> exact ⟨rfl, rfl, rfl, by simp [setBlock], fun i _ hi => hset.2 i (fun e1 => hi (by rw [e1]))⟩
    · rcases hal with rfl | rfl <;> simp [setBlock]
theorem wpList_range_k (w : World) {ops : Array Oper} {rest : List Oper} {o : Oper} {a : Act} {Q : Exit → Act → World → Prop} (hg : o.guard = none) (m : Operand) (t : TypeId) (hop : o.op = Op.range t m) (ht : P.underlying t = some (.map k e))
    (hm : a.eval m = .map (some b)) (h : MapOf enc w b keys)
    (hK : ∀ w', RangeOf enc w' b w.heap.size keys (fun _ => false) keys.length → w.grownBy w' none → w'.heap.size = w.heap.size + 1 → wpList P ops Q rest (a.put o.dst (.pointer (some ⟨w.heap.size, 0, none⟩))) w') : wpList P ops Q (o :: rest) a w := by
  refine wpList_plain hg fun K' hK' => ?_
  obtain ⟨w', hrun, r1, r2, r3⟩ := h.range_ ht
  unfold Oper.wp
  simp [execOp, hop, hm, hrun, Result.andThen]
  exact hK' _ _ (hK w' r1 r2 r3)
theorem wpList_next_k (w : World) {ops : Array Oper} {rest : List Oper} {o : Oper} {a : Act} {Q : Exit → Act → World → Prop} (hg : o.guard = none) (it : Operand) (hop : o.op = Op.next it false)
    (hit : a.eval it = .pointer (some ⟨r, 0, none⟩)) (h : RangeOf enc w b r keys dn cnt)
    (hDone : cnt = 0 → (∀ i < keys.length, dn i = true) → wpList P ops Q rest (a.put o.dst (.tuple #[.bool false])) w)
    (hMore : ∀ (i : Nat) (x : κ) (w' : World) (cnt' : Nat), keys[i]? = some x → dn i = false → RangeOf enc w' b r keys (fun j => dn j || j == i) cnt' → cnt' < cnt → w.grownBy w' (some r) → w'.heap.size = w.heap.size →
      (Instr.entry (.pointer (some ⟨r, 0, none⟩))).run P w' = .ok (.tuple #[enc x, .int .i64 i]) w' → wpList P ops Q rest (a.put o.dst (.tuple #[.bool true, enc x, .int .i64 i])) w') : wpList P ops Q (o :: rest) a w := by
  refine wpList_plain hg fun K' hK' => ?_
  unfold Oper.wp
  rcases h.next_ (P := P) o.type with ⟨h0, hl, hrun⟩ | ⟨i, x, w', cnt', hx, hd, hrun, hrg, hlt, hgr, hsz, hen⟩
  · simp [execOp, hop, hit, hrun, Result.andThen]
    exact hK' _ _ (hDone h0 hl)
  · simp [execOp, hop, hit, hrun, Result.andThen]
    exact hK' _ _ (hMore i x w' cnt' hx hd hrg hlt hgr hsz hen)
end
end Go.Proofs.Ytpndclpmhelikaa.Plain
/- Contracts of ReachedStates, of the program and of the model. No conditions beyond those that each states. -/
namespace Go.Proofs.Ytpndclpmhelikaa
open Go.ChangeShapes Go.WideShapes Go.ChangeAt Go.RowKit
open Go.PlainAid Plain
set_option linter.unusedVariables false
namespace Mins
open Seqs
/-- Does the list hold the number? -/
def inB (x : Int) (xs : List Int) : Bool := decide (x ∈ xs)
theorem inB_yes {x : Int} {xs : List Int} (h : x ∈ xs) : inB x xs = true := decide_eq_true h
theorem inB_no {x : Int} {xs : List Int} (h : x ∉ xs) : inB x xs = false := decide_eq_false h
theorem inB_at {x y : Int} {xs : List Int} {k : Nat} (h : xs[k]? = some y) (e : y = x) : inB x xs = true := inB_yes (e ▸ List.mem_of_getElem? h)
theorem inB_none {x : Int} {xs : List Int} (h : ∀ (j : Nat) (y : Int), xs[j]? = some y → ¬ y = x) : inB x xs = false := inB_no fun hm => by
  obtain ⟨j, hj⟩ := List.getElem?_of_mem hm
  exact h j x hj rfl
theorem spec_has (v : Value) (xs : List Int) (x : Int) (w : World) (h : Lies (Value.int .i64) w v xs) (c : Bool) (hc : inB x xs = c) :
    Calls Try.prog 33 #[v, .int .i64 x] w fun e w' => e = .returned (.bool c) ∧ w' = w := by
  obtain ⟨hl, a, ca, rfl, _, hca⟩ := h
  have HA := Lib.hid hca
  have HC := Lib.hid hc
  clear hca hc
  go_enter Try.func33, Try.ntmps33
  go_wp2
  go_loop [5] (fun i' => ∃ k : Nat, k ≤ xs.length ∧ i' = .int .i64 k ∧ Hid (∀ (j : Nat) (y : Int), j < k → xs[j]? = some y → ¬ y = x)) (fun i' => xs.length - (intOf i').toNat)
  case atStart => exact ⟨0, Nat.zero_le _, rfl, fun j y h => by omega⟩
  case round =>
    obtain ⟨k, hk, rfl, HI⟩ := hrel
    by_cases hlt : k < xs.length
    · obtain ⟨y, hy⟩ : ∃ y, xs[k]? = some y := ⟨_, List.getElem?_eq_getElem hlt⟩
      obtain ⟨p, o, rfl, hcl⟩ := HA.out k y hy
      have HY := Lib.hid hy
      clear hy
      by_cases he : y = x
      · have hd : (y == x) = true := by simpa using he
        have HE := Lib.hid (HC.out.symm.trans (inB_at HY.out he))
        clear he
        go_wp2
        go_ret
        exact ⟨ret_b HE.out.symm, rfl⟩
      · have hd : (y == x) = false := by simpa using he
        have HN : Hid (∀ (j : Nat) (z : Int), j < k + 1 → xs[j]? = some z → ¬ z = x) := fun j z hj hz => by
          by_cases e : j = k
          · subst e
            obtain rfl := Option.some.inj (HY.out.symm.trans hz)
            exact he
          · exact HI.out j z (by omega) hz
        clear he
        go_wp2
        go_round
        case rel => exact ⟨k + 1, by omega, by go_num, HN⟩
        case measure => simp [intOf]; omega
    · have HE := Lib.hid (HC.out.symm.trans (inB_none fun j y hj => HI.out j y (by have := (List.getElem?_eq_some_iff.1 hj).1; omega) hj))
      go_wp2
      go_ret
      exact ⟨ret_b HE.out.symm, rfl⟩
theorem has_quiet {v : Value} {xs : List Int} {x : Int} {w : World} {n : Nat} {c : Bool} (h : Lies (Value.int .i64) w v xs) (hc : inB x xs = c) :
    Calls Try.prog 33 #[v, .int .i64 x] (w.drewN n) fun e w' => e = .returned (.bool c) ∧ ∃ m, w' = w.drewN m :=
  (spec_has v xs x _ (h.below (below_drewN (Below.refl _ _) n)) c hc).mono fun _ _ ⟨he, hw⟩ => ⟨he, n, hw⟩
/-- A slice of ints that is not empty: its cells. -/
theorem ints_at {w : World} {v : Value} {xs : List Int} (h : Lies (Value.int .i64) w v xs) (hp : 0 < xs.length) : ∃ q s c, v = .slice (some ⟨q, s, none⟩) xs.length c ∧ ∀ (k : Nat) (x : Int), xs[k]? = some x → w.cell? ⟨q, s + k, none⟩ = some (.int .i64 x) := by
  obtain ⟨_, a, c, rfl, _, hc⟩ := h
  obtain ⟨q, s, rfl, _⟩ := hc 0 _ (List.getElem?_eq_getElem hp)
  refine ⟨q, s, c, rfl, fun k x hx => ?_⟩
  obtain ⟨q', s', h1, h2⟩ := hc k x hx
  injection h1 with h1
  injection h1 with h1 h3
  subst h1; subst h3
  exact h2
theorem impl_has (v : Value) (xs : List Int) (x : Int) (w : World) (h : Lies (Value.int .i64) w v xs) (c : Bool) (hc : inB x xs = c) :
    Calls Try.prog 31 #[v, .int .i64 x] w fun e w' => e = .returned (.bool c) ∧ w = w' := by
  have hin : xs.contains x = c := by rw [← hc, inB, List.contains_eq_mem]
  rcases Nat.eq_zero_or_pos xs.length with h0 | h0
  · have hx : xs = [] := List.eq_nil_of_length_eq_zero h0
    subst hx
    obtain ⟨_, a, ca, rfl, _, _⟩ := h
    exact (Try.slices_Contains_int_empty a ca x w).mono fun _ _ ⟨he, hw⟩ => ⟨by rw [he, ← hin]; rfl, hw.symm⟩
  · obtain ⟨q, s, c', rfl, hcl⟩ := ints_at h h0
    refine (Try.slices_Contains_int q s xs.length c' xs x w (Nat.le_refl _) h.1 (fun j hj => ?_)).mono fun _ _ ⟨he, hw⟩ => ⟨?_, hw.symm⟩
    · rw [hcl j _ (List.getElem?_eq_getElem hj), List.getD_eq_getElem?_getD, List.getElem?_eq_getElem hj]
      rfl
    · rw [he, List.take_length, hin]
theorem old_cell {w w' : World} {p o : Nat} {u : Value} (hb : Below w.heap.size w w') (h : w.cell? ⟨p, o, none⟩ = some u) : w'.cell? ⟨p, o, none⟩ = some u := (hb.cell (p := ⟨p, o, none⟩) (World.block_lt_of_cell? w _ h)).trans h
/-- A row of a sequence that is not empty: its slice's cell and its own cells. -/
theorem seq_row {w : World} {b : Int} {rows : List (List Int)} {out : List Int} {an ao : Option Addr} {cn co : Nat} (h : LiesS w (.agg #[.int .i64 b, .slice an rows.length cn, .slice ao out.length co]) b rows out) {i : Nat} {r : List Int} (hr : rows[i]? = some r) (hp : 0 < r.length) :
    ∃ pa off, an = some ⟨pa, off, none⟩ ∧ ∃ q s c, w.cell? ⟨pa, off + i, none⟩ = some (.slice (some ⟨q, s, none⟩) r.length c) ∧ ∀ (k : Nat) (x : Int), r[k]? = some x → w.cell? ⟨q, s + k, none⟩ = some (.int .i64 x) := by
  obtain ⟨p, o, a', c', h1, h2, h3⟩ := h.cells.1 i r hr
  obtain ⟨q, s, rfl, _⟩ := h3 0 _ (List.getElem?_eq_getElem hp)
  refine ⟨p, o, h1, q, s, c', h2, fun k x hx => ?_⟩
  obtain ⟨q', s', h4, h5⟩ := h3 k x hx
  injection h4 with h4
  injection h4 with h4 h6
  subst h4; subst h6
  exact h5
theorem four_cells {w w' : World} {a0 b0 a1 b1 a2 b2 a3 b3 : Nat} {u0 u1 u2 u3 : Value} (hb : Below w.heap.size w w') (h0 : w.cell? ⟨a0, b0, none⟩ = some u0) (h1 : w.cell? ⟨a1, b1, none⟩ = some u1) (h2 : w.cell? ⟨a2, b2, none⟩ = some u2) (h3 : w.cell? ⟨a3, b3, none⟩ = some u3) :
    w'.cell? ⟨a0, b0, none⟩ = some u0 ∧ w'.cell? ⟨a1, b1, none⟩ = some u1 ∧ w'.cell? ⟨a2, b2, none⟩ = some u2 ∧ w'.cell? ⟨a3, b3, none⟩ = some u3 := ⟨old_cell hb h0, old_cell hb h1, old_cell hb h2, old_cell hb h3⟩
theorem take_snoc' {xs : List Int} {k : Nat} {x : Int} (h : xs[k]? = some x) : xs.take (k + 1) = xs.take k ++ [x] := by
  obtain ⟨hk, rfl⟩ := List.getElem?_eq_some_iff.1 h
  exact List.take_succ_eq_append_getElem hk
theorem addAll_old {l xs : List Int} {k : Nat} {x : Int} (h : xs[k]? = some x) (hm : x ∈ addAll l (xs.take k)) : addAll l (xs.take (k + 1)) = addAll l (xs.take k) := by
  rw [take_snoc' h, addAll_snoc, addTo_in hm]
theorem addAll_new {l xs : List Int} {k : Nat} {x : Int} (h : xs[k]? = some x) (hm : x ∉ addAll l (xs.take k)) : addAll l (xs.take (k + 1)) = addAll l (xs.take k) ++ [x] := by
  rw [take_snoc' h, addAll_snoc, addTo_new hm]
/-- What a round of the search starts from. -/
theorem round_facts {b : Int} {rows : List (List Int)} {out : List Int} (hv : IsSeq b rows out) {i : Nat} (hi : i < (reachI rows i).length) :
    ∃ (sn : Nat) (r : List Int), (reachI rows i)[i]? = some (sn : Int) ∧ sn < rows.length ∧ rows[sn]? = some r ∧ (r.length : Int) = b ∧ 0 < r.length ∧ r.length ≤ 4 ∧ (∀ x ∈ r, 0 ≤ x ∧ x < (rows.length : Int)) ∧ reachI rows (i + 1) = addAll (reachI rows i) r ∧ i < rows.length ∧ rows.length ≤ 16 := by
  have hc := hv.closed
  have h1 : (reachI rows i)[i]? = some (reachI rows i)[i] := List.getElem?_eq_getElem hi
  have h2 := (reachI_ok hc i).2 _ (List.getElem_mem hi)
  have h3 := rowOf_get h2.1 h2.2
  have h4 := hv.2.2.2.2.2.1 _ (rowOf_mem h2.1 h2.2)
  have h5 := hv.1
  have h6 := hv.2.1
  have h7 := reachI_len hc i
  refine ⟨(reachI rows i)[i].toNat, rowOf rows (reachI rows i)[i], by rw [h1]; congr 1; omega, by omega, h3, h4.1, by omega, by omega, h4.2, reachI_step h1, by omega, hv.2.2.2.1⟩
/-- What stands in the middle of a round. -/
theorem mid_facts {rows : List (List Int)} (hc : Closed rows) {i k : Nat} {r : List Int} (hr : ∀ x ∈ r, 0 ≤ x ∧ x < (rows.length : Int)) (hi : i < (reachI rows i).length) :
    (addAll (reachI rows i) (r.take k)).length ≤ rows.length ∧ i < (addAll (reachI rows i) (r.take k)).length := by
  refine ⟨nodup_bounded _ _ (addAll_nodup _ _ (reachI_ok hc i).1) fun x hx => ?_, ?_⟩
  · rcases (mem_addAll _ _ _).1 hx with h | h
    · exact (reachI_ok hc i).2 x h
    · exact hr x (List.mem_of_mem_take h)
  · exact Nat.lt_of_lt_of_le hi (addAll_prefix _ _).length_le

theorem spec_reach_no (v : Value) (b : Int) (rows : List (List Int)) (out : List Int) (w : World) (h : LiesS w v b rows out) (hq : seqB b rows out = false) :
    Calls Try.prog 13 #[v] w (Gives (Value.int .i64) 3 [] w) := by
  have HS := Lib.hid h
  obtain ⟨an, cn, ao, co, rfl⟩ := h.form
  clear h
  have HQ := Lib.hid hq
  have HB : Hid (Below w.heap.size w (w.alloc (Obj.cells #[Value.int .i64 b, Value.slice an rows.length cn, Value.slice ao out.length co] 27))) := (Below.refl _ _).alloc (Nat.le_refl _) _
  have HC := Lib.hid (Cells3.new w 27 (.int .i64 b) (.slice an rows.length cn) (.slice ao out.length co))
  obtain ⟨W, hW⟩ : ∃ W, W = (w.alloc (Obj.cells #[Value.int .i64 b, Value.slice an rows.length cn, Value.slice ao out.length co] 27)) := ⟨_, rfl⟩
  have HH : Hid (Has (Value.int .i64) 3 ((w.alloc (Obj.cells #[Value.int .i64 b, Value.slice an rows.length cn, Value.slice ao out.length co] 27)).alloc (.cells #[] 3)) w.heap.size (.slice (some ⟨(w.alloc (Obj.cells #[Value.int .i64 b, Value.slice an rows.length cn, Value.slice ao out.length co] 27)).heap.size, 0, none⟩) 0 0) []) := Has.lit (enc := Value.int .i64) _ [] HB.out.size (by simp)
  rw [size_alloc'] at HH
  have HB2 : Hid (Below w.heap.size w ((w.alloc (Obj.cells #[Value.int .i64 b, Value.slice an rows.length cn, Value.slice ao out.length co] 27)).alloc (.cells #[] 3))) := HB.out.alloc (by simp) _
  have HC2 := Lib.hid (HC.out.alloc (.cells #[] 3))
  have k0 := HC2.out.c0
  have k1 := HC2.out.c1
  have k2 := HC2.out.c2
  clear hq hW HB HC
  go_enter Try.func13, Try.ntmps13
  go_wp2_with fail
  refine (spec_is _ b rows out _ (HS.out.below HB2.out)).mono ?_
  rintro e W1 ⟨rfl, b1⟩
  rw [HQ.out]
  have HB3 := Lib.hid (HB2.out.trans (b1.mono HB2.out.size))
  have HH3 := Lib.hid (HH.out.below b1)
  clear b1
  go_wp2
  go_ret
  exact ⟨_, rfl, HH3.out, HB3.out⟩
set_option maxHeartbeats 1000000 in
theorem spec_reach_yes (v : Value) (b : Int) (rows : List (List Int)) (out : List Int) (w : World) (h : LiesS w v b rows out) (hq : seqB b rows out = true) :
    Calls Try.prog 13 #[v] w (Gives (Value.int .i64) 3 (reached rows) w) := by
  obtain ⟨i0, hi, hz0, hz1, hz2⟩ := info_parts Ints.infoI
  have HS := Lib.hid h
  obtain ⟨an, cn, ao, co, rfl⟩ := h.form
  clear h
  have HB : Hid (Below w.heap.size w (w.alloc (Obj.cells #[Value.int .i64 b, Value.slice an rows.length cn, Value.slice ao out.length co] 27))) := (Below.refl _ _).alloc (Nat.le_refl _) _
  have HC := Lib.hid (Cells3.new w 27 (.int .i64 b) (.slice an rows.length cn) (.slice ao out.length co))
  have HQ := Lib.hid hq
  have HV := Lib.hid (seqB_out hq)
  clear hq
  have hN : rows.length ≤ 16 := HV.out.2.2.2.1
  have HH : Hid (Has (Value.int .i64) 3 ((w.alloc (Obj.cells #[Value.int .i64 b, Value.slice an rows.length cn, Value.slice ao out.length co] 27)).alloc (.cells #[] 3)) (w.heap.size + 1) (.slice (some ⟨w.heap.size + 1, 0, none⟩) 0 0) []) := by
    have h1 := Has.lit (enc := Value.int .i64) (e := 3) (base := w.heap.size + 1) (w.alloc (Obj.cells #[Value.int .i64 b, Value.slice an rows.length cn, Value.slice ao out.length co] 27)) [] (by simp) (by simp)
    rw [size_alloc'] at h1
    exact h1
  have HB2 : Hid (Below w.heap.size w ((w.alloc (Obj.cells #[Value.int .i64 b, Value.slice an rows.length cn, Value.slice ao out.length co] 27)).alloc (.cells #[] 3))) := HB.out.alloc (by simp) _
  have HC2 := Lib.hid (HC.out.alloc (.cells #[] 3))
  have HZ2 : Hid (w.heap.size + 1 ≤ ((w.alloc (Obj.cells #[Value.int .i64 b, Value.slice an rows.length cn, Value.slice ao out.length co] 27)).alloc (.cells #[] 3)).heap.size) := by show _ ≤ _; simp
  have k0 := HC2.out.c0
  have k1 := HC2.out.c1
  have k2 := HC2.out.c2
  clear HB HC
  go_enter Try.func13, Try.ntmps13
  go_wp2_with fail
  refine (spec_is _ b rows out _ (HS.out.below HB2.out)).mono ?_
  rintro e W1 ⟨rfl, b1⟩
  rw [HQ.out]
  have HB3 := Lib.hid (HB2.out.trans (b1.mono HB2.out.size))
  have HH3 := Lib.hid (HH.out.below b1)
  have HC3 := Lib.hid (HC2.out.below b1)
  have HZ3 := Lib.hid (Nat.le_trans HZ2.out b1.size)
  clear b1 HB2 HH HC2 HZ2 k0 k1 k2
  go_wp2_with (at_builtin; refine append_one (enc := Value.int .i64) (e := 3) W1 rfl _ _ 25 rfl (w.heap.size + 1) i0 (.int .i64 0) 8 Try.underlying25 hi hz0 hz1 hz2 rfl (Value.slice (some ⟨w.heap.size + 1, 0, none⟩) 0 0) [] rfl HH3.out 0 rfl (fun _ => rfl) (by simp) (by simp) HZ3.out ?_; intro v' w' hown' hgrow')
  have hB4 : Hid (Below w.heap.size w w') := HH3.out.frame HB3.out (Nat.le_succ _) hgrow'
  have hC4 := Lib.hid (HC3.out.grown hgrow' (fun e => by have := (HH3.out.lt _ e).1; omega))
  have hO4 : Hid (Has (Value.int .i64) 3 w' (w.heap.size + 1) v' (reachI rows 0)) := hown'
  have hZ4 := Lib.hid (Nat.le_trans HZ3.out hgrow'.size)
  clear hown' hgrow' HB3 HH3 HC3 HZ3
  go_wp2_with fail
  go_loopw [3, 4] (fun o' i' wr => ∃ i : Nat, i ≤ (reachI rows i).length ∧ i' = .int .i64 i ∧ Hid (Has (Value.int .i64) 3 wr (w.heap.size + 1) o' (reachI rows i)) ∧ Hid (Cells3 wr w.heap.size 27 (.int .i64 b) (.slice an rows.length cn) (.slice ao out.length co)) ∧ Hid (Below w.heap.size w wr) ∧ Hid (w.heap.size + 1 ≤ wr.heap.size)) (fun _ i' _ => rows.length - (intOf i').toNat)
  case atStart => exact ⟨0, Nat.zero_le _, rfl, hO4, hC4, hB4, hZ4⟩
  case round =>
    obtain ⟨i, hil, rfl, hown, hC, hB, hZ⟩ := hrel
    by_cases hlt : i < (reachI rows i).length
    case neg =>
      have HE := Lib.hid (reachI_end HV.out.closed (i := i) (by omega))
      have hd : decide ((i : Int) < ((reachI rows i).length : Int)) = false := decide_eq_false (by omega)
      have HX : Hid (Has (Value.int .i64) 3 wr w.heap.size u3 (reached rows)) := by rw [← HE.out]; exact hown.out.mono (Nat.le_succ _)
      obtain ⟨oa, oc, rfl, _⟩ := hown.out.form
      go_wp2
      go_ret
      exact ⟨_, rfl, HX.out, hB.out⟩
    case pos =>
      obtain ⟨sn, r, hs, hsn, hr, hrb, hr0, hr4, hrB, hst, hi1, _⟩ := round_facts HV.out hlt
      have HS1 := Lib.hid hs
      have HR := Lib.hid hr
      have HRB := Lib.hid hrB
      have HST := Lib.hid hst
      have HRBL := Lib.hid hrb
      clear hs hr hrB hst hrb
      obtain ⟨oa, oc, rfl, _⟩ := hown.out.form
      have hd0 : decide ((i : Int) < ((reachI rows i).length : Int)) = true := decide_eq_true (by omega)
      go_wp2
      go_loopw [3, 5] (fun o' k' wr => ∃ k : Nat, k ≤ r.length ∧ k' = .int .i64 k ∧ Hid (Has (Value.int .i64) 3 wr (w.heap.size + 1) o' (addAll (reachI rows i) (r.take k))) ∧ Hid (Cells3 wr w.heap.size 27 (.int .i64 b) (.slice an rows.length cn) (.slice ao out.length co)) ∧ Hid (Below w.heap.size w wr) ∧ Hid (w.heap.size + 1 ≤ wr.heap.size)) (fun _ k' _ => r.length - (intOf k').toNat)
      case atStart => exact ⟨0, Nat.zero_le _, rfl, hown, hC, hB, hZ⟩
      case round =>
        clear hown hC hB hZ
        obtain ⟨k, hk, rfl, hown, hC, hB, hZ⟩ := hrel
        by_cases hlk : k < r.length
        case neg =>
          have HT : Hid (reachI rows (i + 1) = addAll (reachI rows i) (r.take k)) := by show _ = _; rw [HST.out, List.take_of_length_le (by omega)]
          have hdb : decide ((k : Int) < b) = false := decide_eq_false (by have := HRBL.out; omega)
          have hm := mid_facts HV.out.closed (i := i) (k := k) HRB.out hlt
          have hH : Has (Value.int .i64) 3 wr (w.heap.size + 1) u3 (reachI rows (i + 1)) := by rw [HT.out]; exact hown.out
          have HH := Lib.hid hH
          have hle : i + 1 ≤ (reachI rows (i + 1)).length := by rw [HT.out]; exact hm.2
          clear hm hH
          have k0 := hC.out.c0
          have k1 := hC.out.c1
          have k2 := hC.out.c2
          go_wp2
          go_roundw
          case rel => exact ⟨i + 1, hle, by go_num, HH, hC, hB, hZ⟩
          case measure => simp [intOf]; omega
        case pos =>
          obtain ⟨x, hx⟩ : ∃ x, r[k]? = some x := ⟨_, List.getElem?_eq_getElem hlk⟩
          have HX := Lib.hid hx
          have hdb : decide ((k : Int) < b) = true := decide_eq_true (by have := HRBL.out; omega)
          clear hx
          have hm := mid_facts HV.out.closed (i := i) (k := k) HRB.out hlt
          have HM := Lib.hid (hm.1)
          have hml : (addAll (reachI rows i) (r.take k)).length ≤ 16 := by have := HM.out; omega
          have hmi : i < (addAll (reachI rows i) (r.take k)).length := hm.2
          have hmi2 : (i : Int) < ((addAll (reachI rows i) (r.take k)).length : Int) := by omega
          clear hm
          obtain ⟨q0, s0, c0, rfl, hoc⟩ := ints_at hown.out.lies (by omega)
          have o1 := hoc i _ (addAll_get HS1.out)
          obtain ⟨pa, off, hpa, q, s, c, o2, hcl⟩ := seq_row (HS.out.below hB.out) HR.out hr0
          subst hpa
          have o3 := hcl k x HX.out
          clear hoc hcl
          have k0 := hC.out.c0
          have k1 := hC.out.c1
          have k2 := hC.out.c2
          by_cases hin : x ∈ addAll (reachI rows i) (r.take k)
          · have HE := Lib.hid (addAll_old HX.out hin)
            have HI := Lib.hid (inB_yes hin)
            clear hin
            go_wp2
            go_quiet ((go_at_call 33; exact has_quiet hown.out.lies HI.out))
            have HBD := Lib.hid (below_drewN (Below.refl wr.heap.size wr) nq)
            have hC2 := Lib.hid (hC.out.below HBD.out)
            have hB2 := Lib.hid (hB.out.trans (HBD.out.mono hB.out.size))
            have hO2 : Hid (Has (Value.int .i64) 3 (wr.drewN nq) (w.heap.size + 1) (.slice (some ⟨q0, s0, none⟩) (addAll (reachI rows i) (r.take k)).length c0) (addAll (reachI rows i) (r.take (k + 1)))) := by
              show Has _ _ _ _ _ _
              rw [HE.out]
              exact hown.out.below HBD.out
            go_wp2
            go_roundw
            case rel => exact ⟨k + 1, by omega, by go_num, hO2, hC2, hB2, hZ⟩
            case measure => simp [intOf]; omega
          · have HE := Lib.hid (addAll_new HX.out hin)
            have HI := Lib.hid (inB_no hin)
            clear hin
            go_wp2
            go_quiet ((go_at_call 33; exact has_quiet hown.out.lies HI.out))
            have HBD := Lib.hid (below_drewN (Below.refl wr.heap.size wr) nq)
            have p1 := Lib.hid (old_cell HBD.out k1)
            have p2 := Lib.hid (old_cell HBD.out o1)
            have p3 := Lib.hid (old_cell HBD.out o2)
            have p4 := Lib.hid (old_cell HBD.out o3)
            have hO2 := Lib.hid (hown.out.below HBD.out)
            have hC2 := Lib.hid (hC.out.below HBD.out)
            have hB2 := Lib.hid (hB.out.trans (HBD.out.mono hB.out.size))
            have hZ2 := Lib.hid (Nat.le_trans hZ.out HBD.out.size)
            go_wp2_with fail
            obtain ⟨W2, hW2⟩ : ∃ W, W = wr.drewN nq := ⟨_, rfl⟩
            rw [← hW2] at p1 p2 p3 p4 hO2 hC2 hB2 hZ2 ⊢
            clear hW2 HBD k0 k1 k2 o1 o2 o3 hown hC hB hZ
            have r1 := p1.out
            have r2 := p2.out
            have r3 := p3.out
            have r4 := p4.out
            go_region_law
              ((refine step_append_list (enc := Value.int .i64) (e := 3) rfl (.tmp 40) (.tmp 52) 25 rfl (w.heap.size + 1) i0 (.int .i64 0) 8 Try.underlying25 hi hz0 hz1 hz2 rfl (Value.slice (some ⟨q0, s0, none⟩) (addAll (reachI rows i) (r.take k)).length c0) (addAll (reachI rows i) (r.take k)) rfl (by repeat (first | with_reducible exact hO2.out | with_reducible apply has_drew | with_reducible apply has_alloc)) (Value.slice (some ⟨_, 0, none⟩) 1 1) [x] rfl (by repeat (first | with_reducible apply lies_drew | (with_reducible refine lies_lit1 (enc := Value.int .i64) _ rfl) | with_reducible apply lies_alloc)) (fun _ _ => rfl) (by simp only [List.length_cons, List.length_nil]; omega) (by simp only [List.length_cons, List.length_nil]; omega) (by have := hZ2.out; simp; omega) ?_; intro vo w1 ho hg; refine with_fact (T := W2.grownBy w1 (some q0)) ?_ ?_; (focus (first | exact grown_alloc (grown_drew hg) | exact grown_alloc hg)); intro hg1))
            all_goals
              have hO3 : Hid (Has (Value.int .i64) 3 w1 (w.heap.size + 1) vo (addAll (reachI rows i) (r.take (k + 1)))) := by
                show Has _ _ _ _ _ _
                rw [HE.out]
                exact ho
              have hq0 := hO2.out.lt q0 rfl
              have hC3 := Lib.hid (hC2.out.grown hg1 (by simp; omega))
              have hB3 := Lib.hid (hB2.out.grown hg1 hB2.out.size (fun k hk => by cases hk; omega))
              have hZ3 := Lib.hid (Nat.le_trans hZ2.out hg1.size)
              clear hg hg1 ho hq0 r1 r2 r3 r4
              go_wp2
              go_roundw
              case rel => exact ⟨k + 1, by omega, by go_num, hO3, hC3, hB3, hZ3⟩
              case measure => simp [intOf]; omega
theorem impl_reach_no (v : Value) (b : Int) (rows : List (List Int)) (out : List Int) (w : World) (h : LiesS w v b rows out) (hq : seqB b rows out = false) :
    Calls Try.prog 12 #[v] w (Gives (Value.int .i64) 3 [] w) := by
  have HS := Lib.hid h
  obtain ⟨an, cn, ao, co, rfl⟩ := h.form
  clear h
  have HB : Hid (Below w.heap.size w (w.alloc (Obj.cells #[Value.int .i64 b, Value.slice an rows.length cn, Value.slice ao out.length co] 27))) := (Below.refl _ _).alloc (Nat.le_refl _) _
  have HC := Lib.hid (Cells3.new w 27 (.int .i64 b) (.slice an rows.length cn) (.slice ao out.length co))
  have HQ := Lib.hid hq
  have k0 := HC.out.c0
  have k1 := HC.out.c1
  have k2 := HC.out.c2
  clear hq HC
  go_enter Try.func12, Try.ntmps12
  go_wp2_with fail
  refine (impl_is _ b rows out _ (HS.out.below HB.out)).mono ?_
  rintro e W1 ⟨rfl, b1⟩
  rw [HQ.out]
  have HB3 := Lib.hid (HB.out.trans (b1.mono HB.out.size))
  clear b1
  go_wp2
  go_ret
  exact ⟨_, rfl, World.ownsRow_nil _ _ _ _, HB3.out⟩
set_option maxHeartbeats 1000000 in
theorem impl_reach_yes (v : Value) (b : Int) (rows : List (List Int)) (out : List Int) (w : World) (h : LiesS w v b rows out) (hq : seqB b rows out = true) :
    Calls Try.prog 12 #[v] w (Gives (Value.int .i64) 3 (reached rows) w) := by
  obtain ⟨i0, hi, hz0, hz1, hz2⟩ := info_parts Ints.infoI
  have HS := Lib.hid h
  obtain ⟨an, cn, ao, co, rfl⟩ := h.form
  clear h
  have HB : Hid (Below w.heap.size w (w.alloc (Obj.cells #[Value.int .i64 b, Value.slice an rows.length cn, Value.slice ao out.length co] 27))) := (Below.refl _ _).alloc (Nat.le_refl _) _
  have HC := Lib.hid (Cells3.new w 27 (.int .i64 b) (.slice an rows.length cn) (.slice ao out.length co))
  have HQ := Lib.hid hq
  have HV := Lib.hid (seqB_out hq)
  clear hq
  have hN : rows.length ≤ 16 := HV.out.2.2.2.1
  have k0 := HC.out.c0
  have k1 := HC.out.c1
  have k2 := HC.out.c2
  go_enter Try.func12, Try.ntmps12
  go_wp2_with fail
  refine (impl_is _ b rows out _ (HS.out.below HB.out)).mono ?_
  rintro e W1 ⟨rfl, b1⟩
  rw [HQ.out]
  have HB3 := Lib.hid (HB.out.trans (b1.mono HB.out.size))
  have HC3 := Lib.hid (HC.out.below b1)
  have HZ3 : Hid (w.heap.size + 1 ≤ W1.heap.size) := by
    have := b1.size
    rw [size_alloc'] at this
    exact this
  have hO4 : Hid (Has (Value.int .i64) 3 (W1.alloc (.cells #[.int .i64 0] 3)) (w.heap.size + 1) (.slice (some ⟨W1.heap.size, 0, none⟩) 1 1) (reachI rows 0)) := has_lit1 (enc := Value.int .i64) 0 rfl HZ3.out
  have hB4 : Hid (Below w.heap.size w (W1.alloc (.cells #[.int .i64 0] 3))) := HB3.out.alloc HB3.out.size _
  have hC4 := Lib.hid (HC3.out.alloc (.cells #[.int .i64 0] 3))
  have hZ4 : Hid (w.heap.size + 1 ≤ (W1.alloc (.cells #[.int .i64 0] 3)).heap.size) := by have := HZ3.out; show _ ≤ _; simp; omega
  clear b1 HB HC k0 k1 k2 HB3 HC3 HZ3
  go_wp2_with fail
  go_loopw [3, 4] (fun o' i' wr => ∃ i : Nat, i ≤ (reachI rows i).length ∧ i' = .int .i64 i ∧ Hid (Has (Value.int .i64) 3 wr (w.heap.size + 1) o' (reachI rows i)) ∧ Hid (Cells3 wr w.heap.size 27 (.int .i64 b) (.slice an rows.length cn) (.slice ao out.length co)) ∧ Hid (Below w.heap.size w wr) ∧ Hid (w.heap.size + 1 ≤ wr.heap.size)) (fun _ i' _ => rows.length - (intOf i').toNat)
  case atStart => exact ⟨0, Nat.zero_le _, rfl, hO4, hC4, hB4, hZ4⟩
  case round =>
    obtain ⟨i, hil, rfl, hown, hC, hB, hZ⟩ := hrel
    by_cases hlt : i < (reachI rows i).length
    case neg =>
      have HE := Lib.hid (reachI_end HV.out.closed (i := i) (by omega))
      have hd : decide ((i : Int) < ((reachI rows i).length : Int)) = false := decide_eq_false (by omega)
      have HX : Hid (Has (Value.int .i64) 3 wr w.heap.size u3 (reached rows)) := by rw [← HE.out]; exact hown.out.mono (Nat.le_succ _)
      obtain ⟨oa, oc, rfl, _⟩ := hown.out.form
      go_wp2
      go_ret
      exact ⟨_, rfl, HX.out, hB.out⟩
    case pos =>
      obtain ⟨sn, r, hs, hsn, hr, hrb, hr0, hr4, hrB, hst, hi1, _⟩ := round_facts HV.out hlt
      have HS1 := Lib.hid hs
      have HR := Lib.hid hr
      have HRB := Lib.hid hrB
      have HST := Lib.hid hst
      have HRBL := Lib.hid hrb
      clear hs hr hrB hst hrb
      obtain ⟨q0, s0, c0, rfl, hoc⟩ := ints_at hown.out.lies (by omega)
      have o1 := hoc i _ HS1.out
      obtain ⟨pa, off, hpa, q, s, c, o2', hcl⟩ := seq_row HS.out HR.out hr0
      have o2 := old_cell hB.out o2'
      have HCL := Lib.hid hcl
      clear hoc hcl o2'
      have hd0 : decide ((i : Int) < ((reachI rows i).length : Int)) = true := decide_eq_true (by omega)
      have k0 := hC.out.c0
      have k1 := hC.out.c1
      have k2 := hC.out.c2
      rw [hpa] at k1
      clear hpa
      go_wp2
      go_quiet (fail)
      have HBD := Lib.hid (below_drewN (Below.refl wr.heap.size wr) nq)
      have hC2 := Lib.hid (hC.out.below HBD.out)
      have hB2 := Lib.hid (hB.out.trans (HBD.out.mono hB.out.size))
      have hO2 := Lib.hid (hown.out.below HBD.out)
      have hZ2 := Lib.hid (Nat.le_trans hZ.out HBD.out.size)
      go_wp2_with fail
      obtain ⟨W2, hW2⟩ : ∃ W, W = wr.drewN nq := ⟨_, rfl⟩
      rw [← hW2] at hO2 hC2 hB2 hZ2 ⊢
      clear hW2 HBD k0 k1 k2 o1 o2 hown hC hB hZ
      go_loopw [3, 26] (fun o' k' wr => ∃ k : Nat, k ≤ r.length ∧ k' = .int .i64 k ∧ Hid (Has (Value.int .i64) 3 wr (w.heap.size + 1) o' (addAll (reachI rows i) (r.take k))) ∧ Hid (Cells3 wr w.heap.size 27 (.int .i64 b) (.slice an rows.length cn) (.slice ao out.length co)) ∧ Hid (Below w.heap.size w wr) ∧ Hid (w.heap.size + 1 ≤ wr.heap.size)) (fun _ k' _ => r.length - (intOf k').toNat)
      case atStart => exact ⟨0, Nat.zero_le _, rfl, hO2, hC2, hB2, hZ2⟩
      case round =>
        clear hO2 hC2 hB2 hZ2
        obtain ⟨k, hk, rfl, hown, hC, hB, hZ⟩ := hrel
        by_cases hlk : k < r.length
        case neg =>
          have HT : Hid (reachI rows (i + 1) = addAll (reachI rows i) (r.take k)) := by show _ = _; rw [HST.out, List.take_of_length_le (by omega)]
          have hm := mid_facts HV.out.closed (i := i) (k := k) HRB.out hlt
          have hH : Has (Value.int .i64) 3 wr (w.heap.size + 1) u3 (reachI rows (i + 1)) := by rw [HT.out]; exact hown.out
          have HH := Lib.hid hH
          have hle : i + 1 ≤ (reachI rows (i + 1)).length := by rw [HT.out]; exact hm.2
          clear hm hH
          go_wp2
          go_roundw
          case rel => exact ⟨i + 1, hle, by go_num, HH, hC, hB, hZ⟩
          case measure => simp [intOf]; omega
        case pos =>
          obtain ⟨x, hx⟩ : ∃ x, r[k]? = some x := ⟨_, List.getElem?_eq_getElem hlk⟩
          have HX := Lib.hid hx
          clear hx
          have hm := mid_facts HV.out.closed (i := i) (k := k) HRB.out hlt
          have hml : (addAll (reachI rows i) (r.take k)).length ≤ 16 := by have := hm.1; omega
          clear hm
          have o3 := old_cell hB.out (HCL.out k x HX.out)
          by_cases hin : x ∈ addAll (reachI rows i) (r.take k)
          · have HE := Lib.hid (addAll_old HX.out hin)
            have HI := Lib.hid (inB_yes hin)
            clear hin
            obtain ⟨oa, oc, rfl, _⟩ := hown.out.form
            go_wp2_with (go_at_call 31; refine (impl_has _ _ _ _ hown.out.lies _ HI.out).mono ?_; rintro e w' ⟨rfl, rfl⟩)
            have hO2 : Hid (Has (Value.int .i64) 3 wr (w.heap.size + 1) (.slice oa (addAll (reachI rows i) (r.take k)).length oc) (addAll (reachI rows i) (r.take (k + 1)))) := by
              show Has _ _ _ _ _ _
              rw [HE.out]
              exact hown.out
            go_roundw
            case rel => exact ⟨k + 1, by omega, by go_num, hO2, hC, hB, hZ⟩
            case measure => simp [intOf]; omega
          · have HE := Lib.hid (addAll_new HX.out hin)
            have HI := Lib.hid (inB_no hin)
            clear hin
            go_wp2_with (first | (go_at_call 31; refine (impl_has _ _ _ _ hown.out.lies _ HI.out).mono ?_; rintro e w' ⟨rfl, rfl⟩) | (at_builtin; refine append_one (enc := Value.int .i64) (e := 3) wr rfl _ _ 25 rfl (w.heap.size + 1) i0 (.int .i64 0) 8 Try.underlying25 hi hz0 hz1 hz2 rfl u3 (addAll (reachI rows i) (r.take k)) rfl hown.out x rfl (fun _ => rfl) (by omega) (by omega) hZ.out ?_; intro v' w' hown' hgrow'))
            have hB4 : Hid (Below w.heap.size w w') := hown.out.frame hB.out (Nat.le_succ _) hgrow'
            have hC4 := Lib.hid (hC.out.grown hgrow' (fun e => by have := (hown.out.lt _ e).1; omega))
            have hO4 : Hid (Has (Value.int .i64) 3 w' (w.heap.size + 1) v' (addAll (reachI rows i) (r.take (k + 1)))) := by show Has _ _ _ _ _ _; rw [HE.out]; exact hown'
            have hZ4 := Lib.hid (Nat.le_trans hZ.out hgrow'.size)
            clear hown' hgrow' hown hC hB hZ o3
            go_wp2
            go_roundw
            case rel => exact ⟨k + 1, by omega, by go_num, hO4, hC4, hB4, hZ4⟩
            case measure => simp [intOf]; omega
theorem reach_ends {b : Int} {rows : List (List Int)} {out : List Int} : (reachV b rows out).length ≤ 16 := by
  unfold reachV
  split
  · rename_i h
    have hv := seqB_out h
    have := reached_len hv.closed
    have := hv.2.2.2.1
    omega
  · simp
theorem spec_reach (v : Value) (b : Int) (rows : List (List Int)) (out : List Int) (w : World) (h : LiesS w v b rows out) : Calls Try.prog 13 #[v] w (Gives (Value.int .i64) 3 (reachV b rows out) w) := by
  cases hq : seqB b rows out with
  | false => rw [reachV, if_neg (by simp [hq])]; exact spec_reach_no v b rows out w h hq
  | true => rw [reachV, if_pos hq]; exact spec_reach_yes v b rows out w h hq
theorem impl_reach (v : Value) (b : Int) (rows : List (List Int)) (out : List Int) (w : World) (h : LiesS w v b rows out) : Calls Try.prog 12 #[v] w (Gives (Value.int .i64) 3 (reachV b rows out) w) := by
  cases hq : seqB b rows out with
  | false => rw [reachV, if_neg (by simp [hq])]; exact impl_reach_no v b rows out w h hq
  | true => rw [reachV, if_pos hq]; exact impl_reach_yes v b rows out w h hq
end Mins
end Go.Proofs.Ytpndclpmhelikaa
/- A struct or an array of one-cell values that lies in a block of its own, told as a list: what it holds, and what stays of it. No conditions beyond those that each fact states. -/
namespace Go.Proofs.Ytpndclpmhelikaa.Plain
open Go.RowKit
set_option linter.unusedVariables false
/-- Block b holds these cells. -/
structure CellsN (w : World) (b : Nat) (t : TypeId) (l : List Value) : Prop where
  row : w.heap[b]? = some (.cells l.toArray t (0, 0))
section
variable {w w' : World} {b : Nat} {t : TypeId} {l : List Value}
theorem CellsN.at_ (h : CellsN w b t l) {i : Nat} {x : Value} (hi : l[i]? = some x) : w.cell? ⟨b, i, none⟩ = some x := by simp [World.cell?, h.row, hi]
theorem CellsN.f (h : CellsN w b t l) (o : Nat) : w.frozen? ⟨b, o, none⟩ = false := frozen_of_row w b o _ t h.row
theorem CellsN.lt (h : CellsN w b t l) : b < w.heap.size := by
  have h1 := h.row
  rw [Array.getElem?_eq_some_iff] at h1
  exact h1.1
theorem CellsN.new (w : World) (t : TypeId) (l : List Value) : CellsN (w.alloc (.cells l.toArray t)) w.heap.size t l := ⟨heap_alloc_new w _⟩
theorem CellsN.below (h : CellsN w b t l) (hb : Below w.heap.size w w') : CellsN w' b t l := ⟨(hb.block b h.lt).trans h.row⟩
theorem CellsN.of_below {B : Nat} (h : CellsN w b t l) (hb : Below B w w') (hB : b < B) : CellsN w' b t l := ⟨(hb.block b hB).trans h.row⟩
theorem CellsN.alloc (h : CellsN w b t l) (o : Obj) : CellsN (w.alloc o) b t l := h.below ((Below.refl _ _).alloc (Nat.le_refl _) _)
theorem CellsN.drew (h : CellsN w b t l) : CellsN w.drew b t l := ⟨h.row⟩
theorem CellsN.set (h : CellsN w b t l) (i : Nat) (v : Value) : CellsN (w.setCell ⟨b, i, none⟩ v) b t (l.set i v) := by
  have hlt := h.lt
  have h' : w.heap[b] = .cells l.toArray t (0, 0) := by simpa [Array.getElem?_eq_getElem hlt] using h.row
  refine ⟨?_⟩
  show (w.heap.modify b _)[b]? = _
  rw [Array.getElem?_eq_getElem (by simpa using hlt), Array.getElem_modify_self, h']
  simp
theorem CellsN.other (h : CellsN w b t l) {a : Addr} (ha : a.block ≠ b) (v : Value) : CellsN (w.setCell a v) b t l := by
  refine ⟨?_⟩
  rw [← h.row]
  simp [World.setCell, Array.getElem?_modify, ha]
theorem CellsN.grown {row : Option Nat} (h : CellsN w b t l) (hg : w.grownBy w' row) (hn : row ≠ some b) : CellsN w' b t l := ⟨(hg.block b h.lt (Ne.symm hn)).trans h.row⟩
end
end Go.Proofs.Ytpndclpmhelikaa.Plain
