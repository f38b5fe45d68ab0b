/- Contracts of FirstDifference, of the program and of the model. No conditions beyond those that each states. -/
import Derived.Test.YtdnfgbdfnndlnaaSeqPref
import Derived.Test.YtdnfgbdfnndlnaaSeqs2
import Derived.Deep.RegionHeld3
namespace Go.Proofs.Ytdnfgbdfnndlnaa
open Go.ChangeShapes Go.WideShapes Go.ChangeAt Go.RowKit
open Go.PlainAid Plain
set_option linter.unusedVariables false
namespace Mins
open Seqs Digits
/-- The first number before 2000 whose terms differ. -/
def diffAt (b : Int) (rows : List (List Int)) (out : List Int) (rows' : List (List Int)) (out' : List Int) : Option Nat := (List.range 2000).find? fun n => decide (¬ termG b rows out n = termG b rows' out' n)
def diffOK (b b' : Int) (rows rows' : List (List Int)) (out out' : List Int) : Bool := seqB b rows out && seqB b' rows' out' && decide (b = b')
def diffV (b b' : Int) (rows rows' : List (List Int)) (out out' : List Int) : Int := if diffOK b b' rows rows' out out' = true then ((diffAt b rows out rows' out').getD 0 : Nat) else 0
def diffK (b b' : Int) (rows rows' : List (List Int)) (out out' : List Int) : Bool := diffOK b b' rows rows' out out' && (diffAt b rows out rows' out').isSome
theorem range_find {p : Nat → Bool} {n m : Nat} (h : m < n) (hp : p m = true) (hn : ∀ j < m, p j = false) : (List.range n).find? p = some m := by
  rw [List.find?_range_eq_some]
  exact ⟨hp, List.mem_range.2 h, fun j hj => by simp [hn j hj]⟩
theorem diffAt_some {b : Int} {rows rows' : List (List Int)} {out out' : List Int} {m : Nat} (h : m < 2000) (hp : ¬ termG b rows out m = termG b rows' out' m) (hn : ∀ j < m, termG b rows out j = termG b rows' out' j) : diffAt b rows out rows' out' = some m :=
  range_find h (decide_eq_true hp) fun j hj => decide_eq_false fun h => h (hn j hj)
theorem diffAt_none {b : Int} {rows rows' : List (List Int)} {out out' : List Int} (hn : ∀ j < 2000, termG b rows out j = termG b rows' out' j) : diffAt b rows out rows' out' = none := by
  rw [diffAt, List.find?_eq_none]
  intro j hj
  simp [hn j (List.mem_range.1 hj)]
theorem ask_small' {b : Int} {rows : List (List Int)} {out : List Int} (h : seqB b rows out = true) (i : Nat) (hi : i ≤ 4000) : termV b rows out (i : Int) = termG b rows out i := by
  have hb := seqB_out h
  have h2 : (i : Int) < powV b 16 := by
    obtain ⟨n, rfl⟩ := Int.eq_ofNat_of_zero_le (show 0 ≤ b by have := hb.1; omega)
    have hn := hb.1
    rw [powV_in n (by omega) (by have := hb.2.1; omega)]
    have h3 : 2 ^ 16 ≤ n ^ 16 := Nat.pow_le_pow_left (by omega) 16
    have h4 : (2 : Nat) ^ 16 = 65536 := by decide
    omega
  rw [termV, if_pos (by simp [askB, h, h2])]
  rfl
theorem ret_nb {m m' : Int} {c c' : Bool} (h1 : m = m') (h2 : c = c') : Ending.returned (.tuple #[.int .i64 m, .bool c]) = .returned (.tuple #[.int .i64 m', .bool c']) := by rw [h1, h2]
theorem six {w1 : World} {b1 b2 : Nat} {t : TypeId} {x y z x' y' z' : Value} (h1 : Cells3 w1 b1 t x y z) (h2 : Cells3 w1 b2 t x' y' z') :
    w1.cell? ⟨b1, 0, none⟩ = some x ∧ w1.cell? ⟨b1, 1, none⟩ = some y ∧ w1.cell? ⟨b1, 2, none⟩ = some z ∧ w1.cell? ⟨b2, 0, none⟩ = some x' ∧ w1.cell? ⟨b2, 1, none⟩ = some y' ∧ w1.cell? ⟨b2, 2, none⟩ = some z' := ⟨h1.c0, h1.c1, h1.c2, h2.c0, h2.c1, h2.c2⟩
set_option maxHeartbeats 1000000 in
theorem spec_diff_no (u v : Value) (b b' : Int) (rows rows' : List (List Int)) (out out' : List Int) (w : World) (h1 : LiesS w u b rows out) (h2 : LiesS w v b' rows' out') (hno : diffOK b b' rows rows' out out' = false) :
    Calls Try.prog 25 #[u, v] w fun e w' => e = .returned (.tuple #[.int .i64 (diffV b b' rows rows' out out'), .bool (diffK b b' rows rows' out out')]) ∧ Below w.heap.size w w' := by
  have HNO := Lib.hid hno
  have HS := Lib.hid h1
  have HS' := Lib.hid h2
  obtain ⟨an, cn, ao, co, rfl⟩ := h1.form
  obtain ⟨an', cn', ao', co', rfl⟩ := h2.form
  clear h1 h2
  have HB : Hid (Below w.heap.size w ((w.alloc (Obj.cells #[Value.int .i64 b, Value.slice an rows.length cn, Value.slice ao out.length co] 28)).alloc (Obj.cells #[Value.int .i64 b', Value.slice an' rows'.length cn', Value.slice ao' out'.length co'] 28))) := ((Below.refl _ _).alloc (Nat.le_refl _) _).alloc (by simp) _
  have hC' := Cells3.new (w.alloc (Obj.cells #[Value.int .i64 b, Value.slice an rows.length cn, Value.slice ao out.length co] 28)) 28 (.int .i64 b') (.slice an' rows'.length cn') (.slice ao' out'.length co')
  rw [size_alloc'] at hC'
  have HC := Lib.hid ((Cells3.new w 28 (.int .i64 b) (.slice an rows.length cn) (.slice ao out.length co)).alloc (Obj.cells #[Value.int .i64 b', Value.slice an' rows'.length cn', Value.slice ao' out'.length co'] 28))
  have HC' := Lib.hid hC'
  clear hC'
  have HV : Hid (diffV b b' rows rows' out out' = 0 ∧ diffK b b' rows rows' out out' = false) := by
    show _ ∧ _
    simp only [diffV, diffK, HNO.out]
    exact ⟨rfl, rfl⟩
  simp only [diffOK, Bool.and_eq_false_iff, decide_eq_false_iff_not] at hno
  have k0 := HC.out.c0
  have k1 := HC.out.c1
  have k2 := HC.out.c2
  have k3 := HC'.out.c0
  have k4 := HC'.out.c1
  have k5 := HC'.out.c2
  cases hq : seqB b rows out with
  | false =>
    have HQ := Lib.hid hq
    clear hq hno
    go_enter Try.func25, Try.ntmps25
    go_wp2_with fail
    refine (spec_is _ b rows out _ (HS.out.below HB.out)).mono ?_
    rintro e W1 ⟨rfl, b1⟩
    rw [HQ.out]
    have HB1 := Lib.hid (HB.out.trans (b1.mono HB.out.size))
    clear b1
    go_wp2
    go_ret2
    exact ⟨ret_nb HV.out.1.symm HV.out.2.symm, HB1.out⟩
  | true =>
    have HQ := Lib.hid hq
    cases hq' : seqB b' rows' out' with
    | false =>
      have HQ' := Lib.hid hq'
      clear hq hno hq'
      go_enter Try.func25, Try.ntmps25
      go_wp2_with fail
      refine (spec_is _ b rows out _ (HS.out.below HB.out)).mono ?_
      rintro e W1 ⟨rfl, b1⟩
      rw [HQ.out]
      have HB1 := Lib.hid (HB.out.trans (b1.mono HB.out.size))
      have HC1 := Lib.hid (HC.out.below b1)
      have HC1' := Lib.hid (HC'.out.below b1)
      clear b1 k0 k1 k2 k3 k4 k5 HB HC HC'
      have k0 := HC1.out.c0
      have k1 := HC1.out.c1
      have k2 := HC1.out.c2
      have k3 := HC1'.out.c0
      have k4 := HC1'.out.c1
      have k5 := HC1'.out.c2
      go_wp2_with fail
      refine (spec_is _ b' rows' out' _ (HS'.out.below HB1.out)).mono ?_
      rintro e W2 ⟨rfl, b1⟩
      rw [HQ'.out]
      have HB2 := Lib.hid (HB1.out.trans (b1.mono HB1.out.size))
      clear b1
      go_wp2
      go_ret2
      exact ⟨ret_nb HV.out.1.symm HV.out.2.symm, HB2.out⟩
    | true =>
      have HQ' := Lib.hid hq'
      have hb : ¬ b = b' := by
        rcases hno with (h | h) | h
        · rw [hq] at h; cases h
        · rw [hq'] at h; cases h
        · exact h
      have hd : (b != b') = true := by simpa using hb
      clear hq hno hq' hb
      go_enter Try.func25, Try.ntmps25
      go_wp2_with fail
      refine (spec_is _ b rows out _ (HS.out.below HB.out)).mono ?_
      rintro e W1 ⟨rfl, b1⟩
      rw [HQ.out]
      have HB1 := Lib.hid (HB.out.trans (b1.mono HB.out.size))
      have HC1 := Lib.hid (HC.out.below b1)
      have HC1' := Lib.hid (HC'.out.below b1)
      clear b1 k0 k1 k2 k3 k4 k5 HB HC HC'
      have k0 := HC1.out.c0
      have k1 := HC1.out.c1
      have k2 := HC1.out.c2
      have k3 := HC1'.out.c0
      have k4 := HC1'.out.c1
      have k5 := HC1'.out.c2
      go_wp2_with fail
      refine (spec_is _ b' rows' out' _ (HS'.out.below HB1.out)).mono ?_
      rintro e W2 ⟨rfl, b1⟩
      rw [HQ'.out]
      have HB2 := Lib.hid (HB1.out.trans (b1.mono HB1.out.size))
      have HC2 := Lib.hid (HC1.out.below b1)
      have HC2' := Lib.hid (HC1'.out.below b1)
      clear b1 k0 k1 k2 k3 k4 k5 HB1 HC1 HC1'
      have k0 := HC2.out.c0
      have k1 := HC2.out.c1
      have k2 := HC2.out.c2
      have k3 := HC2'.out.c0
      have k4 := HC2'.out.c1
      have k5 := HC2'.out.c2
      go_wp2
      go_ret2
      exact ⟨ret_nb HV.out.1.symm HV.out.2.symm, HB2.out⟩
set_option maxHeartbeats 1000000 in
theorem spec_diff_yes (u v : Value) (b : Int) (rows rows' : List (List Int)) (out out' : List Int) (w : World) (h1 : LiesS w u b rows out) (h2 : LiesS w v b rows' out') (hq : seqB b rows out = true) (hq' : seqB b rows' out' = true) :
    Calls Try.prog 25 #[u, v] w fun e w' => e = .returned (.tuple #[.int .i64 (((diffAt b rows out rows' out').getD 0 : Nat) : Int), .bool (diffAt b rows out rows' out').isSome]) ∧ Below w.heap.size w w' := by
  obtain ⟨b', hbb⟩ : ∃ b', b' = b := ⟨b, rfl⟩
  rw [← hbb] at h2 hq'
  have HBB := Lib.hid hbb
  have HQ := Lib.hid hq
  have HQ1 := Lib.hid hq'
  have hd : (b != b') = false := by simp [hbb]
  have HS := Lib.hid h1
  have HS' := Lib.hid h2
  obtain ⟨an, cn, ao, co, rfl⟩ := h1.form
  obtain ⟨an', cn', ao', co', rfl⟩ := h2.form
  clear h1 h2
  have HB : Hid (Below w.heap.size w ((w.alloc (Obj.cells #[Value.int .i64 b, Value.slice an rows.length cn, Value.slice ao out.length co] 28)).alloc (Obj.cells #[Value.int .i64 b', Value.slice an' rows'.length cn', Value.slice ao' out'.length co'] 28))) := ((Below.refl _ _).alloc (Nat.le_refl _) _).alloc (by simp) _
  have hC' := Cells3.new (w.alloc (Obj.cells #[Value.int .i64 b, Value.slice an rows.length cn, Value.slice ao out.length co] 28)) 28 (.int .i64 b') (.slice an' rows'.length cn') (.slice ao' out'.length co')
  rw [size_alloc'] at hC'
  have HC := Lib.hid ((Cells3.new w 28 (.int .i64 b) (.slice an rows.length cn) (.slice ao out.length co)).alloc (Obj.cells #[Value.int .i64 b', Value.slice an' rows'.length cn', Value.slice ao' out'.length co'] 28))
  have HC' := Lib.hid hC'
  clear hC'
  clear hq hq' hbb
  have CA := Lib.hid (fun (W : World) (hW : Below w.heap.size w W) (n : Nat) (hn : n ≤ 4000) => (by have h1 := spec_termat _ b rows out W (HS.out.below hW) (n : Int); rw [ask_small' HQ.out n hn] at h1; exact h1 : Calls Try.prog 48 #[_, .int .i64 (n : Int)] W fun e w' => e = .returned (.int .i64 (termG b rows out n)) ∧ Below W.heap.size W w'))
  have CB := Lib.hid (fun (W : World) (hW : Below w.heap.size w W) (n : Nat) (hn : n ≤ 4000) => (by have h1 := spec_termat _ b' rows' out' W (HS'.out.below hW) (n : Int); rw [ask_small' HQ1.out n hn] at h1; exact h1 : Calls Try.prog 48 #[_, .int .i64 (n : Int)] W fun e w' => e = .returned (.int .i64 (termG b' rows' out' n)) ∧ Below W.heap.size W w'))
  have k0 := HC.out.c0
  have k1 := HC.out.c1
  have k2 := HC.out.c2
  have k3 := HC'.out.c0
  have k4 := HC'.out.c1
  have k5 := HC'.out.c2
  go_enter Try.func25, Try.ntmps25
  go_wp2_with fail
  refine (spec_is _ b rows out _ (HS.out.below HB.out)).mono ?_
  rintro e W1 ⟨rfl, b1⟩
  rw [HQ.out]
  have HB1 := Lib.hid (HB.out.trans (b1.mono HB.out.size))
  have HC1 := Lib.hid (HC.out.below b1)
  have HC1' := Lib.hid (HC'.out.below b1)
  clear b1 k0 k1 k2 k3 k4 k5 HB HC HC'
  have k0 := HC1.out.c0
  have k1 := HC1.out.c1
  have k2 := HC1.out.c2
  have k3 := HC1'.out.c0
  have k4 := HC1'.out.c1
  have k5 := HC1'.out.c2
  go_wp2_with fail
  refine (spec_is _ b' rows' out' _ (HS'.out.below HB1.out)).mono ?_
  rintro e W2 ⟨rfl, b1⟩
  rw [HQ1.out]
  have HB2 := Lib.hid (HB1.out.trans (b1.mono HB1.out.size))
  have HC2 := Lib.hid (HC1.out.below b1)
  have HC2' := Lib.hid (HC1'.out.below b1)
  clear b1 k0 k1 k2 k3 k4 k5 HB1 HC1 HC1'
  have k0 := HC2.out.c0
  have k1 := HC2.out.c1
  have k2 := HC2.out.c2
  have k3 := HC2'.out.c0
  have k4 := HC2'.out.c1
  have k5 := HC2'.out.c2
  go_wp2_with fail
  go_loopw [6] (fun n' wr => ∃ n : Nat, n ≤ 2000 ∧ n' = .int .i64 n ∧ Hid (∀ j < n, termG b rows out j = termG b rows' out' j) ∧ Hid (Cells3 wr w.heap.size 28 (.int .i64 b) (.slice an rows.length cn) (.slice ao out.length co)) ∧ Hid (Cells3 wr (w.heap.size + 1) 28 (.int .i64 b') (.slice an' rows'.length cn') (.slice ao' out'.length co')) ∧ Hid (Below w.heap.size w wr)) (fun n' _ => 2000 - (intOf n').toNat)
  case atStart => exact ⟨0, by omega, rfl, fun j hj => by omega, HC2, HC2', HB2⟩
  case round =>
    clear k0 k1 k2 k3 k4 k5 HC2 HC2' HB2
    obtain ⟨n, hn, rfl, HI, hC, hC', hB⟩ := hrel
    by_cases hlt : n < 2000
    case neg =>
      have HE := Lib.hid (diffAt_none (b := b) (rows := rows) (rows' := rows') (out := out) (out' := out') fun j hj => HI.out j (by omega))
      have hdn : decide ((n : Int) < 2000) = false := decide_eq_false (by omega)
      go_wp2
      go_ret2
      exact ⟨ret_nb (by rw [HE.out]; rfl) (by rw [HE.out]; rfl), hB.out⟩
    case pos =>
      have hdn : decide ((n : Int) < 2000) = true := decide_eq_true (by omega)
      obtain ⟨t1, ht1⟩ : ∃ t, t = termG b rows out n := ⟨_, rfl⟩
      obtain ⟨t2, ht2⟩ : ∃ t, t = termG b' rows' out' n := ⟨_, rfl⟩
      have HT1 := Lib.hid ht1
      have HT2 := Lib.hid ht2
      clear ht1 ht2
      have HA := Lib.hid (fun (W : World) (hW : Below w.heap.size w W) => (CA.out W hW n (by omega)).mono fun e w' (h : e = .returned (.int .i64 (termG b rows out n)) ∧ Below W.heap.size W w') => (⟨by rw [HT1.out]; exact h.1, h.2⟩ : e = .returned (.int .i64 t1) ∧ Below W.heap.size W w'))
      have HX := Lib.hid (fun (W : World) (hW : Below w.heap.size w W) => (CB.out W hW n (by omega)).mono fun e w' (h : e = .returned (.int .i64 (termG b' rows' out' n)) ∧ Below W.heap.size W w') => (⟨by rw [HT2.out]; exact h.1, h.2⟩ : e = .returned (.int .i64 t2) ∧ Below W.heap.size W w'))
      have D := Lib.hid (hC.out.below (below_drew' wr))
      have D' := Lib.hid (hC'.out.below (below_drew' wr))
      have HD := Lib.hid (hB.out.trans ((below_drew' wr).mono hB.out.size))
      have HTE : Hid (termG b rows' out' n = t2) := by show _ = _; rw [HT2.out, HBB.out]
      have k0 := hC.out.c0
      have k1 := hC.out.c1
      have k2 := hC.out.c2
      have k3 := hC'.out.c0
      have k4 := hC'.out.c1
      have k5 := hC'.out.c2
      by_cases he : t1 = t2
      case pos =>
        have HE : Hid (∀ j < n + 1, termG b rows out j = termG b rows' out' j) := fun j hj => by
          by_cases e : j = n
          · subst e
            rw [HTE.out, ← HT1.out, he]
          · exact HI.out j (by omega)
        have hdt : (t1 != t2) = false := by simp [he]
        clear he
        go_wp2_with fail
        go_region_held3 (fun w' => w'.cell? ⟨w.heap.size, 0, none⟩ = some (.int .i64 b) ∧ w'.cell? ⟨w.heap.size, 1, none⟩ = some (.slice an rows.length cn) ∧ w'.cell? ⟨w.heap.size, 2, none⟩ = some (.slice ao out.length co) ∧ w'.cell? ⟨w.heap.size + 1, 0, none⟩ = some (.int .i64 b') ∧ w'.cell? ⟨w.heap.size + 1, 1, none⟩ = some (.slice an' rows'.length cn') ∧ w'.cell? ⟨w.heap.size + 1, 2, none⟩ = some (.slice ao' out'.length co'))
          (first | exact six D.out D'.out | exact six (D.out.below f1) (D'.out.below f1) | exact six ((D.out.below f1).below f2) ((D'.out.below f1).below f2))
          (first | (go_at_call 48; (with_reducible refine (HA.out _ HD.out).mono ?_); rintro e Wt ⟨rfl, f1⟩) | (go_at_call 48; (with_reducible refine (HX.out _ HD.out).mono ?_); rintro e Wt ⟨rfl, f1⟩) | (go_at_call 48; (with_reducible refine (HA.out _ (HD.out.trans (f1.mono HD.out.size))).mono ?_); rintro e Wu ⟨rfl, f2⟩) | (go_at_call 48; (with_reducible refine (HX.out _ (HD.out.trans (f1.mono HD.out.size))).mono ?_); rintro e Wu ⟨rfl, f2⟩))
        all_goals
          have hC2 := Lib.hid ((D.out.below f1).below f2)
          have hC2' := Lib.hid ((D'.out.below f1).below f2)
          have hB2 := Lib.hid ((HD.out.trans (f1.mono HD.out.size)).trans (f2.mono (HD.out.trans (f1.mono HD.out.size)).size))
          clear f1 f2 D D' HD hC hC' hB k0 k1 k2 k3 k4 k5
          go_wp2
          go_roundw
          case rel => exact ⟨n + 1, by omega, by go_num, HE, hC2, hC2', hB2⟩
          case measure => simp [intOf]; omega
      case neg =>
        have HE := Lib.hid (diffAt_some (b := b) (rows := rows) (rows' := rows') (out := out) (out' := out') hlt (by rw [HTE.out, ← HT1.out]; exact he) HI.out)
        have hdt : (t1 != t2) = true := by simpa using he
        clear he
        go_wp2_with fail
        go_region_held3 (fun w' => w'.cell? ⟨w.heap.size, 0, none⟩ = some (.int .i64 b) ∧ w'.cell? ⟨w.heap.size, 1, none⟩ = some (.slice an rows.length cn) ∧ w'.cell? ⟨w.heap.size, 2, none⟩ = some (.slice ao out.length co) ∧ w'.cell? ⟨w.heap.size + 1, 0, none⟩ = some (.int .i64 b') ∧ w'.cell? ⟨w.heap.size + 1, 1, none⟩ = some (.slice an' rows'.length cn') ∧ w'.cell? ⟨w.heap.size + 1, 2, none⟩ = some (.slice ao' out'.length co'))
          (first | exact six D.out D'.out | exact six (D.out.below f1) (D'.out.below f1) | exact six ((D.out.below f1).below f2) ((D'.out.below f1).below f2))
          (first | (go_at_call 48; (with_reducible refine (HA.out _ HD.out).mono ?_); rintro e Wt ⟨rfl, f1⟩) | (go_at_call 48; (with_reducible refine (HX.out _ HD.out).mono ?_); rintro e Wt ⟨rfl, f1⟩) | (go_at_call 48; (with_reducible refine (HA.out _ (HD.out.trans (f1.mono HD.out.size))).mono ?_); rintro e Wu ⟨rfl, f2⟩) | (go_at_call 48; (with_reducible refine (HX.out _ (HD.out.trans (f1.mono HD.out.size))).mono ?_); rintro e Wu ⟨rfl, f2⟩))
        all_goals
          have hB2 := Lib.hid ((HD.out.trans (f1.mono HD.out.size)).trans (f2.mono (HD.out.trans (f1.mono HD.out.size)).size))
          clear f1 f2 D D' HD hC hC' hB k0 k1 k2 k3 k4 k5
          go_wp2
          go_ret2
          exact ⟨ret_nb (by rw [HE.out]; rfl) (by rw [HE.out]; rfl), hB2.out⟩
set_option maxHeartbeats 1000000 in
theorem impl_diff_no (u v : Value) (b b' : Int) (rows rows' : List (List Int)) (out out' : List Int) (w : World) (h1 : LiesS w u b rows out) (h2 : LiesS w v b' rows' out') (hno : diffOK b b' rows rows' out out' = false) :
    Calls Try.prog 26 #[u, v] w fun e w' => e = .returned (.tuple #[.int .i64 (diffV b b' rows rows' out out'), .bool (diffK b b' rows rows' out out')]) ∧ Below w.heap.size w w' := by
  have HNO := Lib.hid hno
  have HS := Lib.hid h1
  have HS' := Lib.hid h2
  obtain ⟨an, cn, ao, co, rfl⟩ := h1.form
  obtain ⟨an', cn', ao', co', rfl⟩ := h2.form
  clear h1 h2
  have HB : Hid (Below w.heap.size w ((w.alloc (Obj.cells #[Value.int .i64 b, Value.slice an rows.length cn, Value.slice ao out.length co] 28)).alloc (Obj.cells #[Value.int .i64 b', Value.slice an' rows'.length cn', Value.slice ao' out'.length co'] 28))) := ((Below.refl _ _).alloc (Nat.le_refl _) _).alloc (by simp) _
  have hC' := Cells3.new (w.alloc (Obj.cells #[Value.int .i64 b, Value.slice an rows.length cn, Value.slice ao out.length co] 28)) 28 (.int .i64 b') (.slice an' rows'.length cn') (.slice ao' out'.length co')
  rw [size_alloc'] at hC'
  have HC := Lib.hid ((Cells3.new w 28 (.int .i64 b) (.slice an rows.length cn) (.slice ao out.length co)).alloc (Obj.cells #[Value.int .i64 b', Value.slice an' rows'.length cn', Value.slice ao' out'.length co'] 28))
  have HC' := Lib.hid hC'
  clear hC'
  have HV : Hid (diffV b b' rows rows' out out' = 0 ∧ diffK b b' rows rows' out out' = false) := by
    show _ ∧ _
    simp only [diffV, diffK, HNO.out]
    exact ⟨rfl, rfl⟩
  simp only [diffOK, Bool.and_eq_false_iff, decide_eq_false_iff_not] at hno
  have k0 := HC.out.c0
  have k1 := HC.out.c1
  have k2 := HC.out.c2
  have k3 := HC'.out.c0
  have k4 := HC'.out.c1
  have k5 := HC'.out.c2
  cases hq : seqB b rows out with
  | false =>
    have HQ := Lib.hid hq
    clear hq hno
    go_enter Try.func26, Try.ntmps26
    go_wp2_with fail
    refine (impl_is _ b rows out _ (HS.out.below HB.out)).mono ?_
    rintro e W1 ⟨rfl, b1⟩
    rw [HQ.out]
    have HB1 := Lib.hid (HB.out.trans (b1.mono HB.out.size))
    clear b1
    go_wp2
    go_ret2
    exact ⟨ret_nb HV.out.1.symm HV.out.2.symm, HB1.out⟩
  | true =>
    have HQ := Lib.hid hq
    cases hq' : seqB b' rows' out' with
    | false =>
      have HQ' := Lib.hid hq'
      clear hq hno hq'
      go_enter Try.func26, Try.ntmps26
      go_wp2_with fail
      refine (impl_is _ b rows out _ (HS.out.below HB.out)).mono ?_
      rintro e W1 ⟨rfl, b1⟩
      rw [HQ.out]
      have HB1 := Lib.hid (HB.out.trans (b1.mono HB.out.size))
      have HC1 := Lib.hid (HC.out.below b1)
      have HC1' := Lib.hid (HC'.out.below b1)
      clear b1 k0 k1 k2 k3 k4 k5 HB HC HC'
      have k0 := HC1.out.c0
      have k1 := HC1.out.c1
      have k2 := HC1.out.c2
      have k3 := HC1'.out.c0
      have k4 := HC1'.out.c1
      have k5 := HC1'.out.c2
      go_wp2_with fail
      refine (impl_is _ b' rows' out' _ (HS'.out.below HB1.out)).mono ?_
      rintro e W2 ⟨rfl, b1⟩
      rw [HQ'.out]
      have HB2 := Lib.hid (HB1.out.trans (b1.mono HB1.out.size))
      clear b1
      go_wp2
      go_ret2
      exact ⟨ret_nb HV.out.1.symm HV.out.2.symm, HB2.out⟩
    | true =>
      have HQ' := Lib.hid hq'
      have hb : ¬ b = b' := by
        rcases hno with (h | h) | h
        · rw [hq] at h; cases h
        · rw [hq'] at h; cases h
        · exact h
      have hd : (b != b') = true := by simpa using hb
      clear hq hno hq' hb
      go_enter Try.func26, Try.ntmps26
      go_wp2_with fail
      refine (impl_is _ b rows out _ (HS.out.below HB.out)).mono ?_
      rintro e W1 ⟨rfl, b1⟩
      rw [HQ.out]
      have HB1 := Lib.hid (HB.out.trans (b1.mono HB.out.size))
      have HC1 := Lib.hid (HC.out.below b1)
      have HC1' := Lib.hid (HC'.out.below b1)
      clear b1 k0 k1 k2 k3 k4 k5 HB HC HC'
      have k0 := HC1.out.c0
      have k1 := HC1.out.c1
      have k2 := HC1.out.c2
      have k3 := HC1'.out.c0
      have k4 := HC1'.out.c1
      have k5 := HC1'.out.c2
      go_wp2_with fail
      refine (impl_is _ b' rows' out' _ (HS'.out.below HB1.out)).mono ?_
      rintro e W2 ⟨rfl, b1⟩
      rw [HQ'.out]
      have HB2 := Lib.hid (HB1.out.trans (b1.mono HB1.out.size))
      have HC2 := Lib.hid (HC1.out.below b1)
      have HC2' := Lib.hid (HC1'.out.below b1)
      clear b1 k0 k1 k2 k3 k4 k5 HB1 HC1 HC1'
      have k0 := HC2.out.c0
      have k1 := HC2.out.c1
      have k2 := HC2.out.c2
      have k3 := HC2'.out.c0
      have k4 := HC2'.out.c1
      have k5 := HC2'.out.c2
      go_wp2
      go_ret2
      exact ⟨ret_nb HV.out.1.symm HV.out.2.symm, HB2.out⟩
set_option maxHeartbeats 1000000 in
theorem impl_diff_yes (u v : Value) (b : Int) (rows rows' : List (List Int)) (out out' : List Int) (w : World) (h1 : LiesS w u b rows out) (h2 : LiesS w v b rows' out') (hq : seqB b rows out = true) (hq' : seqB b rows' out' = true) :
    Calls Try.prog 26 #[u, v] w fun e w' => e = .returned (.tuple #[.int .i64 (((diffAt b rows out rows' out').getD 0 : Nat) : Int), .bool (diffAt b rows out rows' out').isSome]) ∧ Below w.heap.size w w' := by
  obtain ⟨b', hbb⟩ : ∃ b', b' = b := ⟨b, rfl⟩
  rw [← hbb] at h2 hq'
  have HBB := Lib.hid hbb
  have HQ := Lib.hid hq
  have HQ1 := Lib.hid hq'
  have hd : (b != b') = false := by simp [hbb]
  have HS := Lib.hid h1
  have HS' := Lib.hid h2
  obtain ⟨an, cn, ao, co, rfl⟩ := h1.form
  obtain ⟨an', cn', ao', co', rfl⟩ := h2.form
  clear h1 h2
  have HB : Hid (Below w.heap.size w ((w.alloc (Obj.cells #[Value.int .i64 b, Value.slice an rows.length cn, Value.slice ao out.length co] 28)).alloc (Obj.cells #[Value.int .i64 b', Value.slice an' rows'.length cn', Value.slice ao' out'.length co'] 28))) := ((Below.refl _ _).alloc (Nat.le_refl _) _).alloc (by simp) _
  have hC' := Cells3.new (w.alloc (Obj.cells #[Value.int .i64 b, Value.slice an rows.length cn, Value.slice ao out.length co] 28)) 28 (.int .i64 b') (.slice an' rows'.length cn') (.slice ao' out'.length co')
  rw [size_alloc'] at hC'
  have HC := Lib.hid ((Cells3.new w 28 (.int .i64 b) (.slice an rows.length cn) (.slice ao out.length co)).alloc (Obj.cells #[Value.int .i64 b', Value.slice an' rows'.length cn', Value.slice ao' out'.length co'] 28))
  have HC' := Lib.hid hC'
  clear hC'
  clear hq hq' hbb
  have CA := Lib.hid (fun (W : World) (hW : Below w.heap.size w W) (n : Nat) (hn : n ≤ 4000) => (impl_term _ b rows out W (HS.out.below hW) (n : Int) (seqB_out HQ.out) : Calls Try.prog 49 #[_, .int .i64 (n : Int)] W fun e w' => e = .returned (.int .i64 (termG b rows out n)) ∧ Below W.heap.size W w'))
  have CB := Lib.hid (fun (W : World) (hW : Below w.heap.size w W) (n : Nat) (hn : n ≤ 4000) => (impl_term _ b' rows' out' W (HS'.out.below hW) (n : Int) (seqB_out HQ1.out) : Calls Try.prog 49 #[_, .int .i64 (n : Int)] W fun e w' => e = .returned (.int .i64 (termG b' rows' out' n)) ∧ Below W.heap.size W w'))
  have k0 := HC.out.c0
  have k1 := HC.out.c1
  have k2 := HC.out.c2
  have k3 := HC'.out.c0
  have k4 := HC'.out.c1
  have k5 := HC'.out.c2
  go_enter Try.func26, Try.ntmps26
  go_wp2_with fail
  refine (impl_is _ b rows out _ (HS.out.below HB.out)).mono ?_
  rintro e W1 ⟨rfl, b1⟩
  rw [HQ.out]
  have HB1 := Lib.hid (HB.out.trans (b1.mono HB.out.size))
  have HC1 := Lib.hid (HC.out.below b1)
  have HC1' := Lib.hid (HC'.out.below b1)
  clear b1 k0 k1 k2 k3 k4 k5 HB HC HC'
  have k0 := HC1.out.c0
  have k1 := HC1.out.c1
  have k2 := HC1.out.c2
  have k3 := HC1'.out.c0
  have k4 := HC1'.out.c1
  have k5 := HC1'.out.c2
  go_wp2_with fail
  refine (impl_is _ b' rows' out' _ (HS'.out.below HB1.out)).mono ?_
  rintro e W2 ⟨rfl, b1⟩
  rw [HQ1.out]
  have HB2 := Lib.hid (HB1.out.trans (b1.mono HB1.out.size))
  have HC2 := Lib.hid (HC1.out.below b1)
  have HC2' := Lib.hid (HC1'.out.below b1)
  clear b1 k0 k1 k2 k3 k4 k5 HB1 HC1 HC1'
  have k0 := HC2.out.c0
  have k1 := HC2.out.c1
  have k2 := HC2.out.c2
  have k3 := HC2'.out.c0
  have k4 := HC2'.out.c1
  have k5 := HC2'.out.c2
  go_wp2_with fail
  go_loopw [22] (fun n' wr => ∃ n : Nat, n ≤ 2000 ∧ n' = .int .i64 n ∧ Hid (∀ j < n, termG b rows out j = termG b rows' out' j) ∧ Hid (Cells3 wr w.heap.size 28 (.int .i64 b) (.slice an rows.length cn) (.slice ao out.length co)) ∧ Hid (Cells3 wr (w.heap.size + 1) 28 (.int .i64 b') (.slice an' rows'.length cn') (.slice ao' out'.length co')) ∧ Hid (Below w.heap.size w wr)) (fun n' _ => 2000 - (intOf n').toNat)
  case atStart => exact ⟨0, by omega, rfl, fun j hj => by omega, HC2, HC2', HB2⟩
  case round =>
    clear k0 k1 k2 k3 k4 k5 HC2 HC2' HB2
    obtain ⟨n, hn, rfl, HI, hC, hC', hB⟩ := hrel
    by_cases hlt : n < 2000
    case neg =>
      have HE := Lib.hid (diffAt_none (b := b) (rows := rows) (rows' := rows') (out := out) (out' := out') fun j hj => HI.out j (by omega))
      have hdn : decide ((n : Int) < 2000) = false := decide_eq_false (by omega)
      go_wp2
      go_ret2
      exact ⟨ret_nb (by rw [HE.out]; rfl) (by rw [HE.out]; rfl), hB.out⟩
    case pos =>
      have hdn : decide ((n : Int) < 2000) = true := decide_eq_true (by omega)
      obtain ⟨t1, ht1⟩ : ∃ t, t = termG b rows out n := ⟨_, rfl⟩
      obtain ⟨t2, ht2⟩ : ∃ t, t = termG b' rows' out' n := ⟨_, rfl⟩
      have HT1 := Lib.hid ht1
      have HT2 := Lib.hid ht2
      clear ht1 ht2
      have HA := Lib.hid (fun (W : World) (hW : Below w.heap.size w W) => (CA.out W hW n (by omega)).mono fun e w' (h : e = .returned (.int .i64 (termG b rows out n)) ∧ Below W.heap.size W w') => (⟨by rw [HT1.out]; exact h.1, h.2⟩ : e = .returned (.int .i64 t1) ∧ Below W.heap.size W w'))
      have HX := Lib.hid (fun (W : World) (hW : Below w.heap.size w W) => (CB.out W hW n (by omega)).mono fun e w' (h : e = .returned (.int .i64 (termG b' rows' out' n)) ∧ Below W.heap.size W w') => (⟨by rw [HT2.out]; exact h.1, h.2⟩ : e = .returned (.int .i64 t2) ∧ Below W.heap.size W w'))
      have D := Lib.hid (hC.out.below (below_drew' wr))
      have D' := Lib.hid (hC'.out.below (below_drew' wr))
      have HD := Lib.hid (hB.out.trans ((below_drew' wr).mono hB.out.size))
      have HTE : Hid (termG b rows' out' n = t2) := by show _ = _; rw [HT2.out, HBB.out]
      have k0 := hC.out.c0
      have k1 := hC.out.c1
      have k2 := hC.out.c2
      have k3 := hC'.out.c0
      have k4 := hC'.out.c1
      have k5 := hC'.out.c2
      by_cases he : t1 = t2
      case pos =>
        have HE : Hid (∀ j < n + 1, termG b rows out j = termG b rows' out' j) := fun j hj => by
          by_cases e : j = n
          · subst e
            rw [HTE.out, ← HT1.out, he]
          · exact HI.out j (by omega)
        have hdt : (t1 != t2) = false := by simp [he]
        clear he
        go_wp2_with fail
        go_region_held3 (fun w' => w'.cell? ⟨w.heap.size, 0, none⟩ = some (.int .i64 b) ∧ w'.cell? ⟨w.heap.size, 1, none⟩ = some (.slice an rows.length cn) ∧ w'.cell? ⟨w.heap.size, 2, none⟩ = some (.slice ao out.length co) ∧ w'.cell? ⟨w.heap.size + 1, 0, none⟩ = some (.int .i64 b') ∧ w'.cell? ⟨w.heap.size + 1, 1, none⟩ = some (.slice an' rows'.length cn') ∧ w'.cell? ⟨w.heap.size + 1, 2, none⟩ = some (.slice ao' out'.length co'))
          (first | exact six D.out D'.out | exact six (D.out.below f1) (D'.out.below f1) | exact six ((D.out.below f1).below f2) ((D'.out.below f1).below f2))
          (first | (go_at_call 49; (with_reducible refine (HA.out _ HD.out).mono ?_); rintro e Wt ⟨rfl, f1⟩) | (go_at_call 49; (with_reducible refine (HX.out _ HD.out).mono ?_); rintro e Wt ⟨rfl, f1⟩) | (go_at_call 49; (with_reducible refine (HA.out _ (HD.out.trans (f1.mono HD.out.size))).mono ?_); rintro e Wu ⟨rfl, f2⟩) | (go_at_call 49; (with_reducible refine (HX.out _ (HD.out.trans (f1.mono HD.out.size))).mono ?_); rintro e Wu ⟨rfl, f2⟩))
        all_goals
          have hC2 := Lib.hid ((D.out.below f1).below f2)
          have hC2' := Lib.hid ((D'.out.below f1).below f2)
          have hB2 := Lib.hid ((HD.out.trans (f1.mono HD.out.size)).trans (f2.mono (HD.out.trans (f1.mono HD.out.size)).size))
          clear f1 f2 D D' HD hC hC' hB k0 k1 k2 k3 k4 k5
          go_wp2
          go_roundw
          case rel => exact ⟨n + 1, by omega, by go_num, HE, hC2, hC2', hB2⟩
          case measure => simp [intOf]; omega
      case neg =>
        have HE := Lib.hid (diffAt_some (b := b) (rows := rows) (rows' := rows') (out := out) (out' := out') hlt (by rw [HTE.out, ← HT1.out]; exact he) HI.out)
        have hdt : (t1 != t2) = true := by simpa using he
        clear he
        go_wp2_with fail
        go_region_held3 (fun w' => w'.cell? ⟨w.heap.size, 0, none⟩ = some (.int .i64 b) ∧ w'.cell? ⟨w.heap.size, 1, none⟩ = some (.slice an rows.length cn) ∧ w'.cell? ⟨w.heap.size, 2, none⟩ = some (.slice ao out.length co) ∧ w'.cell? ⟨w.heap.size + 1, 0, none⟩ = some (.int .i64 b') ∧ w'.cell? ⟨w.heap.size + 1, 1, none⟩ = some (.slice an' rows'.length cn') ∧ w'.cell? ⟨w.heap.size + 1, 2, none⟩ = some (.slice ao' out'.length co'))
          (first | exact six D.out D'.out | exact six (D.out.below f1) (D'.out.below f1) | exact six ((D.out.below f1).below f2) ((D'.out.below f1).below f2))
          (first | (go_at_call 49; (with_reducible refine (HA.out _ HD.out).mono ?_); rintro e Wt ⟨rfl, f1⟩) | (go_at_call 49; (with_reducible refine (HX.out _ HD.out).mono ?_); rintro e Wt ⟨rfl, f1⟩) | (go_at_call 49; (with_reducible refine (HA.out _ (HD.out.trans (f1.mono HD.out.size))).mono ?_); rintro e Wu ⟨rfl, f2⟩) | (go_at_call 49; (with_reducible refine (HX.out _ (HD.out.trans (f1.mono HD.out.size))).mono ?_); rintro e Wu ⟨rfl, f2⟩))
        all_goals
          have hB2 := Lib.hid ((HD.out.trans (f1.mono HD.out.size)).trans (f2.mono (HD.out.trans (f1.mono HD.out.size)).size))
          clear f1 f2 D D' HD hC hC' hB k0 k1 k2 k3 k4 k5
          go_wp2
          go_ret2
          exact ⟨ret_nb (by rw [HE.out]; rfl) (by rw [HE.out]; rfl), hB2.out⟩
theorem spec_diff (u v : Value) (b b' : Int) (rows rows' : List (List Int)) (out out' : List Int) (w : World) (h1 : LiesS w u b rows out) (h2 : LiesS w v b' rows' out') : Calls Try.prog 25 #[u, v] w fun e w' => e = .returned (.tuple #[.int .i64 (diffV b b' rows rows' out out'), .bool (diffK b b' rows rows' out out')]) ∧ Below w.heap.size w w' := by
  cases hd : diffOK b b' rows rows' out out' with
  | false => exact spec_diff_no u v b b' rows rows' out out' w h1 h2 hd
  | true =>
    have hd2 := hd
    simp only [diffOK, Bool.and_eq_true, decide_eq_true_eq] at hd2
    obtain ⟨⟨hq, hq'⟩, rfl⟩ := hd2
    rw [diffV, diffK, if_pos hd, hd, Bool.true_and]
    exact spec_diff_yes u v b rows rows' out out' w h1 h2 hq hq'
theorem impl_diff (u v : Value) (b b' : Int) (rows rows' : List (List Int)) (out out' : List Int) (w : World) (h1 : LiesS w u b rows out) (h2 : LiesS w v b' rows' out') : Calls Try.prog 26 #[u, v] w fun e w' => e = .returned (.tuple #[.int .i64 (diffV b b' rows rows' out out'), .bool (diffK b b' rows rows' out out')]) ∧ Below w.heap.size w w' := by
  cases hd : diffOK b b' rows rows' out out' with
  | false => exact impl_diff_no u v b b' rows rows' out out' w h1 h2 hd
  | true =>
    have hd2 := hd
    simp only [diffOK, Bool.and_eq_true, decide_eq_true_eq] at hd2
    obtain ⟨⟨hq, hq'⟩, rfl⟩ := hd2
    rw [diffV, diffK, if_pos hd, hd, Bool.true_and]
    exact impl_diff_yes u v b rows rows' out out' w h1 h2 hq hq'
end Mins
end Go.Proofs.Ytdnfgbdfnndlnaa
