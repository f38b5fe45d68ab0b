/- Contracts of PrefixOf, of the program and of the model. No conditions beyond those that each states. -/
import Derived.Test.YtdlcjklfhoekfaaSeqTerm
import Derived.Test.YtdlcjklfhoekfaaSeqEq
import Derived.Test.YtdlcjklfhoekfaaDigits3
import Derived.Deep.RegionHeld3
namespace Go.Proofs.Ytdlcjklfhoekfaa
open Go.ChangeShapes Go.WideShapes Go.ChangeAt Go.RowKit
open Go.PlainAid Plain
set_option linter.unusedVariables false
namespace Seqs
open Digits
/-- The term n, told without a look whether it may be asked for. -/
def termG (b : Int) (rows : List (List Int)) (out : List Int) (i : Nat) : Int := out.getD (afterS rows (digV (i : Int) b)).toNat 0
def termsG (b : Int) (rows : List (List Int)) (out : List Int) (i : Nat) : List Int := (List.range i).map (termG b rows out)
theorem termsG_len (b : Int) (rows : List (List Int)) (out : List Int) (i : Nat) : (termsG b rows out i).length = i := by simp [termsG]
theorem termsG_succ (b : Int) (rows : List (List Int)) (out : List Int) (i : Nat) : termsG b rows out (i + 1) = termsG b rows out i ++ [termG b rows out i] := by simp [termsG, List.range_succ]
theorem termsG_set (b : Int) (rows : List (List Int)) (out : List Int) (i m : Nat) (h : i < m) : ((termsG b rows out i ++ List.replicate (m - i) 0).map (Value.int .i64)).set i (.int .i64 (termG b rows out i)) = (termsG b rows out (i + 1) ++ List.replicate (m - (i + 1)) 0).map (Value.int .i64) := by
  rw [show m - i = (m - (i + 1)) + 1 from by omega, List.replicate_succ, List.map_append, List.map_cons, set_mid _ _ _ _ i (by rw [List.length_map, termsG_len]), termsG_succ, List.append_assoc, List.map_append]
  rfl
/-- May the terms be asked for? -/
def prefB (b : Int) (rows : List (List Int)) (out : List Int) (n : Int) : Bool := seqB b rows out && decide (1 ≤ n) && decide (n ≤ 256)
/-- The terms before n, none where they may not be asked for. -/
def prefV (b : Int) (rows : List (List Int)) (out : List Int) (n : Int) : List Int := if prefB b rows out n = true then termsG b rows out n.toNat else []
theorem prefV_len (b : Int) (rows : List (List Int)) (out : List Int) (n : Int) : (prefV b rows out n).length ≤ 256 := by
  unfold prefV
  split
  · rename_i h
    simp only [prefB, Bool.and_eq_true, decide_eq_true_eq] at h
    rw [termsG_len]
    omega
  · simp
theorem ask_small {b : Int} {rows : List (List Int)} {out : List Int} (h : seqB b rows out = true) (i : Nat) (hi : i ≤ 256) : termV b rows out (i : Int) = termG b rows out i := by
  have hb := seqB_out h
  have h2 : (i : Int) < powV b 16 := by
    obtain ⟨n, rfl⟩ := Int.eq_ofNat_of_zero_le (show 0 ≤ b by have := hb.1; omega)
    have hn := hb.1
    rw [powV_in n (by omega) (by have := hb.2.1; omega)]
    have h3 : 2 ^ 16 ≤ n ^ 16 := Nat.pow_le_pow_left (by omega) 16
    have h4 : (2 : Nat) ^ 16 = 65536 := by decide
    omega
  rw [termV, if_pos (by simp [askB, h, h2])]
  rfl
theorem spec_pref_no (v : Value) (b : Int) (rows : List (List Int)) (out : List Int) (w : World) (h : LiesS w v b rows out) (n : Int) (hno : prefB b rows out n = false) :
    Calls Try.prog 21 #[v, .int .i64 n] w (Gives (Value.int .i64) 3 [] w) := by
  have HS := Lib.hid h
  obtain ⟨an, cn, ao, co, rfl⟩ := h.form
  clear h
  have hB : Below w.heap.size w (w.alloc (Obj.cells #[Value.int .i64 b, Value.slice an rows.length cn, Value.slice ao out.length co] 28)) := (Below.refl _ _).alloc (Nat.le_refl _) _
  have HC := Lib.hid (Cells3.new w 28 (.int .i64 b) (.slice an rows.length cn) (.slice ao out.length co))
  have HB := Lib.hid hB
  clear hB
  obtain ⟨W, hW⟩ : ∃ W, W = (w.alloc (Obj.cells #[Value.int .i64 b, Value.slice an rows.length cn, Value.slice ao out.length co] 28)).alloc (.cells #[] 3) := ⟨_, rfl⟩
  have HW := Lib.hid hW
  have hC := HC.out.alloc (.cells #[] 3)
  have hB := HB.out.alloc (o := .cells #[] 3) (by simp) 
  have hH := Has.lit (enc := Value.int .i64) (e := 3) (base := w.heap.size) (w.alloc (Obj.cells #[Value.int .i64 b, Value.slice an rows.length cn, Value.slice ao out.length co] 28)) [] HB.out.size (by simp)
  have hH2 : Hid (Has (Value.int .i64) 3 ((w.alloc (Obj.cells #[Value.int .i64 b, Value.slice an rows.length cn, Value.slice ao out.length co] 28)).alloc (.cells #[] 3)) w.heap.size (.slice (some ⟨(w.alloc (Obj.cells #[Value.int .i64 b, Value.slice an rows.length cn, Value.slice ao out.length co] 28)).heap.size, 0, none⟩) 0 0) []) := hH
  rw [size_alloc'] at hH2
  have k0 := hC.c0
  have k1 := hC.c1
  have k2 := hC.c2
  have HB2 : Hid (Below w.heap.size w ((w.alloc (Obj.cells #[Value.int .i64 b, Value.slice an rows.length cn, Value.slice ao out.length co] 28)).alloc (.cells #[] 3))) := hB
  clear hC hH hB hW
  by_cases h0 : 0 < n
  · by_cases h1 : n ≤ 256
    · have HQ : Hid (seqB b rows out = false) := by
        show _ = _
        simp only [prefB, Bool.and_eq_false_iff, decide_eq_false_iff_not] at hno
        rcases hno with (h2 | h2) | h2
        · exact h2
        · omega
        · omega
      clear hno
      have hd0 := decide_eq_true h0
      have hd1 := decide_eq_true h1
      go_enter Try.func21, Try.ntmps21
      go_wp2
      go_loopw [5, 6] (fun o' i' wr => i' = .int .i64 0 ∧ o' = .slice (some ⟨w.heap.size + 1, 0, none⟩) 0 0 ∧ wr = (w.alloc (Obj.cells #[Value.int .i64 b, Value.slice an rows.length cn, Value.slice ao out.length co] 28)).alloc (.cells #[] 3)) (fun _ _ _ => 0)
      case atStart => exact ⟨rfl, rfl, rfl⟩
      case round =>
        obtain ⟨rfl, rfl, rfl⟩ := hrel
        go_wp2_with fail
        refine (spec_is _ b rows out _ (HS.out.below HB2.out)).mono ?_
        rintro e W1 ⟨rfl, b1⟩
        rw [HQ.out]
        have HB3 := Lib.hid (HB2.out.trans (b1.mono HB2.out.size))
        have HH3 := Lib.hid (hH2.out.below b1)
        clear b1
        go_wp2
        go_ret
        exact ⟨_, rfl, HH3.out, HB3.out⟩
    · have hd0 := decide_eq_true h0
      have hd1 := decide_eq_false h1
      clear hno
      go_enter Try.func21, Try.ntmps21
      go_wp2
      go_loopw [5, 6] (fun o' i' wr => i' = .int .i64 0 ∧ o' = .slice (some ⟨w.heap.size + 1, 0, none⟩) 0 0 ∧ wr = (w.alloc (Obj.cells #[Value.int .i64 b, Value.slice an rows.length cn, Value.slice ao out.length co] 28)).alloc (.cells #[] 3)) (fun _ _ _ => 0)
      case atStart => exact ⟨rfl, rfl, rfl⟩
      case round =>
        obtain ⟨rfl, rfl, rfl⟩ := hrel
        go_wp2
        go_ret
        exact ⟨_, rfl, hH2.out, HB2.out⟩
  · have hd0 := decide_eq_false h0
    clear hno
    go_enter Try.func21, Try.ntmps21
    go_wp2
    go_loopw [5, 6] (fun o' i' wr => i' = .int .i64 0 ∧ o' = .slice (some ⟨w.heap.size + 1, 0, none⟩) 0 0 ∧ wr = (w.alloc (Obj.cells #[Value.int .i64 b, Value.slice an rows.length cn, Value.slice ao out.length co] 28)).alloc (.cells #[] 3)) (fun _ _ _ => 0)
    case atStart => exact ⟨rfl, rfl, rfl⟩
    case round =>
      obtain ⟨rfl, rfl, rfl⟩ := hrel
      go_wp2
      go_ret
      exact ⟨_, rfl, hH2.out, HB2.out⟩
set_option maxHeartbeats 1000000 in
theorem spec_pref_yes (v : Value) (b : Int) (rows : List (List Int)) (out : List Int) (w : World) (h : LiesS w v b rows out) (m : Nat) (hq : seqB b rows out = true) (h0 : 1 ≤ m) (h1 : m ≤ 256) :
    Calls Try.prog 21 #[v, .int .i64 m] w (Gives (Value.int .i64) 3 (termsG b rows out m) w) := by
  obtain ⟨i0, hi, hz0, hz1, hz2⟩ := info_parts Ints.infoI
  have HS := Lib.hid h
  obtain ⟨an, cn, ao, co, rfl⟩ := h.form
  clear h
  have hB : Below w.heap.size w (w.alloc (Obj.cells #[Value.int .i64 b, Value.slice an rows.length cn, Value.slice ao out.length co] 28)) := (Below.refl _ _).alloc (Nat.le_refl _) _
  have HC := Lib.hid (Cells3.new w 28 (.int .i64 b) (.slice an rows.length cn) (.slice ao out.length co))
  have HB := Lib.hid hB
  clear hB
  have HQ := Lib.hid hq
  have hH : Has (Value.int .i64) 3 ((w.alloc (Obj.cells #[Value.int .i64 b, Value.slice an rows.length cn, Value.slice ao out.length co] 28)).alloc (.cells #[] 3)) (w.alloc (Obj.cells #[Value.int .i64 b, Value.slice an rows.length cn, Value.slice ao out.length co] 28)).heap.size (.slice (some ⟨(w.alloc (Obj.cells #[Value.int .i64 b, Value.slice an rows.length cn, Value.slice ao out.length co] 28)).heap.size, 0, none⟩) 0 0) [] := Has.lit (enc := Value.int .i64) (e := 3) (w.alloc (Obj.cells #[Value.int .i64 b, Value.slice an rows.length cn, Value.slice ao out.length co] 28)) [] (Nat.le_refl _) (by simp)
  rw [size_alloc'] at hH
  have HH := Lib.hid hH
  have HC2 := Lib.hid (HC.out.alloc (.cells #[] 3))
  have HB2 : Hid (Below w.heap.size w ((w.alloc (Obj.cells #[Value.int .i64 b, Value.slice an rows.length cn, Value.slice ao out.length co] 28)).alloc (.cells #[] 3))) := HB.out.alloc (by simp) _
  have HZ : Hid (w.heap.size + 1 ≤ ((w.alloc (Obj.cells #[Value.int .i64 b, Value.slice an rows.length cn, Value.slice ao out.length co] 28)).alloc (.cells #[] 3)).heap.size) := by show _ ≤ _; simp
  clear hH hq
  have hd1 := decide_eq_true (show (m : Int) ≤ 256 by omega)
  go_enter Try.func21, Try.ntmps21
  go_wp2
  obtain ⟨W, hW⟩ : ∃ W, W = (w.alloc (Obj.cells #[Value.int .i64 b, Value.slice an rows.length cn, Value.slice ao out.length co] 28)).alloc (.cells #[] 3) := ⟨_, rfl⟩
  rw [← hW] at HC2 HB2 HH HZ ⊢
  clear hW HB HC
  go_loopw [5, 6] (fun o' i' wr => ∃ i : Nat, i ≤ m ∧ i' = .int .i64 i ∧ Hid (Has (Value.int .i64) 3 wr (w.heap.size + 1) o' (termsG b rows out i)) ∧ Hid (Cells3 wr w.heap.size 28 (.int .i64 b) (.slice an rows.length cn) (.slice ao out.length co)) ∧ Hid (Below w.heap.size w wr) ∧ Hid (w.heap.size + 1 ≤ wr.heap.size)) (fun _ i' _ => m - (intOf i').toNat)
  case atStart => exact ⟨0, Nat.zero_le _, rfl, HH, HC2, HB2, HZ⟩
  case round =>
    obtain ⟨i, him, rfl, hown, hC, hB, hZ⟩ := hrel
    by_cases hlt : i < m
    · have k0 := hC.out.c0
      have k1 := hC.out.c1
      have k2 := hC.out.c2
      have HL := Lib.hid (termsG_len b rows out i)
      have HT := Lib.hid (ask_small HQ.out i (by omega))
      have HTS := Lib.hid (termsG_succ b rows out i)
      go_wp2_with fail
      refine (spec_is _ b rows out _ (HS.out.below hB.out)).mono ?_
      rintro e W1 ⟨rfl, b1⟩
      rw [HQ.out]
      have hB1 := Lib.hid (hB.out.trans (b1.mono hB.out.size))
      have hC1 := Lib.hid (hC.out.below b1)
      have hO1 := Lib.hid (hown.out.below b1)
      have hZ1 := Lib.hid (Nat.le_trans hZ.out b1.size)
      clear b1 k0 k1 k2 hB hC hown hZ
      have k0 := hC1.out.c0
      have k1 := hC1.out.c1
      have k2 := hC1.out.c2
      go_wp2_with fail
      refine (spec_termat _ b rows out _ (HS.out.below hB1.out) (i : Int)).mono ?_
      rintro e W2 ⟨rfl, b2⟩
      rw [HT.out]
      have hB2 := Lib.hid (hB1.out.trans (b2.mono hB1.out.size))
      have hC2 := Lib.hid (hC1.out.below b2)
      have hO2 := Lib.hid (hO1.out.below b2)
      have hZ2 := Lib.hid (Nat.le_trans hZ1.out b2.size)
      clear b2 k0 k1 k2 hB1 hC1 hO1 hZ1
      go_wp2_with (at_builtin; refine append_one (enc := Value.int .i64) (e := 3) W2 rfl _ _ 23 rfl (w.heap.size + 1) i0 (.int .i64 0) 8 Try.underlying23 hi hz0 hz1 hz2 rfl u5 (termsG b rows out i) rfl hO2.out (termG b rows out i) rfl (fun _ => rfl) (by rw [HL.out]; omega) (by rw [HL.out]; omega) hZ2.out ?_; intro v' w' hown' hgrow')
      have hB3 : Hid (Below w.heap.size w w') := hO2.out.frame hB2.out (Nat.le_succ _) hgrow'
      have hC3 := Lib.hid (hC2.out.grown hgrow' (fun e => by have := (hO2.out.lt _ e).1; omega))
      have hO3 := Lib.hid hown'
      rw [← HTS.out] at hO3
      have hZ3 := Lib.hid (Nat.le_trans hZ2.out hgrow'.size)
      clear hown' hgrow' hO2 hC2 hB2 hZ2
      go_wp2
      go_roundw
      case rel => exact ⟨i + 1, by omega, by go_num, hO3, hC3, hB3, hZ3⟩
      case measure => simp [intOf]; omega
    · obtain rfl : i = m := by omega
      go_wp2
      go_ret
      exact ⟨_, rfl, hown.out.mono (Nat.le_succ _), hB.out⟩
theorem spec_pref (v : Value) (b : Int) (rows : List (List Int)) (out : List Int) (w : World) (h : LiesS w v b rows out) (n : Int) :
    Calls Try.prog 21 #[v, .int .i64 n] w (Gives (Value.int .i64) 3 (prefV b rows out n) w) := by
  cases hs : prefB b rows out n with
  | false => rw [prefV, if_neg (by simp [hs])]; exact spec_pref_no v b rows out w h n hs
  | true =>
    rw [prefV, if_pos hs]
    simp only [prefB, Bool.and_eq_true, decide_eq_true_eq] at hs
    obtain ⟨m, rfl⟩ := Int.eq_ofNat_of_zero_le (show 0 ≤ n by omega)
    exact spec_pref_yes v b rows out w h m hs.1.1 (by omega) (by omega)
theorem impl_pref_no (v : Value) (b : Int) (rows : List (List Int)) (out : List Int) (w : World) (h : LiesS w v b rows out) (n : Int) (hno : prefB b rows out n = false) :
    Calls Try.prog 22 #[v, .int .i64 n] w (Gives (Value.int .i64) 3 [] w) := by
  have HS := Lib.hid h
  obtain ⟨an, cn, ao, co, rfl⟩ := h.form
  clear h
  have hB : Below w.heap.size w (w.alloc (Obj.cells #[Value.int .i64 b, Value.slice an rows.length cn, Value.slice ao out.length co] 28)) := (Below.refl _ _).alloc (Nat.le_refl _) _
  have HC := Lib.hid (Cells3.new w 28 (.int .i64 b) (.slice an rows.length cn) (.slice ao out.length co))
  have HB := Lib.hid hB
  clear hB
  cases hq : seqB b rows out with
  | false =>
    have HQ := Lib.hid hq
    clear hq hno
    go_enter Try.func22, Try.ntmps22
    go_wp2_with fail
    refine (impl_is _ b rows out _ (HS.out.below HB.out)).mono ?_
    rintro e W1 ⟨rfl, b1⟩
    have HB1 := Lib.hid (HB.out.trans (b1.mono HB.out.size))
    have HC1 := Lib.hid (HC.out.below b1)
    have HZ1 := Lib.hid b1.size
    rw [size_alloc'] at HZ1
    rw [HQ.out]
    clear b1 HB HC
    go_wp2
    go_ret
    exact ⟨_, rfl, World.ownsRow_nil _ _ _ _, HB1.out⟩
  | true =>
    have HQ := Lib.hid hq
    by_cases h0 : n < 1
    · have hd0 := decide_eq_true h0
      clear hq hno
      go_enter Try.func22, Try.ntmps22
      go_wp2_with fail
      refine (impl_is _ b rows out _ (HS.out.below HB.out)).mono ?_
      rintro e W1 ⟨rfl, b1⟩
      have HB1 := Lib.hid (HB.out.trans (b1.mono HB.out.size))
      have HC1 := Lib.hid (HC.out.below b1)
      have HZ1 := Lib.hid b1.size
      rw [size_alloc'] at HZ1
      rw [HQ.out]
      clear b1 HB HC
      go_wp2
      go_ret
      exact ⟨_, rfl, World.ownsRow_nil _ _ _ _, HB1.out⟩
    · have hd0 := decide_eq_false h0
      have hd1 := decide_eq_true (show 256 < n by
        simp only [prefB, hq, Bool.true_and, Bool.and_eq_false_iff, decide_eq_false_iff_not] at hno
        omega)
      clear hq hno
      go_enter Try.func22, Try.ntmps22
      go_wp2_with fail
      refine (impl_is _ b rows out _ (HS.out.below HB.out)).mono ?_
      rintro e W1 ⟨rfl, b1⟩
      have HB1 := Lib.hid (HB.out.trans (b1.mono HB.out.size))
      have HC1 := Lib.hid (HC.out.below b1)
      have HZ1 := Lib.hid b1.size
      rw [size_alloc'] at HZ1
      rw [HQ.out]
      clear b1 HB HC
      go_wp2
      go_ret
      exact ⟨_, rfl, World.ownsRow_nil _ _ _ _, HB1.out⟩
set_option maxHeartbeats 1000000 in
theorem impl_pref_yes (v : Value) (b : Int) (rows : List (List Int)) (out : List Int) (w : World) (h : LiesS w v b rows out) (m : Nat) (hq : seqB b rows out = true) (h0 : 1 ≤ m) (h1 : m ≤ 256) :
    Calls Try.prog 22 #[v, .int .i64 m] w (Gives (Value.int .i64) 3 (termsG b rows out m) w) := by
  obtain ⟨i0, hi, hz0, hz1, hz2⟩ := info_parts Ints.infoI
  have HS := Lib.hid h
  obtain ⟨an, cn, ao, co, rfl⟩ := h.form
  clear h
  have hB : Below w.heap.size w (w.alloc (Obj.cells #[Value.int .i64 b, Value.slice an rows.length cn, Value.slice ao out.length co] 28)) := (Below.refl _ _).alloc (Nat.le_refl _) _
  have HC := Lib.hid (Cells3.new w 28 (.int .i64 b) (.slice an rows.length cn) (.slice ao out.length co))
  have HB := Lib.hid hB
  clear hB
  have HQ := Lib.hid hq
  have HV := Lib.hid (seqB_out hq)
  clear hq
  have hd0 := decide_eq_false (show ¬ (m : Int) < 1 by omega)
  have hd1 := decide_eq_false (show ¬ 256 < (m : Int) by omega)
  go_enter Try.func22, Try.ntmps22
  go_wp2_with fail
  refine (impl_is _ b rows out _ (HS.out.below HB.out)).mono ?_
  rintro e W1 ⟨rfl, b1⟩
  have HB1 := Lib.hid (HB.out.trans (b1.mono HB.out.size))
  have HC1 := Lib.hid (HC.out.below b1)
  have HZ1 := Lib.hid b1.size
  rw [size_alloc'] at HZ1
  rw [HQ.out]
  clear b1 HB HC
  go_wp2_with (at_make; refine wpList_make_full W1 rfl _ _ 23 rfl W1.heap.size 3 i0 (.int .i64 0) 1 Try.underlying23 hi hz0 hz1 .i64 .i64 _ _ m rfl rfl rfl rfl (by rw [hz2]; omega) (by unfold maxLen; omega) (Nat.le_refl _) ?_; intro w1 hown hgrow)
  have hO : Hid (w1.ownsRow W1.heap.size 3 1 (.slice (some ⟨W1.heap.size, 0, none⟩) m m) m ((termsG b rows out 0 ++ List.replicate (m - 0) (0 : Int)).map (Value.int .i64))) := by
    show w1.ownsRow _ _ _ _ _ _
    rw [Ints.zero_made] at hown
    simpa [termsG] using hown
  have hb := below_of_grown hgrow
  have hB := Lib.hid (HB1.out.trans (hb.mono HB1.out.size))
  have hC := Lib.hid (HC1.out.below hb)
  obtain ⟨z, hz⟩ : ∃ z, z = W1.heap.size := ⟨_, rfl⟩
  have hL : Hid (z < w1.heap.size) := by
    have h2 := World.ownsRow.lt hown z (by rw [hz]; rfl)
    exact h2.2
  rw [← hz] at HZ1 hO ⊢
  clear hown hgrow hb HB1 HC1 hz
  go_loopw [22] (fun i' wr => ∃ i : Nat, i ≤ m ∧ i' = .int .i64 i ∧ Hid (wr.ownsRow z 3 1 (.slice (some ⟨z, 0, none⟩) m m) m ((termsG b rows out i ++ List.replicate (m - i) (0 : Int)).map (Value.int .i64))) ∧ Hid (Cells3 wr w.heap.size 28 (.int .i64 b) (.slice an rows.length cn) (.slice ao out.length co)) ∧ Hid (Below w.heap.size w wr)) (fun i' _ => m - (intOf i').toNat)
  case atStart => exact ⟨0, Nat.zero_le _, rfl, hO, hC, hB⟩
  case round =>
    obtain ⟨i, him, rfl, hO, hC, hB⟩ := hrel
    by_cases hlt : i < m
    · have k0 := hC.out.c0
      have k1 := hC.out.c1
      have k2 := hC.out.c2
      have HL := Lib.hid (termsG_len b rows out i)
      have HST := Lib.hid (termsG_set b rows out i m hlt)
      go_wp2_with fail
      refine (impl_term _ b rows out _ (HS.out.below hB.out) (i : Int) HV.out).mono ?_
      rintro e W2 ⟨rfl, b2⟩
      have hB2 := Lib.hid (hB.out.trans (b2.mono hB.out.size))
      have hC2 := Lib.hid (hC.out.below b2)
      have hO2 := World.ownsRow.kept hO.out (grown_of_below b2) (.inr (by simp [Value.ownBlock]))
      clear b2 k0 k1 k2 hB hC hO
      have hc : W2.cell? ⟨z, i, none⟩ = some (.int .i64 0) := by
        rw [hO2.cellAt i (by omega)]
        rw [List.getElem?_map, List.getElem?_append_right (by rw [HL.out]; omega), List.getElem?_replicate, if_pos (by rw [HL.out]; omega)]
        rfl
      have hfr := hO2.frozenAt i
      have hst := hO2.stored i (.int .i64 (termG b rows out i))
      rw [HST.out] at hst
      have HS3 := Lib.hid hst
      clear hst hO2
      go_wp2
      go_roundw
      case rel => exact ⟨i + 1, by omega, by go_num, HS3.out.1, hC2.out.grown HS3.out.2 (fun e => by cases e; have := HZ1.out; omega), hB2.out.grown HS3.out.2 hB2.out.size (fun k hk => by cases hk; have := HZ1.out; omega)⟩
      case measure => simp [intOf]; omega
    · obtain rfl : i = m := by omega
      have HE : Hid (Has (Value.int .i64) 3 wr w.heap.size (.slice (some ⟨z, 0, none⟩) i i) (termsG b rows out i)) := by
        have h2 := hO.out
        rw [Nat.sub_self, List.replicate_zero, List.append_nil] at h2
        have h3 : Has (Value.int .i64) 3 wr z (.slice (some ⟨z, 0, none⟩) i i) (termsG b rows out i) := by
          show wr.ownsRow _ _ _ _ _ _
          rw [termsG_len]
          exact h2
        exact h3.mono (by have := HZ1.out; omega)
      go_wp2
      go_ret
      exact ⟨_, rfl, HE.out, hB.out⟩
theorem impl_pref (v : Value) (b : Int) (rows : List (List Int)) (out : List Int) (w : World) (h : LiesS w v b rows out) (n : Int) :
    Calls Try.prog 22 #[v, .int .i64 n] w (Gives (Value.int .i64) 3 (prefV b rows out n) w) := by
  cases hs : prefB b rows out n with
  | false => rw [prefV, if_neg (by simp [hs])]; exact impl_pref_no v b rows out w h n hs
  | true =>
    rw [prefV, if_pos hs]
    simp only [prefB, Bool.and_eq_true, decide_eq_true_eq] at hs
    obtain ⟨m, rfl⟩ := Int.eq_ofNat_of_zero_le (show 0 ≤ n by omega)
    exact impl_pref_yes v b rows out w h m hs.1.1 (by omega) (by omega)
end Seqs
end Go.Proofs.Ytdlcjklfhoekfaa
