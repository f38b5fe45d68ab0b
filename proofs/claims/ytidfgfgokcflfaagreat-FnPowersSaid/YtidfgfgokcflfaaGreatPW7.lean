/- Several texts of this proof, one behind the other: each says ahead of it what it shows and under which conditions. -/
import Derived.Test.YtidfgfgokcflfaaGreatPW6
import Derived.Test.YtidfgfgokcflfaaGreatSeqEq
import Derived.Test.YtidfgfgokcflfaaGreatPW3
import Derived.Deep.RegionHeld3
import Derived.Test.YtidfgfgokcflfaaGreatDrawW
/- Contracts of PrefixOf, of the program and of the model. No conditions beyond those that each states. -/
namespace Go.Proofs.YtidfgfgokcflfaaGreat
open Go.ChangeShapes Go.WideShapes Go.ChangeAt Go.RowKit
open Go.PlainAid Plain
set_option linter.unusedVariables false
namespace Seqs
open Digits
/-- The term n, told without a look whether it may be asked for. -/
def termG (b : Int) (rows : List (List Int)) (out : List Int) (i : Nat) : Int := out.getD (afterS rows (digV (i : Int) b)).toNat 0
def termsG (b : Int) (rows : List (List Int)) (out : List Int) (i : Nat) : List Int := (List.range i).map (termG b rows out)
theorem termsG_len (b : Int) (rows : List (List Int)) (out : List Int) (i : Nat) : (termsG b rows out i).length = i := by simp [termsG]
theorem termsG_succ (b : Int) (rows : List (List Int)) (out : List Int) (i : Nat) : termsG b rows out (i + 1) = termsG b rows out i ++ [termG b rows out i] := by simp [termsG, List.range_succ]
theorem termsG_set (b : Int) (rows : List (List Int)) (out : List Int) (i m : Nat) (h : i < m) : ((termsG b rows out i ++ List.replicate (m - i) 0).map (Value.int .i64)).set i (.int .i64 (termG b rows out i)) = (termsG b rows out (i + 1) ++ List.replicate (m - (i + 1)) 0).map (Value.int .i64) := by
  rw [show m - i = (m - (i + 1)) + 1 from by omega, List.replicate_succ, List.map_append, List.map_cons, set_mid _ _ _ _ i (by rw [List.length_map, termsG_len]), termsG_succ, List.append_assoc, List.map_append]
  rfl
/-- May the terms be asked for? -/
def prefB (b : Int) (rows : List (List Int)) (out : List Int) (n : Int) : Bool := seqB b rows out && decide (1 ≤ n) && decide (n ≤ 256)
/-- The terms before n, none where they may not be asked for. -/
def prefV (b : Int) (rows : List (List Int)) (out : List Int) (n : Int) : List Int := if prefB b rows out n = true then termsG b rows out n.toNat else []
theorem prefV_len (b : Int) (rows : List (List Int)) (out : List Int) (n : Int) : (prefV b rows out n).length ≤ 256 := by
  unfold prefV
  split
  · rename_i h
    simp only [prefB, Bool.and_eq_true, decide_eq_true_eq] at h
    rw [termsG_len]
    omega
  · simp
theorem ask_small {b : Int} {rows : List (List Int)} {out : List Int} (h : seqB b rows out = true) (i : Nat) (hi : i ≤ 256) : termV b rows out (i : Int) = termG b rows out i := by
  have hb := seqB_out h
  have h2 : (i : Int) < powV b 16 := by
    obtain ⟨n, rfl⟩ := Int.eq_ofNat_of_zero_le (show 0 ≤ b by have := hb.1; omega)
    have hn := hb.1
    rw [powV_in n (by omega) (by have := hb.2.1; omega)]
    have h3 : 2 ^ 16 ≤ n ^ 16 := Nat.pow_le_pow_left (by omega) 16
    have h4 : (2 : Nat) ^ 16 = 65536 := by decide
    omega
  rw [termV, if_pos (by simp [askB, h, h2])]
  rfl
theorem spec_pref_no (v : Value) (b : Int) (rows : List (List Int)) (out : List Int) (w : World) (h : LiesS w v b rows out) (n : Int) (hno : prefB b rows out n = false) :
    Calls Tryz.prog 59 #[v, .int .i64 n] w (Gives (Value.int .i64) 3 [] w) := by
  have HS := Lib.hid h
  obtain ⟨an, cn, ao, co, rfl⟩ := h.form
  clear h
  have hB : Below w.heap.size w (w.alloc (Obj.cells #[Value.int .i64 b, Value.slice an rows.length cn, Value.slice ao out.length co] 76)) := (Below.refl _ _).alloc (Nat.le_refl _) _
  have HC := Lib.hid (Cells3.new w 76 (.int .i64 b) (.slice an rows.length cn) (.slice ao out.length co))
  have HB := Lib.hid hB
  clear hB
  obtain ⟨W, hW⟩ : ∃ W, W = (w.alloc (Obj.cells #[Value.int .i64 b, Value.slice an rows.length cn, Value.slice ao out.length co] 76)).alloc (.cells #[] 3) := ⟨_, rfl⟩
  have HW := Lib.hid hW
  have hC := HC.out.alloc (.cells #[] 3)
  have hB := HB.out.alloc (o := .cells #[] 3) (by simp) 
  have hH := Has.lit (enc := Value.int .i64) (e := 3) (base := w.heap.size) (w.alloc (Obj.cells #[Value.int .i64 b, Value.slice an rows.length cn, Value.slice ao out.length co] 76)) [] HB.out.size (by simp)
  have hH2 : Hid (Has (Value.int .i64) 3 ((w.alloc (Obj.cells #[Value.int .i64 b, Value.slice an rows.length cn, Value.slice ao out.length co] 76)).alloc (.cells #[] 3)) w.heap.size (.slice (some ⟨(w.alloc (Obj.cells #[Value.int .i64 b, Value.slice an rows.length cn, Value.slice ao out.length co] 76)).heap.size, 0, none⟩) 0 0) []) := hH
  rw [size_alloc'] at hH2
  have k0 := hC.c0
  have k1 := hC.c1
  have k2 := hC.c2
  have HB2 : Hid (Below w.heap.size w ((w.alloc (Obj.cells #[Value.int .i64 b, Value.slice an rows.length cn, Value.slice ao out.length co] 76)).alloc (.cells #[] 3))) := hB
  clear hC hH hB hW
  by_cases h0 : 0 < n
  · by_cases h1 : n ≤ 256
    · have HQ : Hid (seqB b rows out = false) := by
        show _ = _
        simp only [prefB, Bool.and_eq_false_iff, decide_eq_false_iff_not] at hno
        rcases hno with (h2 | h2) | h2
        · exact h2
        · omega
        · omega
      clear hno
      have hd0 := decide_eq_true h0
      have hd1 := decide_eq_true h1
      go_enter Tryz.func59, Tryz.ntmps59
      go_wp2
      go_loopw [5, 6] (fun o' i' wr => i' = .int .i64 0 ∧ o' = .slice (some ⟨w.heap.size + 1, 0, none⟩) 0 0 ∧ wr = (w.alloc (Obj.cells #[Value.int .i64 b, Value.slice an rows.length cn, Value.slice ao out.length co] 76)).alloc (.cells #[] 3)) (fun _ _ _ => 0)
      case atStart => exact ⟨rfl, rfl, rfl⟩
      case round =>
        obtain ⟨rfl, rfl, rfl⟩ := hrel
        go_wp2_with fail
        refine (spec_is _ b rows out _ (HS.out.below HB2.out)).mono ?_
        rintro e W1 ⟨rfl, b1⟩
        rw [HQ.out]
        have HB3 := Lib.hid (HB2.out.trans (b1.mono HB2.out.size))
        have HH3 := Lib.hid (hH2.out.below b1)
        clear b1
        go_wp2
        go_ret
        exact ⟨_, rfl, HH3.out, HB3.out⟩
    · have hd0 := decide_eq_true h0
      have hd1 := decide_eq_false h1
      clear hno
      go_enter Tryz.func59, Tryz.ntmps59
      go_wp2
      go_loopw [5, 6] (fun o' i' wr => i' = .int .i64 0 ∧ o' = .slice (some ⟨w.heap.size + 1, 0, none⟩) 0 0 ∧ wr = (w.alloc (Obj.cells #[Value.int .i64 b, Value.slice an rows.length cn, Value.slice ao out.length co] 76)).alloc (.cells #[] 3)) (fun _ _ _ => 0)
      case atStart => exact ⟨rfl, rfl, rfl⟩
      case round =>
        obtain ⟨rfl, rfl, rfl⟩ := hrel
        go_wp2
        go_ret
        exact ⟨_, rfl, hH2.out, HB2.out⟩
  · have hd0 := decide_eq_false h0
    clear hno
    go_enter Tryz.func59, Tryz.ntmps59
    go_wp2
    go_loopw [5, 6] (fun o' i' wr => i' = .int .i64 0 ∧ o' = .slice (some ⟨w.heap.size + 1, 0, none⟩) 0 0 ∧ wr = (w.alloc (Obj.cells #[Value.int .i64 b, Value.slice an rows.length cn, Value.slice ao out.length co] 76)).alloc (.cells #[] 3)) (fun _ _ _ => 0)
    case atStart => exact ⟨rfl, rfl, rfl⟩
    case round =>
      obtain ⟨rfl, rfl, rfl⟩ := hrel
      go_wp2
      go_ret
      exact ⟨_, rfl, hH2.out, HB2.out⟩
set_option maxHeartbeats 1000000 in
theorem spec_pref_yes (v : Value) (b : Int) (rows : List (List Int)) (out : List Int) (w : World) (h : LiesS w v b rows out) (m : Nat) (hq : seqB b rows out = true) (h0 : 1 ≤ m) (h1 : m ≤ 256) :
    Calls Tryz.prog 59 #[v, .int .i64 m] w (Gives (Value.int .i64) 3 (termsG b rows out m) w) := by
  obtain ⟨i0, hi, hz0, hz1, hz2⟩ := info_parts Ints.infoI
  have HS := Lib.hid h
  obtain ⟨an, cn, ao, co, rfl⟩ := h.form
  clear h
  have hB : Below w.heap.size w (w.alloc (Obj.cells #[Value.int .i64 b, Value.slice an rows.length cn, Value.slice ao out.length co] 76)) := (Below.refl _ _).alloc (Nat.le_refl _) _
  have HC := Lib.hid (Cells3.new w 76 (.int .i64 b) (.slice an rows.length cn) (.slice ao out.length co))
  have HB := Lib.hid hB
  clear hB
  have HQ := Lib.hid hq
  have hH : Has (Value.int .i64) 3 ((w.alloc (Obj.cells #[Value.int .i64 b, Value.slice an rows.length cn, Value.slice ao out.length co] 76)).alloc (.cells #[] 3)) (w.alloc (Obj.cells #[Value.int .i64 b, Value.slice an rows.length cn, Value.slice ao out.length co] 76)).heap.size (.slice (some ⟨(w.alloc (Obj.cells #[Value.int .i64 b, Value.slice an rows.length cn, Value.slice ao out.length co] 76)).heap.size, 0, none⟩) 0 0) [] := Has.lit (enc := Value.int .i64) (e := 3) (w.alloc (Obj.cells #[Value.int .i64 b, Value.slice an rows.length cn, Value.slice ao out.length co] 76)) [] (Nat.le_refl _) (by simp)
  rw [size_alloc'] at hH
  have HH := Lib.hid hH
  have HC2 := Lib.hid (HC.out.alloc (.cells #[] 3))
  have HB2 : Hid (Below w.heap.size w ((w.alloc (Obj.cells #[Value.int .i64 b, Value.slice an rows.length cn, Value.slice ao out.length co] 76)).alloc (.cells #[] 3))) := HB.out.alloc (by simp) _
  have HZ : Hid (w.heap.size + 1 ≤ ((w.alloc (Obj.cells #[Value.int .i64 b, Value.slice an rows.length cn, Value.slice ao out.length co] 76)).alloc (.cells #[] 3)).heap.size) := by show _ ≤ _; simp
  clear hH hq
  have hd1 := decide_eq_true (show (m : Int) ≤ 256 by omega)
  go_enter Tryz.func59, Tryz.ntmps59
  go_wp2
  obtain ⟨W, hW⟩ : ∃ W, W = (w.alloc (Obj.cells #[Value.int .i64 b, Value.slice an rows.length cn, Value.slice ao out.length co] 76)).alloc (.cells #[] 3) := ⟨_, rfl⟩
  rw [← hW] at HC2 HB2 HH HZ ⊢
  clear hW HB HC
  go_loopw [5, 6] (fun o' i' wr => ∃ i : Nat, i ≤ m ∧ i' = .int .i64 i ∧ Hid (Has (Value.int .i64) 3 wr (w.heap.size + 1) o' (termsG b rows out i)) ∧ Hid (Cells3 wr w.heap.size 76 (.int .i64 b) (.slice an rows.length cn) (.slice ao out.length co)) ∧ Hid (Below w.heap.size w wr) ∧ Hid (w.heap.size + 1 ≤ wr.heap.size)) (fun _ i' _ => m - (intOf i').toNat)
  case atStart => exact ⟨0, Nat.zero_le _, rfl, HH, HC2, HB2, HZ⟩
  case round =>
    obtain ⟨i, him, rfl, hown, hC, hB, hZ⟩ := hrel
    by_cases hlt : i < m
    · have k0 := hC.out.c0
      have k1 := hC.out.c1
      have k2 := hC.out.c2
      have HL := Lib.hid (termsG_len b rows out i)
      have HT := Lib.hid (ask_small HQ.out i (by omega))
      have HTS := Lib.hid (termsG_succ b rows out i)
      go_wp2_with fail
      refine (spec_is _ b rows out _ (HS.out.below hB.out)).mono ?_
      rintro e W1 ⟨rfl, b1⟩
      rw [HQ.out]
      have hB1 := Lib.hid (hB.out.trans (b1.mono hB.out.size))
      have hC1 := Lib.hid (hC.out.below b1)
      have hO1 := Lib.hid (hown.out.below b1)
      have hZ1 := Lib.hid (Nat.le_trans hZ.out b1.size)
      clear b1 k0 k1 k2 hB hC hown hZ
      have k0 := hC1.out.c0
      have k1 := hC1.out.c1
      have k2 := hC1.out.c2
      go_wp2_with fail
      refine (spec_termat _ b rows out _ (HS.out.below hB1.out) (i : Int)).mono ?_
      rintro e W2 ⟨rfl, b2⟩
      rw [HT.out]
      have hB2 := Lib.hid (hB1.out.trans (b2.mono hB1.out.size))
      have hC2 := Lib.hid (hC1.out.below b2)
      have hO2 := Lib.hid (hO1.out.below b2)
      have hZ2 := Lib.hid (Nat.le_trans hZ1.out b2.size)
      clear b2 k0 k1 k2 hB1 hC1 hO1 hZ1
      go_wp2_with (at_builtin; refine append_one (enc := Value.int .i64) (e := 3) W2 rfl _ _ 24 rfl (w.heap.size + 1) i0 (.int .i64 0) 8 Tryz.underlying24 hi hz0 hz1 hz2 rfl u5 (termsG b rows out i) rfl hO2.out (termG b rows out i) rfl (fun _ => rfl) (by rw [HL.out]; omega) (by rw [HL.out]; omega) hZ2.out ?_; intro v' w' hown' hgrow')
      have hB3 : Hid (Below w.heap.size w w') := hO2.out.frame hB2.out (Nat.le_succ _) hgrow'
      have hC3 := Lib.hid (hC2.out.grown hgrow' (fun e => by have := (hO2.out.lt _ e).1; omega))
      have hO3 := Lib.hid hown'
      rw [← HTS.out] at hO3
      have hZ3 := Lib.hid (Nat.le_trans hZ2.out hgrow'.size)
      clear hown' hgrow' hO2 hC2 hB2 hZ2
      go_wp2
      go_roundw
      case rel => exact ⟨i + 1, by omega, by go_num, hO3, hC3, hB3, hZ3⟩
      case measure => simp [intOf]; omega
    · obtain rfl : i = m := by omega
      go_wp2
      go_ret
      exact ⟨_, rfl, hown.out.mono (Nat.le_succ _), hB.out⟩
theorem spec_pref (v : Value) (b : Int) (rows : List (List Int)) (out : List Int) (w : World) (h : LiesS w v b rows out) (n : Int) :
    Calls Tryz.prog 59 #[v, .int .i64 n] w (Gives (Value.int .i64) 3 (prefV b rows out n) w) := by
  cases hs : prefB b rows out n with
  | false => rw [prefV, if_neg (by simp [hs])]; exact spec_pref_no v b rows out w h n hs
  | true =>
    rw [prefV, if_pos hs]
    simp only [prefB, Bool.and_eq_true, decide_eq_true_eq] at hs
    obtain ⟨m, rfl⟩ := Int.eq_ofNat_of_zero_le (show 0 ≤ n by omega)
    exact spec_pref_yes v b rows out w h m hs.1.1 (by omega) (by omega)
end Seqs
end Go.Proofs.YtidfgfgokcflfaaGreat
/- Contracts of the model's draws of words with several makers, of DrawSquaresOf and DrawHasPower. No conditions beyond those that each states. -/
namespace Go.Proofs.YtidfgfgokcflfaaGreat
open Go.ChangeShapes Go.WideShapes Go.ChangeAt Go.RowKit
open Go.PlainAid Plain
set_option linter.unusedVariables false
namespace Cursor
open Seqs Ints Mor
theorem grown_add {w w1 w2 : World} {c : Nat} (h : w.grownBy w1 (some c)) (g : w1.grownBy w2 (some c)) : w.grownBy w2 (some c) := grown_more h g (fun k hk => .inl (Option.some.inj hk).symm)
theorem grown_bel {w w1 w2 : World} {c : Nat} (h : w.grownBy w1 (some c)) (g : Below w1.heap.size w1 w2) : w.grownBy w2 (some c) := grown_more h (grown_of_below g) (fun k hk => by cases hk)
theorem grown_drew_left {w w' : World} {c : Nat} (h : w.drew.grownBy w' (some c)) : w.grownBy w' (some c) := ⟨h.os, h.tape, h.output, h.size, h.block⟩
theorem OwnM.moved' {w w' : World} {lo hi c : Nat} {v : Value} {m : List (List Int)} (h : OwnM w lo hi v m) (hg : w.grownBy w' (some c)) (hc : c < lo) : OwnM w' lo hi v m := by
  obtain ⟨vn, us, h1, h2⟩ := h
  exact ⟨vn, us, h1, ⟨h2.top.moved hg hc, h2.lt, Nat.le_trans h2.le hg.size, h2.rows.moved hg hc⟩⟩
theorem ownS_moved {w w' : World} {lo hi c : Nat} {v : Value} {b : Int} {rows : List (List Int)} {out : List Int} (h : OwnS w lo hi v b rows out) (hg : w.grownBy w' (some c)) (hc : c < lo) : OwnS w' lo hi v b rows out := by
  obtain ⟨vn, vo, us, h1, h2, h3⟩ := h
  exact ⟨vn, vo, us, h1, ⟨h2.top.moved hg hc, h2.lt, Nat.le_trans h2.le hg.size, h2.rows.moved hg hc⟩, h3.moved hg hc⟩
theorem Stands.bel {W w w' : World} {p : Nat} {a : Option Addr} {len cap : Nat} (h : Stands W w p a len cap) (hb : Below w.heap.size w w') : Stands W w' p a len cap := h.other (r := none) (grown_of_below hb) (fun q hq => by cases hq)
set_option maxRecDepth 100000 in
set_option maxHeartbeats 4000000 in
theorem long8 (W w : World) (c : Nat) (a : Option Addr) (len cap : Nat) (hlen : len ≤ 1048576) (hcode : CodeIs W W.heap.size a len) (hs : Stands W w c a len cap) :
    Calls Tryz.prog 44 #[.pointer (some ⟨c, 0, none⟩)] w (SomeList (fun xs => xs.length ≤ 300) w (fun w' => w.grownBy w' (some c) ∧ CurIs w' c a len cap)) := by
  obtain ⟨i0, hi, hz0, hz1, hz2⟩ := info_parts infoI
  have HB := Lib.hid (fun (w : World) (n : Int) (hn0 : 1 ≤ n) (hn1 : n ≤ 9223372036854775807) (hs : Stands W w c a len cap) => below W w c a len cap n hn0 hn1 hlen hcode hs)
  have HD := Lib.hid (fun (w : World) (hs : Stands W w c a len cap) => draw3 W w c a len cap hlen hcode hs)
  have HM := Lib.hid (fun (w : World) (hs : Stands W w c a len cap) => mor7 W w c a len cap hlen hcode hs)
  have HW := Lib.hid (fun (w : World) (n : Int) (h0 : 1 ≤ n) (h1 : n ≤ 100) (hs : Stands W w c a len cap) => word7 W w c a len cap n h0 h1 hlen hcode hs)
  have hcw := hs.lt
  have hown := hs.own
  have HS := Lib.hid hs
  clear hcode hs
  go_enter Tryz.func44, Tryz.ntmps44
  go_wp2_with fail
  refine (HB.out _ 4 (by decide) (by decide) HS.out).mono ?_
  rintro e W1 ⟨x, ⟨hx0, hx1⟩, rfl, hg1, hc1⟩
  have HS1 := Lib.hid (HS.out.next hg1 hc1)
  have HG1 := Lib.hid hg1
  have hsz1 := hg1.size
  clear hg1 hc1
  by_cases e0 : x = 0
  · subst e0
    go_wp2_with fail
    refine (HD.out _ HS1.out).mono ?_
    rintro e W2 ⟨vs, b0, rows, out, hok, rfl, ho, hg2, hc2⟩
    have HS2 := Lib.hid (HS1.out.next hg2 hc2)
    have HG2 := Lib.hid (grown_add HG1.out hg2)
    obtain ⟨an, cn, ao, co, rfl⟩ := ho.form
    have HL2 := Lib.hid ho
    have HX : Hid (c < W1.heap.size) := HS1.out.lt
    clear hg2 hc2 ho hok HS1 HG1
    go_upto_region 4 with (fail)
    obtain ⟨W3, hW3⟩ : ∃ W, W = W2.alloc (.cells #[.int .i64 b0, .slice an rows.length cn, .slice ao out.length co] 76) := ⟨_, rfl⟩
    have hb3 : Below W2.heap.size W2 W3 := by rw [hW3]; exact (Below.refl _ _).alloc (Nat.le_refl _) _
    have hC3 : Cells3 W3 W2.heap.size 76 (.int .i64 b0) (.slice an rows.length cn) (.slice ao out.length co) := by rw [hW3]; exact Cells3.new W2 _ _ _ _
    rw [← hW3]
    have HS3 := Lib.hid (HS2.out.bel hb3)
    have HG3 := Lib.hid (grown_bel HG2.out hb3)
    have HL3 := Lib.hid (HL2.out.below hb3)
    have HC3 := Lib.hid hC3
    have k0 := hC3.c0
    have k1 := hC3.c1
    have k2 := hC3.c2
    have hcq : Hid (c ≠ W2.heap.size) := fun e => by have := HS2.out.lt; omega
    have hD : Below W3.heap.size W3 W3.drew := below_drew' W3
    clear hW3 hb3 hC3 HS2 HG2 HL2
    go_region_law (first
      | (go_simp; go_at_call 41; (with_reducible refine (HB.out _ 40 (by decide) (by decide) HS3.out.drew).mono ?_); rintro e W4 ⟨y, ⟨hy0, hy1⟩, rfl, hg4, hc4⟩; have HG4 := Lib.hid (grown_add (grown_bel HG3.out hD) hg4); have HS4 := Lib.hid (HS3.out.drew.next hg4 hc4); have hg4' := grown_drew_left hg4; have HL4 := Lib.hid (ownS_moved HL3.out hg4' HX.out); have hC4 := HC3.out.grown hg4' (by have := hcq.out; simp; omega); have k0 := hC4.c0; have k1 := hC4.c1; have k2 := hC4.c2)
      | (go_simp; go_at_call 59; (with_reducible refine (spec_pref _ b0 rows out _ HL4.out.lies _).mono ?_); rintro e W5 ⟨v5, rfl, ho5, hb5⟩))
    all_goals
      have HO5 := Lib.hid ho5
      have HS5 := Lib.hid (HS4.out.bel hb5)
      have HG5 := Lib.hid (grown_bel HG4.out hb5)
      have HB5 : Hid (w.heap.size ≤ W4.heap.size) := HG4.out.size
      clear k0 k1 k2 ho5 hb5 hC4
      go_wp2
      go_ret
      exact ⟨_, _, Nat.le_trans (prefV_len _ _ _ _) (by omega), rfl, HO5.out.mono HB5.out, HG5.out, HS5.out.cur⟩
  · have d0 : (x == 0) = false := by simpa using e0
    by_cases e1 : x = 1
    · subst e1
      go_wp2_with fail
      refine (HM.out _ HS1.out).mono ?_
      rintro e W2 ⟨vs, m, rfl, ho, hg2, hc2⟩
      have HS2 := Lib.hid (HS1.out.next hg2 hc2)
      have HG2 := Lib.hid (grown_add HG1.out hg2)
      obtain ⟨an, cn, rfl⟩ := ho.form
      have HL2 := Lib.hid ho
      have HX : Hid (c < W1.heap.size) := HS1.out.lt
      clear hg2 hc2 ho HS1 HG1
      go_upto_region 7 with (fail)
      obtain ⟨W3, hW3⟩ : ∃ W, W = W2.alloc (.cells #[.slice an m.length cn] 80) := ⟨_, rfl⟩
      have hb3 : Below W2.heap.size W2 W3 := by rw [hW3]; exact (Below.refl _ _).alloc (Nat.le_refl _) _
      have hC3 : Cells1 W3 W2.heap.size 80 (.slice an m.length cn) := by rw [hW3]; exact Cells1.new W2 _ _
      rw [← hW3]
      have HS3 := Lib.hid (HS2.out.bel hb3)
      have HG3 := Lib.hid (grown_bel HG2.out hb3)
      have HL3 := Lib.hid (HL2.out.below hb3)
      have HC3 := Lib.hid hC3
      have k0 := hC3.c0
      have hcq : Hid (c ≠ W2.heap.size) := fun e => by have := HS2.out.lt; omega
      have hD : Below W3.heap.size W3 W3.drew := below_drew' W3
      clear hW3 hb3 hC3 HS2 HG2 HL2
      go_region_law (first
        | (go_simp; go_at_call 41; (with_reducible refine (HB.out _ 40 (by decide) (by decide) HS3.out.drew).mono ?_); rintro e W4 ⟨y, ⟨hy0, hy1⟩, rfl, hg4, hc4⟩; have HG4 := Lib.hid (grown_add (grown_bel HG3.out hD) hg4); have HS4 := Lib.hid (HS3.out.drew.next hg4 hc4); have hg4' := grown_drew_left hg4; have HL4 : Hid (OwnedM W4 (.agg #[.slice an m.length cn]) m) := (show OwnedM _ _ _ from ⟨_, _, OwnM.moved' HL3.out hg4' HX.out⟩); have hC4 := HC3.out.grown hg4' (by have := hcq.out; simp; omega); have k0 := hC4.c0)
        | (go_simp; go_at_call 61; (with_reducible refine (spec_fix _ m 0 _ _ HL4.out).mono ?_); rintro e W5 ⟨v5, rfl, ho5, hb5⟩))
      all_goals
        have HO5 := Lib.hid ho5
        have HS5 := Lib.hid (HS4.out.bel hb5)
        have HG5 := Lib.hid (grown_bel HG4.out hb5)
        have HB5 : Hid (w.heap.size ≤ W4.heap.size) := HG4.out.size
        clear k0 ho5 hb5 hC4
        go_wp2
        go_ret
        exact ⟨_, _, Nat.le_trans (fixV_len _ _ _) (by omega), rfl, HO5.out.mono HB5.out, HG5.out, HS5.out.cur⟩
    · have d1 : (x == 1) = false := by simpa using e1
      by_cases e2 : x = 2
      · subst e2
        go_wp2_with fail
        refine (HW.out _ 2 (by decide) (by decide) HS1.out).mono ?_
        rintro e W2 ⟨v2, xs, hxl, rfl, ho, hg2, hc2⟩
        have HS2 := Lib.hid (HS1.out.next hg2 hc2)
        have HG2 := Lib.hid (grown_add HG1.out hg2)
        have HL2 := Lib.hid ho.lies
        obtain ⟨an, cn, rfl, _⟩ := ho.form
        have hb2 : w.heap.size ≤ W2.heap.size := HG2.out.size
        have hbx : Below W2.heap.size W2 (W2.alloc (.cells #[] 3)) := (Below.refl _ _).alloc (Nat.le_refl _) _
        have HX0 : Hid (Has (Value.int .i64) 3 (W2.alloc (.cells #[] 3)) W2.heap.size (.slice (some ⟨W2.heap.size, 0, none⟩) 0 0) []) := has_lit0 rfl (Nat.le_refl _)
        have HLX := Lib.hid (HL2.out.below hbx)
        have HBX := Lib.hid hbx
        clear hg2 hc2 ho HS1 HG1 hbx
        go_wp2_with (first
          | (at_builtin; refine append_lies (enc := (Value.int .i64)) (e := 3) _ rfl (.tmp 36) (.tmp 37) 24 rfl W2.heap.size i0 (.int .i64 0) 8 Tryz.underlying24 hi hz0 hz1 hz2 rfl _ [] rfl HX0.out (.slice an xs.length cn) xs rfl HLX.out (fun _ => rfl) (by simp; omega) (by simp; omega) (by simp) ?_; intro v3 w3 ho3 hg3; have HO3 := Lib.hid ho3; have HB3 := Lib.hid (HX0.out.frame HBX.out (Nat.le_refl _) hg3); clear ho3 hg3)
          | (at_builtin; refine append_lies (enc := (Value.int .i64)) (e := 3) _ rfl (.tmp 38) (.tmp 39) 24 rfl W2.heap.size i0 (.int .i64 0) 8 Tryz.underlying24 hi hz0 hz1 hz2 rfl _ _ rfl HO3.out (.slice an xs.length cn) xs rfl (HL2.out.below HB3.out) (fun _ => rfl) (by simp; omega) (by simp; omega) HB3.out.size ?_; intro v4 w4 ho4 hg4; have HO4 := Lib.hid ho4; have HB4 := Lib.hid (HO3.out.frame HB3.out (Nat.le_refl _) hg4); clear ho4 hg4)
          | (at_builtin; refine append_lies (enc := (Value.int .i64)) (e := 3) _ rfl (.tmp 40) (.tmp 41) 24 rfl W2.heap.size i0 (.int .i64 0) 8 Tryz.underlying24 hi hz0 hz1 hz2 rfl _ _ rfl HO4.out (.slice an xs.length cn) xs rfl (HL2.out.below HB4.out) (fun _ => rfl) (by simp; omega) (by simp; omega) HB4.out.size ?_; intro v5 w5 ho5 hg5; have HO5 := Lib.hid ho5; have HB5 := Lib.hid (HO4.out.frame HB4.out (Nat.le_refl _) hg5); clear ho5 hg5))
        go_ret
        exact ⟨_, _, by simp; omega, rfl, HO5.out.mono hb2, grown_bel HG2.out HB5.out, (HS2.out.bel HB5.out).cur⟩
      · have d2 : (x == 2) = false := by simpa using e2
        go_wp2_with fail
        refine (HW.out _ 3 (by decide) (by decide) HS1.out).mono ?_
        rintro e W2 ⟨v2, xs, hxl, rfl, ho, hg2, hc2⟩
        have HS2 := Lib.hid (HS1.out.next hg2 hc2)
        have HG2 := Lib.hid (grown_add HG1.out hg2)
        have HO2 := Lib.hid ho
        clear hg2 hc2 ho HS1 HG1
        go_wp2
        go_ret
        exact ⟨_, _, by omega, rfl, HO2.out.mono hsz1, HG2.out, HS2.out.cur⟩
def nums8 : List Int := [-1, 16]
theorem nums8_ok : ∀ v ∈ nums8, I64 v := by unfold nums8 I64; simp
set_option maxRecDepth 100000 in
set_option maxHeartbeats 4000000 in
theorem any8 (W w : World) (c : Nat) (a : Option Addr) (len cap : Nat) (hlen : len ≤ 1048576) (hcode : CodeIs W W.heap.size a len) (hs : Stands W w c a len cap) :
    Calls Tryz.prog 24 #[.pointer (some ⟨c, 0, none⟩)] w (SomeList (fun xs => xs.length ≤ 301) w (fun w' => w.grownBy w' (some c) ∧ CurIs w' c a len cap)) := by
  obtain ⟨i0, hi, hz0, hz1, hz2⟩ := info_parts infoI
  have HN := Lib.hid (fun (w : World) (hs : Stands W w c a len cap) => long8 W w c a len cap hlen hcode hs)
  have HO := Lib.hid (fun (w : World) (hs : Stands W w c a len cap) => once W w c a len cap 16 (by decide) (by decide) hlen hcode hs)
  have HP := Lib.hid (fun (w : World) (q : Nat) (hq : q ≠ c) (hqs : q < w.heap.size) (hl : ListIs w q 2) (hs : Stands W w c a len cap) => pickInt W w c a len cap q 2 2 (by decide) (by decide) hq hqs hl hlen hcode hs)
  have hcw := hs.lt
  have hown := hs.own
  have HS := Lib.hid hs
  clear hcode hs
  go_enter Tryz.func24, Tryz.ntmps24
  go_wp2_with fail
  refine (HN.out _ HS.out).mono ?_
  rintro e W1 ⟨v1, xs, hxl, rfl, ho, hg1, hc1⟩
  have HS1 := Lib.hid (HS.out.next hg1 hc1)
  have HG1 := Lib.hid hg1
  have HO1 := Lib.hid ho
  clear hg1 hc1 ho
  go_wp2_with fail
  refine (HO.out _ HS1.out).mono ?_
  rintro e W2 ⟨t, rfl, hg2, hc2⟩
  have HS2 := Lib.hid (HS1.out.next hg2 hc2)
  have HG2 := Lib.hid (grown_add HG1.out hg2)
  have HO2 := Lib.hid (HO1.out.moved hg2 hcw)
  obtain ⟨an, cn, rfl, _⟩ := HO2.out.form
  clear hg2 hc2 HS1 HG1 HO1
  cases t with
  | false =>
    go_wp2
    go_ret
    exact ⟨_, _, by omega, rfl, HO2.out, HG2.out, HS2.out.cur⟩
  | true =>
    have hlt := HS2.out.lt
    have hb2 := HG2.out.size
    go_wp2_with fail
    refine (HP.out _ W2.heap.size (by omega) (by simp) (list_lit W2 nums8 _ nums8_ok) (HS2.out.alloc _)).mono ?_
    rintro e W3 ⟨y, hy, rfl, hg3, hc3⟩
    have HS3 := Lib.hid ((HS2.out.alloc _).next hg3 hc3)
    have hga := grown_add (grown_new (grown_self W2 c) _) hg3
    have HG3 := Lib.hid (grown_add HG2.out hga)
    have HO3 := Lib.hid (HO2.out.moved hga hcw)
    have hb3 : w.heap.size ≤ W3.heap.size := HG3.out.size
    clear hg3 hc3 hga HS2 HG2 HO2 hy hb2
    go_wp2_with (at_builtin; refine append_one (enc := (Value.int .i64)) (e := 3) W3 rfl _ _ 24 rfl w.heap.size i0 (.int .i64 0) 8 Tryz.underlying24 hi hz0 hz1 hz2 rfl (.slice an xs.length cn) xs rfl HO3.out y rfl (fun _ => rfl) (by omega) (by omega) hb3 ?_; intro v' w' hown' hgrow'; have HO4 := Lib.hid hown'; have HG4 := Lib.hid (grown_more HG3.out hgrow' (fun k hk => .inr (HO3.out.lt k hk).1)); have HS4 := Lib.hid (HS3.out.other hgrow' (fun k hk => by have := (HO3.out.lt k hk).1; omega)); clear hown' hgrow')
    go_ret
    exact ⟨_, _, by simp; omega, rfl, HO4.out, HG4.out, HS4.out.cur⟩
theorem new_st {W w w' : World} {p : Nat} {a : Option Addr} {len cap : Nat} (hb : Below W.heap.size W w) (hp : w.heap.size ≤ p) (hg : w.grownBy w' none) (hc : CurIs w' p a len cap) : Stands W w' p a len cap :=
  ⟨hb.grown hg hb.size (fun k hk => by cases hk), Nat.le_trans hb.size hp, hc⟩
set_option maxHeartbeats 2000000 in
theorem drawSq (w : World) (a : Option Addr) (len cap : Nat) (hlen : len ≤ 1048576) (hcode : CodeIs w w.heap.size a len) :
    Calls Tryz.prog 5 #[.slice a len cap] w fun e w' => ∃ v xs, xs.length ≤ 301 ∧ e = .returned v ∧ OwnI w' w.heap.size w'.heap.size v xs ∧ Below w.heap.size w w' := by
  have HN := Lib.hid (new w w a len cap hlen hcode (Below.refl _ _))
  have HA := Lib.hid (fun (W : World) (c : Nat) (hs : Stands w W c a len cap) => any8 w W c a len cap hlen hcode hs)
  clear hcode
  go_enter Tryz.func5, Tryz.ntmps5
  go_wp2_with fail
  refine HN.out.mono ?_
  rintro e W1 ⟨c, rfl, hp, hg, hc⟩
  have HS1 := Lib.hid (new_st (Below.refl w.heap.size w) hp hg hc)
  have hz := hg.size
  clear hp hg hc
  go_wp2_with fail
  refine (HA.out _ c HS1.out).mono ?_
  rintro e W2 ⟨v, xs, hxl, rfl, ho, hg2, hc2⟩
  have HS2 := Lib.hid (HS1.out.next hg2 hc2)
  have HO2 := Lib.hid (ho.mono hz)
  clear ho hg2 hc2
  go_wp2
  go_ret
  exact ⟨_, _, hxl, rfl, own_of_has HO2.out, HS2.out.below⟩
set_option maxHeartbeats 2000000 in
theorem drawHP (w : World) (a : Option Addr) (len cap : Nat) (hlen : len ≤ 1048576) (hcode : CodeIs w w.heap.size a len) :
    Calls Tryz.prog 21 #[.slice a len cap] w fun e w' => ∃ v xs, ∃ num den : Int, xs.length ≤ 301 ∧ e = .returned (.tuple #[v, .int .i64 num, .int .i64 den]) ∧ OwnI w' w.heap.size w'.heap.size v xs ∧ Below w.heap.size w w' := by
  have HN := Lib.hid (new w w a len cap hlen hcode (Below.refl _ _))
  have HA := Lib.hid (fun (W : World) (c : Nat) (hs : Stands w W c a len cap) => any8 w W c a len cap hlen hcode hs)
  have HB := Lib.hid (fun (W : World) (c : Nat) (n : Int) (hn0 : 1 ≤ n) (hn1 : n ≤ 9223372036854775807) (hs : Stands w W c a len cap) => below w W c a len cap n hn0 hn1 hlen hcode hs)
  clear hcode
  go_enter Tryz.func21, Tryz.ntmps21
  go_wp2_with fail
  refine HN.out.mono ?_
  rintro e W1 ⟨c, rfl, hp, hg, hc⟩
  have HS1 := Lib.hid (new_st (Below.refl w.heap.size w) hp hg hc)
  have hz := hg.size
  have hcz : w.heap.size ≤ c := hp
  clear hp hg hc
  go_wp2_with fail
  refine (HA.out _ c HS1.out).mono ?_
  rintro e W2 ⟨v, xs, hxl, rfl, ho, hg2, hc2⟩
  have hlt := HS1.out.lt
  have HS2 := Lib.hid (HS1.out.next hg2 hc2)
  have HO2 := Lib.hid ho
  clear ho hg2 hc2
  go_wp2_with fail
  refine (HB.out _ c 8 (by decide) (by decide) HS2.out).mono ?_
  rintro e W3 ⟨x, ⟨hx0, hx1⟩, rfl, hg3, hc3⟩
  have HS3 := Lib.hid (HS2.out.next hg3 hc3)
  have HO3 := Lib.hid (HO2.out.moved hg3 hlt)
  clear hg3 hc3
  go_wp2_with fail
  refine (HB.out _ c 5 (by decide) (by decide) HS3.out).mono ?_
  rintro e W4 ⟨y, ⟨hy0, hy1⟩, rfl, hg4, hc4⟩
  have HS4 := Lib.hid (HS3.out.next hg4 hc4)
  have HO4 := Lib.hid ((HO3.out.moved hg4 hlt).mono hz)
  obtain ⟨va, vc, rfl, _⟩ := HO4.out.form
  clear hg4 hc4
  go_wp2
  refine bodyPost_ret (v := .tuple #[.slice va xs.length vc, .int .i64 x, .int .i64 y]) (by simp [results, Tryz.results21, go_sem]) rfl ?_
  exact ⟨_, _, _, _, hxl, rfl, own_of_has HO4.out, HS4.out.below⟩
end Cursor
end Go.Proofs.YtidfgfgokcflfaaGreat
