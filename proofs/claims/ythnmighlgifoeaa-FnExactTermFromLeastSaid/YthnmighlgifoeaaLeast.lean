/- Contracts of TermFromLeast, of the program and of the model. No conditions beyond those that each states. -/
import Derived.Test.YthnmighlgifoeaaSeqTerm
import Derived.Test.YthnmighlgifoeaaDigits4
import Derived.Deep.RegionHeld3
namespace Go.Proofs.Ythnmighlgifoeaa
open Go.ChangeShapes Go.WideShapes Go.ChangeAt Go.RowKit
open Go.PlainAid Plain
set_option linter.unusedVariables false
namespace Seqs
open Digits
/-- The term after the digits of n, lowest first, -1 where it may not be asked for. -/
def leastV (b : Int) (rows : List (List Int)) (out : List Int) (n : Int) : Int := if askB b rows out n = true then out.getD (afterS rows (digV n b).reverse).toNat 0 else -1
theorem dig_ok_rev {b : Int} {rows : List (List Int)} {out : List Int} (h : IsSeq b rows out) (n : Int) : (∀ d ∈ (digV n b).reverse, 0 ≤ d ∧ d < b) ∧ areD b (digV n b).reverse = true := by
  have hm : ∀ d ∈ (digV n b).reverse, 0 ≤ d ∧ d < b := fun d hd => (dig_ok h n).1 d (List.mem_reverse.1 hd)
  exact ⟨hm, areD_yes h.1 h.2.1 (by rw [List.length_reverse]; exact digV_len n b) hm⟩
set_option maxHeartbeats 1000000 in
theorem spec_least_yes (v : Value) (b : Int) (rows : List (List Int)) (out : List Int) (w : World) (h : LiesS w v b rows out) (n : Int) (hq : seqB b rows out = true) (h0 : 0 ≤ n) (h1 : n < powV b 16) :
    Calls Try.prog 28 #[v, .int .i64 n] w fun e w' => e = .returned (.int .i64 (out.getD (afterS rows (digV n b).reverse).toNat 0)) ∧ Below w.heap.size w w' := by
  have HS := Lib.hid h
  obtain ⟨an, cn, ao, co, rfl⟩ := h.form
  clear h
  have hB : Below w.heap.size w (w.alloc (Obj.cells #[Value.int .i64 b, Value.slice an rows.length cn, Value.slice ao out.length co] 27)) := (Below.refl _ _).alloc (Nat.le_refl _) _
  have HC := Lib.hid (Cells3.new w 27 (.int .i64 b) (.slice an rows.length cn) (.slice ao out.length co))
  have HB := Lib.hid hB
  clear hB
  have hv := seqB_out hq
  obtain ⟨hdm, hda⟩ := dig_ok_rev hv n
  obtain ⟨sn, hsn, hsl, hso⟩ := hv.term_at hdm
  obtain ⟨t, ht⟩ : ∃ t, t = out.getD (afterS rows (digV n b).reverse).toNat 0 := ⟨_, rfl⟩
  rw [← ht] at hso ⊢
  have HSN := Lib.hid hsn
  have HQ := Lib.hid hq
  have HDA := Lib.hid hda
  have HSO := Lib.hid hso
  have HP := Lib.hid (fun w => spec_pow_any b 16 w)
  obtain ⟨p, hp⟩ : ∃ p, p = powV b 16 := ⟨_, rfl⟩
  rw [← hp] at HP h1
  clear hv hda hsn ht hdm hq hso hp
  have hd0 := decide_eq_false (show ¬ n < 0 by omega)
  have hd1 := decide_eq_false (show ¬ p ≤ n by omega)
  go_enter Try.func28, Try.ntmps28
  go_wp2_with fail
  refine (spec_is _ b rows out _ (HS.out.below HB.out)).mono ?_
  rintro e W1 ⟨rfl, b1⟩
  have HB1 := Lib.hid (HB.out.trans (b1.mono HB.out.size))
  have HC1 := Lib.hid (HC.out.below b1)
  rw [HQ.out]
  clear b1 HB HC
  have k0 := HC1.out.c0
  have k1 := HC1.out.c1
  have k2 := HC1.out.c2
  go_wp2_with fail
  refine (HP.out _).mono ?_
  rintro e w' ⟨rfl, rfl⟩
  go_wp2_with fail
  obtain ⟨_, hO⟩ := (HS.out.below HB1.out).cells
  obtain ⟨q, s, rfl, hct⟩ := hO sn t HSO.out
  clear hO k0 k1 k2
  have hs0 : (0 : Int) ≤ (sn : Int) := Int.natCast_nonneg _
  have hs1 : (sn : Int) < (out.length : Int) := by omega
  have bd := below_drew' W1
  have HCd := Lib.hid (HC1.out.below bd)
  have HBd := Lib.hid (HB1.out.trans (bd.mono HB1.out.size))
  have hcd := Lib.hid (cell_below hct bd)
  obtain ⟨Wd, hWd⟩ : ∃ W, W = W1.drew := ⟨_, rfl⟩
  rw [← hWd] at HCd HBd hcd
  clear bd hct
  go_region_held3 (fun w' => w'.cell? ⟨w.heap.size, 0, none⟩ = some (.int .i64 b) ∧ w'.cell? ⟨w.heap.size, 1, none⟩ = some (.slice an rows.length cn) ∧ w'.cell? ⟨w.heap.size, 2, none⟩ = some (.slice (some ⟨q, s, none⟩) out.length co) ∧ w'.cell? ⟨q, s + sn, none⟩ = some (.int .i64 t))
    (first | (rw [← hWd]; exact ⟨HCd.out.c0, HCd.out.c1, HCd.out.c2, hcd.out⟩) | exact ⟨(HCd.out.below bt).c0, (HCd.out.below bt).c1, (HCd.out.below bt).c2, (cell_below hcd.out bt)⟩ | exact ⟨((HCd.out.below bt).below br).c0, ((HCd.out.below bt).below br).c1, ((HCd.out.below bt).below br).c2, (cell_below (cell_below hcd.out bt) br)⟩ | exact ⟨(((HCd.out.below bt).below br).below bu).c0, (((HCd.out.below bt).below br).below bu).c1, (((HCd.out.below bt).below br).below bu).c2, (cell_below (cell_below (cell_below hcd.out bt) br) bu)⟩)
    (first | (go_at_call 63; rw [← hWd]; refine (spec_digits_any n b _).mono ?_; rintro e Wt ⟨vt, rfl, ht, bt⟩) | (go_at_call 62; refine (spec_rev _ (digV n b) _ ht.lies (by have := digV_len n b; omega)).mono ?_; rintro e Wr ⟨vr, rfl, hr, br⟩) | (go_at_call 61; refine (spec_after_yes _ b rows out _ (HS.out.below ((HBd.out.trans (bt.mono HBd.out.size)).trans (br.mono (HBd.out.trans (bt.mono HBd.out.size)).size))) _ (digV n b).reverse hr.lies HQ.out HDA.out).mono ?_; rintro e Wu ⟨rfl, bu⟩; rw [← HSN.out]))
  have HBe := Lib.hid (((HBd.out.trans (bt.mono HBd.out.size)).trans (br.mono (HBd.out.trans (bt.mono HBd.out.size)).size)).trans (bu.mono ((HBd.out.trans (bt.mono HBd.out.size)).trans (br.mono (HBd.out.trans (bt.mono HBd.out.size)).size)).size))
  clear bt br bu ht hr hWd HBd HCd hcd
  go_wp2
  go_ret
  exact ⟨rfl, HBe.out⟩
set_option maxHeartbeats 1000000 in
theorem impl_least_yes (v : Value) (b : Int) (rows : List (List Int)) (out : List Int) (w : World) (h : LiesS w v b rows out) (n : Int) (hq : seqB b rows out = true) (h0 : 0 ≤ n) (h1 : n < powV b 16) :
    Calls Try.prog 29 #[v, .int .i64 n] w fun e w' => e = .returned (.int .i64 (out.getD (afterS rows (digV n b).reverse).toNat 0)) ∧ Below w.heap.size w w' := by
  have HS := Lib.hid h
  obtain ⟨an, cn, ao, co, rfl⟩ := h.form
  clear h
  have hB : Below w.heap.size w (w.alloc (Obj.cells #[Value.int .i64 b, Value.slice an rows.length cn, Value.slice ao out.length co] 27)) := (Below.refl _ _).alloc (Nat.le_refl _) _
  have HC := Lib.hid (Cells3.new w 27 (.int .i64 b) (.slice an rows.length cn) (.slice ao out.length co))
  have HB := Lib.hid hB
  clear hB
  have hv := seqB_out hq
  obtain ⟨hdm, hda⟩ := dig_ok_rev hv n
  obtain ⟨sn, hsn, hsl, hso⟩ := hv.term_at hdm
  obtain ⟨t, ht⟩ : ∃ t, t = out.getD (afterS rows (digV n b).reverse).toNat 0 := ⟨_, rfl⟩
  rw [← ht] at hso ⊢
  have HSN := Lib.hid hsn
  have HQ := Lib.hid hq
  have HV := Lib.hid hv
  have HDM := Lib.hid hdm
  have HDA := Lib.hid hda
  have HSO := Lib.hid hso
  have HP := Lib.hid (fun w => impl_pow_any b 16 w)
  obtain ⟨p, hp⟩ : ∃ p, p = powV b 16 := ⟨_, rfl⟩
  rw [← hp] at HP h1
  clear hv hda hsn ht hdm hq hso hp
  have hd0 := decide_eq_false (show ¬ n < 0 by omega)
  have hd1 := decide_eq_false (show ¬ p ≤ n by omega)
  go_enter Try.func29, Try.ntmps29
  go_wp2_with fail
  refine (impl_is _ b rows out _ (HS.out.below HB.out)).mono ?_
  rintro e W1 ⟨rfl, b1⟩
  have HB1 := Lib.hid (HB.out.trans (b1.mono HB.out.size))
  have HC1 := Lib.hid (HC.out.below b1)
  rw [HQ.out]
  clear b1 HB HC
  have k0 := HC1.out.c0
  have k1 := HC1.out.c1
  have k2 := HC1.out.c2
  go_wp2_with fail
  refine (HP.out _).mono ?_
  rintro e w' ⟨rfl, rfl⟩
  go_wp2_with fail
  obtain ⟨_, hO⟩ := (HS.out.below HB1.out).cells
  obtain ⟨q, s, rfl, hct⟩ := hO sn t HSO.out
  clear hO k0 k1 k2
  have hs0 : (0 : Int) ≤ (sn : Int) := Int.natCast_nonneg _
  have hs1 : (sn : Int) < (out.length : Int) := by omega
  have bd := below_drew' W1
  have HCd := Lib.hid (HC1.out.below bd)
  have HBd := Lib.hid (HB1.out.trans (bd.mono HB1.out.size))
  have hcd := Lib.hid (cell_below hct bd)
  obtain ⟨Wd, hWd⟩ : ∃ W, W = W1.drew := ⟨_, rfl⟩
  rw [← hWd] at HCd HBd hcd
  clear bd hct
  go_region_held3 (fun w' => w'.cell? ⟨w.heap.size, 0, none⟩ = some (.int .i64 b) ∧ w'.cell? ⟨w.heap.size, 1, none⟩ = some (.slice an rows.length cn) ∧ w'.cell? ⟨w.heap.size, 2, none⟩ = some (.slice (some ⟨q, s, none⟩) out.length co) ∧ w'.cell? ⟨q, s + sn, none⟩ = some (.int .i64 t))
    (first | (rw [← hWd]; exact ⟨HCd.out.c0, HCd.out.c1, HCd.out.c2, hcd.out⟩) | exact ⟨(HCd.out.below bt).c0, (HCd.out.below bt).c1, (HCd.out.below bt).c2, (cell_below hcd.out bt)⟩ | exact ⟨((HCd.out.below bt).below br).c0, ((HCd.out.below bt).below br).c1, ((HCd.out.below bt).below br).c2, (cell_below (cell_below hcd.out bt) br)⟩ | exact ⟨(((HCd.out.below bt).below br).below bu).c0, (((HCd.out.below bt).below br).below bu).c1, (((HCd.out.below bt).below br).below bu).c2, (cell_below (cell_below (cell_below hcd.out bt) br) bu)⟩)
    (first | (go_at_call 67; rw [← hWd]; refine (impl_digits_any n b _).mono ?_; rintro e Wt ⟨vt, rfl, ht, bt⟩) | (go_at_call 66; refine (impl_rev _ (digV n b) _ ht.lies (by have := digV_len n b; omega)).mono ?_; rintro e Wr ⟨vr, rfl, hr, br⟩) | (go_at_call 65; refine (impl_walk _ b rows out _ (HS.out.below ((HBd.out.trans (bt.mono HBd.out.size)).trans (br.mono (HBd.out.trans (bt.mono HBd.out.size)).size))) _ (digV n b).reverse hr.lies HV.out HDM.out).mono ?_; rintro e Wu ⟨rfl, bu⟩; rw [← HSN.out]))
  have HBe := Lib.hid (((HBd.out.trans (bt.mono HBd.out.size)).trans (br.mono (HBd.out.trans (bt.mono HBd.out.size)).size)).trans (bu.mono ((HBd.out.trans (bt.mono HBd.out.size)).trans (br.mono (HBd.out.trans (bt.mono HBd.out.size)).size)).size))
  clear bt br bu ht hr hWd HBd HCd hcd
  go_wp2
  go_ret
  exact ⟨rfl, HBe.out⟩
theorem spec_least_no (v : Value) (b : Int) (rows : List (List Int)) (out : List Int) (w : World) (h : LiesS w v b rows out) (n : Int) (hno : askB b rows out n = false) :
    Calls Try.prog 28 #[v, .int .i64 n] w fun e w' => e = .returned (.int .i64 (-1)) ∧ Below w.heap.size w w' := by
  have HS := Lib.hid h
  obtain ⟨an, cn, ao, co, rfl⟩ := h.form
  clear h
  have hB : Below w.heap.size w (w.alloc (Obj.cells #[Value.int .i64 b, Value.slice an rows.length cn, Value.slice ao out.length co] 27)) := (Below.refl _ _).alloc (Nat.le_refl _) _
  have HC := Lib.hid (Cells3.new w 27 (.int .i64 b) (.slice an rows.length cn) (.slice ao out.length co))
  have HB := Lib.hid hB
  clear hB
  by_cases h0 : n < 0
  · have hd0 := decide_eq_true h0
    clear hno h0
    go_enter Try.func28, Try.ntmps28
    go_wp2
    go_ret
    exact ⟨rfl, HB.out⟩
  · have hd0 := decide_eq_false h0
    cases hq : seqB b rows out with
    | false =>
      have HQ := Lib.hid hq
      clear hq hno
      go_enter Try.func28, Try.ntmps28
      go_wp2_with fail
      refine (spec_is _ b rows out _ (HS.out.below HB.out)).mono ?_
      rintro e W1 ⟨rfl, b1⟩
      have HB1 := Lib.hid (HB.out.trans (b1.mono HB.out.size))
      have HC1 := Lib.hid (HC.out.below b1)
      rw [HQ.out]
      clear b1 HB HC
      go_wp2
      go_ret
      exact ⟨rfl, HB1.out⟩
    | true =>
      have HQ := Lib.hid hq
      have hp : powV b 16 ≤ n := by
        simp only [askB, hq, Bool.true_and, Bool.and_eq_false_iff, decide_eq_false_iff_not] at hno
        omega
      have HP := Lib.hid (fun w => spec_pow_any b 16 w)
      obtain ⟨p, hpp⟩ : ∃ p, p = powV b 16 := ⟨_, rfl⟩
      rw [← hpp] at HP hp
      have hd1 := decide_eq_true hp
      clear hq hno hpp
      go_enter Try.func28, Try.ntmps28
      go_wp2_with fail
      refine (spec_is _ b rows out _ (HS.out.below HB.out)).mono ?_
      rintro e W1 ⟨rfl, b1⟩
      have HB1 := Lib.hid (HB.out.trans (b1.mono HB.out.size))
      have HC1 := Lib.hid (HC.out.below b1)
      rw [HQ.out]
      clear b1 HB HC
      have k0 := HC1.out.c0
      have k1 := HC1.out.c1
      have k2 := HC1.out.c2
      go_wp2_with fail
      refine (HP.out _).mono ?_
      rintro e w' ⟨rfl, rfl⟩
      go_wp2
      go_ret
      exact ⟨rfl, HB1.out⟩
theorem impl_least_no (v : Value) (b : Int) (rows : List (List Int)) (out : List Int) (w : World) (h : LiesS w v b rows out) (n : Int) (hno : askB b rows out n = false) :
    Calls Try.prog 29 #[v, .int .i64 n] w fun e w' => e = .returned (.int .i64 (-1)) ∧ Below w.heap.size w w' := by
  have HS := Lib.hid h
  obtain ⟨an, cn, ao, co, rfl⟩ := h.form
  clear h
  have hB : Below w.heap.size w (w.alloc (Obj.cells #[Value.int .i64 b, Value.slice an rows.length cn, Value.slice ao out.length co] 27)) := (Below.refl _ _).alloc (Nat.le_refl _) _
  have HC := Lib.hid (Cells3.new w 27 (.int .i64 b) (.slice an rows.length cn) (.slice ao out.length co))
  have HB := Lib.hid hB
  clear hB
  by_cases h0 : n < 0
  · have hd0 := decide_eq_true h0
    clear hno h0
    cases hq : seqB b rows out with
    | false =>
      have HQ := Lib.hid hq
      clear hq
      go_enter Try.func29, Try.ntmps29
      go_wp2_with fail
      refine (impl_is _ b rows out _ (HS.out.below HB.out)).mono ?_
      rintro e W1 ⟨rfl, b1⟩
      have HB1 := Lib.hid (HB.out.trans (b1.mono HB.out.size))
      have HC1 := Lib.hid (HC.out.below b1)
      rw [HQ.out]
      clear b1 HB HC
      go_wp2
      go_ret
      exact ⟨rfl, HB1.out⟩
    | true =>
      have HQ := Lib.hid hq
      clear hq
      go_enter Try.func29, Try.ntmps29
      go_wp2_with fail
      refine (impl_is _ b rows out _ (HS.out.below HB.out)).mono ?_
      rintro e W1 ⟨rfl, b1⟩
      have HB1 := Lib.hid (HB.out.trans (b1.mono HB.out.size))
      have HC1 := Lib.hid (HC.out.below b1)
      rw [HQ.out]
      clear b1 HB HC
      have k0 := HC1.out.c0
      have k1 := HC1.out.c1
      have k2 := HC1.out.c2
      go_wp2
      go_ret
      exact ⟨rfl, HB1.out⟩
  · have hd0 := decide_eq_false h0
    cases hq : seqB b rows out with
    | false =>
      have HQ := Lib.hid hq
      clear hq hno
      go_enter Try.func29, Try.ntmps29
      go_wp2_with fail
      refine (impl_is _ b rows out _ (HS.out.below HB.out)).mono ?_
      rintro e W1 ⟨rfl, b1⟩
      have HB1 := Lib.hid (HB.out.trans (b1.mono HB.out.size))
      have HC1 := Lib.hid (HC.out.below b1)
      rw [HQ.out]
      clear b1 HB HC
      go_wp2
      go_ret
      exact ⟨rfl, HB1.out⟩
    | true =>
      have HQ := Lib.hid hq
      have hp : powV b 16 ≤ n := by
        simp only [askB, hq, Bool.true_and, Bool.and_eq_false_iff, decide_eq_false_iff_not] at hno
        omega
      have HP := Lib.hid (fun w => impl_pow_any b 16 w)
      obtain ⟨p, hpp⟩ : ∃ p, p = powV b 16 := ⟨_, rfl⟩
      rw [← hpp] at HP hp
      have hd1 := decide_eq_true hp
      clear hq hno hpp
      go_enter Try.func29, Try.ntmps29
      go_wp2_with fail
      refine (impl_is _ b rows out _ (HS.out.below HB.out)).mono ?_
      rintro e W1 ⟨rfl, b1⟩
      have HB1 := Lib.hid (HB.out.trans (b1.mono HB.out.size))
      have HC1 := Lib.hid (HC.out.below b1)
      rw [HQ.out]
      clear b1 HB HC
      have k0 := HC1.out.c0
      have k1 := HC1.out.c1
      have k2 := HC1.out.c2
      go_wp2_with fail
      refine (HP.out _).mono ?_
      rintro e w' ⟨rfl, rfl⟩
      go_wp2
      go_ret
      exact ⟨rfl, HB1.out⟩
theorem spec_least (v : Value) (b : Int) (rows : List (List Int)) (out : List Int) (w : World) (h : LiesS w v b rows out) (n : Int) :
    Calls Try.prog 28 #[v, .int .i64 n] w fun e w' => e = .returned (.int .i64 (leastV b rows out n)) ∧ Below w.heap.size w w' := by
  cases hs : askB b rows out n with
  | false => rw [leastV, if_neg (by simp [hs])]; exact spec_least_no v b rows out w h n hs
  | true =>
    rw [leastV, if_pos hs]
    simp only [askB, Bool.and_eq_true, decide_eq_true_eq] at hs
    exact spec_least_yes v b rows out w h n hs.1.1 hs.1.2 hs.2
theorem impl_least (v : Value) (b : Int) (rows : List (List Int)) (out : List Int) (w : World) (h : LiesS w v b rows out) (n : Int) :
    Calls Try.prog 29 #[v, .int .i64 n] w fun e w' => e = .returned (.int .i64 (leastV b rows out n)) ∧ Below w.heap.size w w' := by
  cases hs : askB b rows out n with
  | false => rw [leastV, if_neg (by simp [hs])]; exact impl_least_no v b rows out w h n hs
  | true =>
    rw [leastV, if_pos hs]
    simp only [askB, Bool.and_eq_true, decide_eq_true_eq] at hs
    exact impl_least_yes v b rows out w h n hs.1.1 hs.1.2 hs.2
end Seqs
end Go.Proofs.Ythnmighlgifoeaa
