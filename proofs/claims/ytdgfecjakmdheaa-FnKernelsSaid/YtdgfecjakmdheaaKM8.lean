/- Several texts of this proof, one behind the other: each says ahead of it what it shows and under which conditions. -/
import Derived.Test.YtdgfecjakmdheaaKM3
import Derived.Laws.CopyOwn
import Derived.Deep.RegionLaw
import Derived.Test.YtdgfecjakmdheaaKM5
import Derived.Deep.RegionHeld3
import Derived.Test.YtdgfecjakmdheaaKM7
import Derived.Test.YtdgfecjakmdheaaKM6
import Derived.Test.YtdgfecjakmdheaaKM2
import Derived.Test.YtdgfecjakmdheaaKM1
/- Contracts of ReverseDigits and PadDigits, of the program and of the model. No conditions beyond those that each states. -/
namespace Go.Proofs.Ytdgfecjakmdheaa
open Go.ChangeShapes Go.WideShapes Go.ChangeAt Go.RowKit
open Go.PlainAid Plain
set_option linter.unusedVariables false
namespace Digits
open Ints

theorem drop_rev (xs : List Int) (j : Nat) (h : j < xs.length) : (xs.drop j).reverse = (xs.drop (j + 1)).reverse ++ [xs[j]] := by
  rw [List.drop_eq_getElem_cons h, List.reverse_cons]
theorem spec_rev (v : Value) (xs : List Int) (w : World) (h : Lies (Value.int .i64) w v xs) (hs : xs.length ≤ 1048576) :
    Calls Try.prog 44 #[v] w (Gives (Value.int .i64) 3 xs.reverse w) := by
  obtain ⟨i0, hi, hz0, hz1, hz2⟩ := info_parts infoI
  have HL := Lib.hid h
  obtain ⟨hl, a, ca, rfl, -, -⟩ := h
  go_enter Try.func44, Try.ntmps44
  go_wp2
  go_loopw [3, 4] (fun o' i' wr => ∃ k : Nat, k ≤ xs.length ∧ i' = .int .i64 ((k : Int) - 1) ∧ Hid (Has (Value.int .i64) 3 wr w.heap.size o' (xs.drop k).reverse) ∧ Hid (Below w.heap.size w wr)) (fun _ i' _ => (intOf i' + 1).toNat)
  case atStart => exact ⟨xs.length, by omega, by go_num, by rw [List.drop_length]; exact has_empty w, (Below.refl _ _).alloc (Nat.le_refl _) _⟩
  case round =>
    obtain ⟨k, hk, rfl, hown, hbel⟩ := hrel
    by_cases h0 : 0 < k
    · obtain ⟨j, rfl⟩ : ∃ j, k = j + 1 := ⟨k - 1, by omega⟩
      have hj : j < xs.length := by omega
      obtain ⟨_, _, _, he, _, hc⟩ := HL.out.below hbel.out
      injection he with e1 e2 e3
      obtain ⟨b, off, hA, hcell⟩ := hc j _ (List.getElem?_eq_getElem hj)
      rw [← e1] at hA
      subst hA
      have HD := Lib.hid (drop_rev xs j hj)
      have hlen : (xs.drop (j + 1)).reverse.length + 1 ≤ 1048577 := by rw [List.length_reverse, List.length_drop]; omega
      have hb2 := hbel.out.size
      obtain ⟨x, hx⟩ : ∃ x, x = xs[j] := ⟨_, rfl⟩
      rw [← hx] at hcell HD
      clear hx hc e1 e2 e3
      go_wp2_with (at_builtin; refine append_one (enc := Value.int .i64) (e := 3) wr rfl _ _ 25 rfl w.heap.size i0 (.int .i64 0) 8 Try.underlying25 hi hz0 hz1 hz2 rfl u3 _ rfl hown.out x rfl (fun _ => rfl) (by omega) (by omega) hb2 ?_; intro v' w' hown' hgrow')
      have hbel' : Hid (Below w.heap.size w w') := hown.out.frame hbel.out (Nat.le_refl _) hgrow'
      have HO := Lib.hid hown'
      clear hown' hgrow'
      go_wp2
      go_roundw
      case rel => exact ⟨j, by omega, by go_num, by rw [HD.out]; exact HO.out, hbel'⟩
      case measure => simp [intOf]
    · obtain rfl : k = 0 := by omega
      have H2 : Hid (Has (Value.int .i64) 3 wr w.heap.size u3 xs.reverse) := hown.out
      clear hown
      go_wp2
      go_ret
      exact ⟨u3, rfl, H2.out, hbel.out⟩
theorem impl_rev (v : Value) (xs : List Int) (w : World) (h : Lies (Value.int .i64) w v xs) (hs : xs.length ≤ 1048576) :
    Calls Try.prog 31 #[v] w (Gives (Value.int .i64) 3 xs.reverse w) := by
  have HC := Lib.hid (clone_lies v xs w h hs)
  clear h
  go_enter Try.func31, Try.ntmps31
  go_wp2_with fail
  refine HC.out.mono ?_
  rintro e w1 ⟨u, rfl, ho, hb⟩
  go_wp2_with fail
  refine (reverse_has u _ w1 _ ho).mono ?_
  rintro e w2 ⟨rfl, ho2, hg⟩
  have HG : Hid (Gives (Value.int .i64) 3 xs.reverse w (.returned u) w2) := ⟨u, rfl, ho2, ho.frame hb (Nat.le_refl _) hg⟩
  clear ho ho2 hg
  go_wp2
  go_ret
  exact HG.out
theorem padD_same {b : Int} {xs : List Int} (h : b ≤ xs.length ∨ 16 < b) : padD b xs = xs := if_pos h
theorem padD_more {n : Nat} {xs : List Int} (h0 : xs.length < n) (h : n ≤ 16) : padD n xs = List.replicate (n - xs.length) 0 ++ xs := by
  rw [padD, if_neg (by omega)]
  rfl
theorem rep_snoc (i : Nat) : List.replicate (i + 1) (0 : Int) = List.replicate i 0 ++ [0] := List.replicate_succ'
theorem zeros_copied (n : Nat) (xs : List Int) (h : xs.length ≤ n) : (List.replicate n (0 : Int)).take (n - xs.length) ++ (xs.take xs.length ++ (List.replicate n (0 : Int)).drop (n - xs.length + xs.length)) = List.replicate (n - xs.length) 0 ++ xs := by
  rw [List.take_replicate, List.take_length, List.drop_replicate, show min (n - xs.length) n = n - xs.length from by omega, show n - (n - xs.length + xs.length) = 0 from by omega]
  simp
theorem padD_len (b : Int) (xs : List Int) : (padD b xs).length ≤ 16 + xs.length := by
  unfold padD
  split
  · omega
  · rw [List.length_append, List.length_replicate]; omega
end Digits
end Go.Proofs.Ytdgfecjakmdheaa
/- Contracts of TermFromLeast, of the program and of the model. No conditions beyond those that each states. -/
namespace Go.Proofs.Ytdgfecjakmdheaa
open Go.ChangeShapes Go.WideShapes Go.ChangeAt Go.RowKit
open Go.PlainAid Plain
set_option linter.unusedVariables false
namespace Seqs
open Digits
/-- The term after the digits of n, lowest first, -1 where it may not be asked for. -/
def leastV (b : Int) (rows : List (List Int)) (out : List Int) (n : Int) : Int := if askB b rows out n = true then out.getD (afterS rows (digV n b).reverse).toNat 0 else -1
theorem dig_ok_rev {b : Int} {rows : List (List Int)} {out : List Int} (h : IsSeq b rows out) (n : Int) : (∀ d ∈ (digV n b).reverse, 0 ≤ d ∧ d < b) ∧ areD b (digV n b).reverse = true := by
  have hm : ∀ d ∈ (digV n b).reverse, 0 ≤ d ∧ d < b := fun d hd => (dig_ok h n).1 d (List.mem_reverse.1 hd)
  exact ⟨hm, areD_yes h.1 h.2.1 (by rw [List.length_reverse]; exact digV_len n b) hm⟩
set_option maxHeartbeats 1000000 in
theorem spec_least_yes (v : Value) (b : Int) (rows : List (List Int)) (out : List Int) (w : World) (h : LiesS w v b rows out) (n : Int) (hq : seqB b rows out = true) (h0 : 0 ≤ n) (h1 : n < powV b 16) :
    Calls Try.prog 22 #[v, .int .i64 n] w fun e w' => e = .returned (.int .i64 (out.getD (afterS rows (digV n b).reverse).toNat 0)) ∧ Below w.heap.size w w' := by
  have HS := Lib.hid h
  obtain ⟨an, cn, ao, co, rfl⟩ := h.form
  clear h
  have hB : Below w.heap.size w (w.alloc (Obj.cells #[Value.int .i64 b, Value.slice an rows.length cn, Value.slice ao out.length co] 27)) := (Below.refl _ _).alloc (Nat.le_refl _) _
  have HC := Lib.hid (Cells3.new w 27 (.int .i64 b) (.slice an rows.length cn) (.slice ao out.length co))
  have HB := Lib.hid hB
  clear hB
  have hv := seqB_out hq
  obtain ⟨hdm, hda⟩ := dig_ok_rev hv n
  obtain ⟨sn, hsn, hsl, hso⟩ := hv.term_at hdm
  obtain ⟨t, ht⟩ : ∃ t, t = out.getD (afterS rows (digV n b).reverse).toNat 0 := ⟨_, rfl⟩
  rw [← ht] at hso ⊢
  have HSN := Lib.hid hsn
  have HQ := Lib.hid hq
  have HDA := Lib.hid hda
  have HSO := Lib.hid hso
  have HP := Lib.hid (fun w => spec_pow_any b 16 w)
  obtain ⟨p, hp⟩ : ∃ p, p = powV b 16 := ⟨_, rfl⟩
  rw [← hp] at HP h1
  clear hv hda hsn ht hdm hq hso hp
  have hd0 := decide_eq_false (show ¬ n < 0 by omega)
  have hd1 := decide_eq_false (show ¬ p ≤ n by omega)
  go_enter Try.func22, Try.ntmps22
  go_wp2_with fail
  refine (spec_is _ b rows out _ (HS.out.below HB.out)).mono ?_
  rintro e W1 ⟨rfl, b1⟩
  have HB1 := Lib.hid (HB.out.trans (b1.mono HB.out.size))
  have HC1 := Lib.hid (HC.out.below b1)
  rw [HQ.out]
  clear b1 HB HC
  have k0 := HC1.out.c0
  have k1 := HC1.out.c1
  have k2 := HC1.out.c2
  go_wp2_with fail
  refine (HP.out _).mono ?_
  rintro e w' ⟨rfl, rfl⟩
  go_wp2_with fail
  obtain ⟨_, hO⟩ := (HS.out.below HB1.out).cells
  obtain ⟨q, s, rfl, hct⟩ := hO sn t HSO.out
  clear hO k0 k1 k2
  have hs0 : (0 : Int) ≤ (sn : Int) := Int.natCast_nonneg _
  have hs1 : (sn : Int) < (out.length : Int) := by omega
  have bd := below_drew' W1
  have HCd := Lib.hid (HC1.out.below bd)
  have HBd := Lib.hid (HB1.out.trans (bd.mono HB1.out.size))
  have hcd := Lib.hid (cell_below hct bd)
  obtain ⟨Wd, hWd⟩ : ∃ W, W = W1.drew := ⟨_, rfl⟩
  rw [← hWd] at HCd HBd hcd
  clear bd hct
  go_region_held3 (fun w' => w'.cell? ⟨w.heap.size, 0, none⟩ = some (.int .i64 b) ∧ w'.cell? ⟨w.heap.size, 1, none⟩ = some (.slice an rows.length cn) ∧ w'.cell? ⟨w.heap.size, 2, none⟩ = some (.slice (some ⟨q, s, none⟩) out.length co) ∧ w'.cell? ⟨q, s + sn, none⟩ = some (.int .i64 t))
    (first | (rw [← hWd]; exact ⟨HCd.out.c0, HCd.out.c1, HCd.out.c2, hcd.out⟩) | exact ⟨(HCd.out.below bt).c0, (HCd.out.below bt).c1, (HCd.out.below bt).c2, (cell_below hcd.out bt)⟩ | exact ⟨((HCd.out.below bt).below br).c0, ((HCd.out.below bt).below br).c1, ((HCd.out.below bt).below br).c2, (cell_below (cell_below hcd.out bt) br)⟩ | exact ⟨(((HCd.out.below bt).below br).below bu).c0, (((HCd.out.below bt).below br).below bu).c1, (((HCd.out.below bt).below br).below bu).c2, (cell_below (cell_below (cell_below hcd.out bt) br) bu)⟩)
    (first | (go_at_call 36; rw [← hWd]; refine (spec_digits_any n b _).mono ?_; rintro e Wt ⟨vt, rfl, ht, bt⟩) | (go_at_call 44; refine (spec_rev _ (digV n b) _ ht.lies (by have := digV_len n b; omega)).mono ?_; rintro e Wr ⟨vr, rfl, hr, br⟩) | (go_at_call 35; refine (spec_after_yes _ b rows out _ (HS.out.below ((HBd.out.trans (bt.mono HBd.out.size)).trans (br.mono (HBd.out.trans (bt.mono HBd.out.size)).size))) _ (digV n b).reverse hr.lies HQ.out HDA.out).mono ?_; rintro e Wu ⟨rfl, bu⟩; rw [← HSN.out]))
  have HBe := Lib.hid (((HBd.out.trans (bt.mono HBd.out.size)).trans (br.mono (HBd.out.trans (bt.mono HBd.out.size)).size)).trans (bu.mono ((HBd.out.trans (bt.mono HBd.out.size)).trans (br.mono (HBd.out.trans (bt.mono HBd.out.size)).size)).size))
  clear bt br bu ht hr hWd HBd HCd hcd
  go_wp2
  go_ret
  exact ⟨rfl, HBe.out⟩
set_option maxHeartbeats 1000000 in
theorem impl_least_yes (v : Value) (b : Int) (rows : List (List Int)) (out : List Int) (w : World) (h : LiesS w v b rows out) (n : Int) (hq : seqB b rows out = true) (h0 : 0 ≤ n) (h1 : n < powV b 16) :
    Calls Try.prog 15 #[v, .int .i64 n] w fun e w' => e = .returned (.int .i64 (out.getD (afterS rows (digV n b).reverse).toNat 0)) ∧ Below w.heap.size w w' := by
  have HS := Lib.hid h
  obtain ⟨an, cn, ao, co, rfl⟩ := h.form
  clear h
  have hB : Below w.heap.size w (w.alloc (Obj.cells #[Value.int .i64 b, Value.slice an rows.length cn, Value.slice ao out.length co] 27)) := (Below.refl _ _).alloc (Nat.le_refl _) _
  have HC := Lib.hid (Cells3.new w 27 (.int .i64 b) (.slice an rows.length cn) (.slice ao out.length co))
  have HB := Lib.hid hB
  clear hB
  have hv := seqB_out hq
  obtain ⟨hdm, hda⟩ := dig_ok_rev hv n
  obtain ⟨sn, hsn, hsl, hso⟩ := hv.term_at hdm
  obtain ⟨t, ht⟩ : ∃ t, t = out.getD (afterS rows (digV n b).reverse).toNat 0 := ⟨_, rfl⟩
  rw [← ht] at hso ⊢
  have HSN := Lib.hid hsn
  have HQ := Lib.hid hq
  have HV := Lib.hid hv
  have HDM := Lib.hid hdm
  have HDA := Lib.hid hda
  have HSO := Lib.hid hso
  have HP := Lib.hid (fun w => impl_pow_any b 16 w)
  obtain ⟨p, hp⟩ : ∃ p, p = powV b 16 := ⟨_, rfl⟩
  rw [← hp] at HP h1
  clear hv hda hsn ht hdm hq hso hp
  have hd0 := decide_eq_false (show ¬ n < 0 by omega)
  have hd1 := decide_eq_false (show ¬ p ≤ n by omega)
  go_enter Try.func15, Try.ntmps15
  go_wp2_with fail
  refine (impl_is _ b rows out _ (HS.out.below HB.out)).mono ?_
  rintro e W1 ⟨rfl, b1⟩
  have HB1 := Lib.hid (HB.out.trans (b1.mono HB.out.size))
  have HC1 := Lib.hid (HC.out.below b1)
  rw [HQ.out]
  clear b1 HB HC
  have k0 := HC1.out.c0
  have k1 := HC1.out.c1
  have k2 := HC1.out.c2
  go_wp2_with fail
  refine (HP.out _).mono ?_
  rintro e w' ⟨rfl, rfl⟩
  go_wp2_with fail
  obtain ⟨_, hO⟩ := (HS.out.below HB1.out).cells
  obtain ⟨q, s, rfl, hct⟩ := hO sn t HSO.out
  clear hO k0 k1 k2
  have hs0 : (0 : Int) ≤ (sn : Int) := Int.natCast_nonneg _
  have hs1 : (sn : Int) < (out.length : Int) := by omega
  have bd := below_drew' W1
  have HCd := Lib.hid (HC1.out.below bd)
  have HBd := Lib.hid (HB1.out.trans (bd.mono HB1.out.size))
  have hcd := Lib.hid (cell_below hct bd)
  obtain ⟨Wd, hWd⟩ : ∃ W, W = W1.drew := ⟨_, rfl⟩
  rw [← hWd] at HCd HBd hcd
  clear bd hct
  go_region_held3 (fun w' => w'.cell? ⟨w.heap.size, 0, none⟩ = some (.int .i64 b) ∧ w'.cell? ⟨w.heap.size, 1, none⟩ = some (.slice an rows.length cn) ∧ w'.cell? ⟨w.heap.size, 2, none⟩ = some (.slice (some ⟨q, s, none⟩) out.length co) ∧ w'.cell? ⟨q, s + sn, none⟩ = some (.int .i64 t))
    (first | (rw [← hWd]; exact ⟨HCd.out.c0, HCd.out.c1, HCd.out.c2, hcd.out⟩) | exact ⟨(HCd.out.below bt).c0, (HCd.out.below bt).c1, (HCd.out.below bt).c2, (cell_below hcd.out bt)⟩ | exact ⟨((HCd.out.below bt).below br).c0, ((HCd.out.below bt).below br).c1, ((HCd.out.below bt).below br).c2, (cell_below (cell_below hcd.out bt) br)⟩ | exact ⟨(((HCd.out.below bt).below br).below bu).c0, (((HCd.out.below bt).below br).below bu).c1, (((HCd.out.below bt).below br).below bu).c2, (cell_below (cell_below (cell_below hcd.out bt) br) bu)⟩)
    (first | (go_at_call 32; rw [← hWd]; refine (impl_digits_any n b _).mono ?_; rintro e Wt ⟨vt, rfl, ht, bt⟩) | (go_at_call 31; refine (impl_rev _ (digV n b) _ ht.lies (by have := digV_len n b; omega)).mono ?_; rintro e Wr ⟨vr, rfl, hr, br⟩) | (go_at_call 30; refine (impl_walk _ b rows out _ (HS.out.below ((HBd.out.trans (bt.mono HBd.out.size)).trans (br.mono (HBd.out.trans (bt.mono HBd.out.size)).size))) _ (digV n b).reverse hr.lies HV.out HDM.out).mono ?_; rintro e Wu ⟨rfl, bu⟩; rw [← HSN.out]))
  have HBe := Lib.hid (((HBd.out.trans (bt.mono HBd.out.size)).trans (br.mono (HBd.out.trans (bt.mono HBd.out.size)).size)).trans (bu.mono ((HBd.out.trans (bt.mono HBd.out.size)).trans (br.mono (HBd.out.trans (bt.mono HBd.out.size)).size)).size))
  clear bt br bu ht hr hWd HBd HCd hcd
  go_wp2
  go_ret
  exact ⟨rfl, HBe.out⟩
theorem spec_least_no (v : Value) (b : Int) (rows : List (List Int)) (out : List Int) (w : World) (h : LiesS w v b rows out) (n : Int) (hno : askB b rows out n = false) :
    Calls Try.prog 22 #[v, .int .i64 n] w fun e w' => e = .returned (.int .i64 (-1)) ∧ Below w.heap.size w w' := by
  have HS := Lib.hid h
  obtain ⟨an, cn, ao, co, rfl⟩ := h.form
  clear h
  have hB : Below w.heap.size w (w.alloc (Obj.cells #[Value.int .i64 b, Value.slice an rows.length cn, Value.slice ao out.length co] 27)) := (Below.refl _ _).alloc (Nat.le_refl _) _
  have HC := Lib.hid (Cells3.new w 27 (.int .i64 b) (.slice an rows.length cn) (.slice ao out.length co))
  have HB := Lib.hid hB
  clear hB
  by_cases h0 : n < 0
  · have hd0 := decide_eq_true h0
    clear hno h0
    go_enter Try.func22, Try.ntmps22
    go_wp2
    go_ret
    exact ⟨rfl, HB.out⟩
  · have hd0 := decide_eq_false h0
    cases hq : seqB b rows out with
    | false =>
      have HQ := Lib.hid hq
      clear hq hno
      go_enter Try.func22, Try.ntmps22
      go_wp2_with fail
      refine (spec_is _ b rows out _ (HS.out.below HB.out)).mono ?_
      rintro e W1 ⟨rfl, b1⟩
      have HB1 := Lib.hid (HB.out.trans (b1.mono HB.out.size))
      have HC1 := Lib.hid (HC.out.below b1)
      rw [HQ.out]
      clear b1 HB HC
      go_wp2
      go_ret
      exact ⟨rfl, HB1.out⟩
    | true =>
      have HQ := Lib.hid hq
      have hp : powV b 16 ≤ n := by
        simp only [askB, hq, Bool.true_and, Bool.and_eq_false_iff, decide_eq_false_iff_not] at hno
        omega
      have HP := Lib.hid (fun w => spec_pow_any b 16 w)
      obtain ⟨p, hpp⟩ : ∃ p, p = powV b 16 := ⟨_, rfl⟩
      rw [← hpp] at HP hp
      have hd1 := decide_eq_true hp
      clear hq hno hpp
      go_enter Try.func22, Try.ntmps22
      go_wp2_with fail
      refine (spec_is _ b rows out _ (HS.out.below HB.out)).mono ?_
      rintro e W1 ⟨rfl, b1⟩
      have HB1 := Lib.hid (HB.out.trans (b1.mono HB.out.size))
      have HC1 := Lib.hid (HC.out.below b1)
      rw [HQ.out]
      clear b1 HB HC
      have k0 := HC1.out.c0
      have k1 := HC1.out.c1
      have k2 := HC1.out.c2
      go_wp2_with fail
      refine (HP.out _).mono ?_
      rintro e w' ⟨rfl, rfl⟩
      go_wp2
      go_ret
      exact ⟨rfl, HB1.out⟩
theorem impl_least_no (v : Value) (b : Int) (rows : List (List Int)) (out : List Int) (w : World) (h : LiesS w v b rows out) (n : Int) (hno : askB b rows out n = false) :
    Calls Try.prog 15 #[v, .int .i64 n] w fun e w' => e = .returned (.int .i64 (-1)) ∧ Below w.heap.size w w' := by
  have HS := Lib.hid h
  obtain ⟨an, cn, ao, co, rfl⟩ := h.form
  clear h
  have hB : Below w.heap.size w (w.alloc (Obj.cells #[Value.int .i64 b, Value.slice an rows.length cn, Value.slice ao out.length co] 27)) := (Below.refl _ _).alloc (Nat.le_refl _) _
  have HC := Lib.hid (Cells3.new w 27 (.int .i64 b) (.slice an rows.length cn) (.slice ao out.length co))
  have HB := Lib.hid hB
  clear hB
  by_cases h0 : n < 0
  · have hd0 := decide_eq_true h0
    clear hno h0
    cases hq : seqB b rows out with
    | false =>
      have HQ := Lib.hid hq
      clear hq
      go_enter Try.func15, Try.ntmps15
      go_wp2_with fail
      refine (impl_is _ b rows out _ (HS.out.below HB.out)).mono ?_
      rintro e W1 ⟨rfl, b1⟩
      have HB1 := Lib.hid (HB.out.trans (b1.mono HB.out.size))
      have HC1 := Lib.hid (HC.out.below b1)
      rw [HQ.out]
      clear b1 HB HC
      go_wp2
      go_ret
      exact ⟨rfl, HB1.out⟩
    | true =>
      have HQ := Lib.hid hq
      clear hq
      go_enter Try.func15, Try.ntmps15
      go_wp2_with fail
      refine (impl_is _ b rows out _ (HS.out.below HB.out)).mono ?_
      rintro e W1 ⟨rfl, b1⟩
      have HB1 := Lib.hid (HB.out.trans (b1.mono HB.out.size))
      have HC1 := Lib.hid (HC.out.below b1)
      rw [HQ.out]
      clear b1 HB HC
      have k0 := HC1.out.c0
      have k1 := HC1.out.c1
      have k2 := HC1.out.c2
      go_wp2
      go_ret
      exact ⟨rfl, HB1.out⟩
  · have hd0 := decide_eq_false h0
    cases hq : seqB b rows out with
    | false =>
      have HQ := Lib.hid hq
      clear hq hno
      go_enter Try.func15, Try.ntmps15
      go_wp2_with fail
      refine (impl_is _ b rows out _ (HS.out.below HB.out)).mono ?_
      rintro e W1 ⟨rfl, b1⟩
      have HB1 := Lib.hid (HB.out.trans (b1.mono HB.out.size))
      have HC1 := Lib.hid (HC.out.below b1)
      rw [HQ.out]
      clear b1 HB HC
      go_wp2
      go_ret
      exact ⟨rfl, HB1.out⟩
    | true =>
      have HQ := Lib.hid hq
      have hp : powV b 16 ≤ n := by
        simp only [askB, hq, Bool.true_and, Bool.and_eq_false_iff, decide_eq_false_iff_not] at hno
        omega
      have HP := Lib.hid (fun w => impl_pow_any b 16 w)
      obtain ⟨p, hpp⟩ : ∃ p, p = powV b 16 := ⟨_, rfl⟩
      rw [← hpp] at HP hp
      have hd1 := decide_eq_true hp
      clear hq hno hpp
      go_enter Try.func15, Try.ntmps15
      go_wp2_with fail
      refine (impl_is _ b rows out _ (HS.out.below HB.out)).mono ?_
      rintro e W1 ⟨rfl, b1⟩
      have HB1 := Lib.hid (HB.out.trans (b1.mono HB.out.size))
      have HC1 := Lib.hid (HC.out.below b1)
      rw [HQ.out]
      clear b1 HB HC
      have k0 := HC1.out.c0
      have k1 := HC1.out.c1
      have k2 := HC1.out.c2
      go_wp2_with fail
      refine (HP.out _).mono ?_
      rintro e w' ⟨rfl, rfl⟩
      go_wp2
      go_ret
      exact ⟨rfl, HB1.out⟩
theorem spec_least (v : Value) (b : Int) (rows : List (List Int)) (out : List Int) (w : World) (h : LiesS w v b rows out) (n : Int) :
    Calls Try.prog 22 #[v, .int .i64 n] w fun e w' => e = .returned (.int .i64 (leastV b rows out n)) ∧ Below w.heap.size w w' := by
  cases hs : askB b rows out n with
  | false => rw [leastV, if_neg (by simp [hs])]; exact spec_least_no v b rows out w h n hs
  | true =>
    rw [leastV, if_pos hs]
    simp only [askB, Bool.and_eq_true, decide_eq_true_eq] at hs
    exact spec_least_yes v b rows out w h n hs.1.1 hs.1.2 hs.2
theorem impl_least (v : Value) (b : Int) (rows : List (List Int)) (out : List Int) (w : World) (h : LiesS w v b rows out) (n : Int) :
    Calls Try.prog 15 #[v, .int .i64 n] w fun e w' => e = .returned (.int .i64 (leastV b rows out n)) ∧ Below w.heap.size w w' := by
  cases hs : askB b rows out n with
  | false => rw [leastV, if_neg (by simp [hs])]; exact impl_least_no v b rows out w h n hs
  | true =>
    rw [leastV, if_pos hs]
    simp only [askB, Bool.and_eq_true, decide_eq_true_eq] at hs
    exact impl_least_yes v b rows out w h n hs.1.1 hs.1.2 hs.2
end Seqs
end Go.Proofs.Ytdgfecjakmdheaa
/- What the law on kernels asks of terms. No conditions beyond those that each fact states. -/
namespace Go.Proofs.Ytdgfecjakmdheaa
open Go.ChangeShapes Go.WideShapes Go.ChangeAt Go.RowKit
open Go.PlainAid Plain
set_option linter.unusedVariables false
namespace Kern
open Seqs Mins Digits
theorem form_seq {b : Int} {rows : List (List Int)} {out : List Int} (h : formK b rows out = true) : seqB b rows out = true := by
  simp only [formK, steadyB, Bool.or_eq_true, Bool.and_eq_true] at h
  rcases h with h | h <;> exact h.1
theorem small_pow {b : Nat} (h2 : 2 ≤ b) {n : Nat} (h : n ≤ 65535) : n < b ^ 16 := by
  have h3 : 2 ^ 16 ≤ b ^ 16 := Nat.pow_le_pow_left h2 16
  omega
/-- A term that may be asked for. -/
theorem term_small {b : Int} {rows : List (List Int)} {out : List Int} (h : seqB b rows out = true) (n : Nat) (hn : n ≤ 65535) : termV b rows out (n : Int) = termG b rows out n := by
  have hq := seqB_out h
  obtain ⟨bn, rfl⟩ : ∃ k : Nat, b = (k : Int) := ⟨b.toNat, by have := hq.1; omega⟩
  have h2 : 2 ≤ bn := by have := hq.1; omega
  have h4 : bn ≤ 4 := by have := hq.2.1; omega
  have hask : askB (bn : Int) rows out (n : Int) = true := by
    rw [askB, h, Bool.true_and, Bool.and_eq_true, decide_eq_true_eq, decide_eq_true_eq, powV_in bn h2 h4]
    exact ⟨Int.natCast_nonneg _, Int.ofNat_lt.2 (small_pow h2 hn)⟩
  rw [termV, if_pos hask, termG]
theorem fl_law {b : Int} {rows : List (List Int)} {out : List Int} (h : flK b rows out = true) (n : Int) (h0 : 0 ≤ n) (h1 : n ≤ 65535) :
    leastV (flB b rows out) (flR b rows out) (flO b rows out) n = termV b rows out n := by
  obtain ⟨m, rfl⟩ := Int.eq_ofNat_of_zero_le h0
  obtain ⟨bn, hb, h2, h4, hk, _⟩ := fl_parts h
  have hlt : m < b.toNat ^ 16 := by rw [hb, Int.toNat_natCast]; exact small_pow h2 (by omega)
  obtain ⟨h5, h6⟩ := fl_term h m hlt
  rw [term_small (form_seq hk) m (by omega), leastV, if_pos h5]
  exact h6
theorem sub_law {b : Int} {rows : List (List Int)} {out : List Int} {r : Int} (h : subK b rows out r = true) : 2 ≤ b ∧ b ≤ 4 ∧ 0 ≤ r ∧ r < b ∧
    ∀ n : Int, 0 ≤ n → n < 2000 → termV (subB b rows out r) (subR b rows out r) (subO b rows out r) n = termV b rows out (b * n + r) := by
  have hok : subOK b rows out r = true := by
    cases ho : subOK b rows out r with
    | true => rfl
    | false => rw [(sub_no ho).2.2.2] at h; cases h
  obtain ⟨e1, e2, e3, e4⟩ := sub_yes hok
  obtain ⟨hk, h0, h1⟩ := sub_parts hok
  have hq := seqB_out (form_seq hk)
  have h2 := hq.1
  have h4 := hq.2.1
  refine ⟨h2, h4, h0, h1, fun n hn0 hn1 => ?_⟩
  have hB : formB b rows out = b := by rw [formB, if_pos hk]
  have hk2 : formK b (formR b rows out) (subE b rows out r) = true := by rw [e4, hB] at h; exact h
  have hb : subB b rows out r = b := by rw [e1, hB, formB, if_pos hk2]
  have hmv := min_valid hk2
  have hs : seqB (subB b rows out r) (subR b rows out r) (subO b rows out r) = true := by
    rw [e1, e2, e3, hB]
    exact seqB_yes hmv
  rw [hb] at hs ⊢
  obtain ⟨m, rfl⟩ := Int.eq_ofNat_of_zero_le hn0
  obtain ⟨rn, rfl⟩ := Int.eq_ofNat_of_zero_le h0
  obtain ⟨bn, rfl⟩ := Int.eq_ofNat_of_zero_le (show 0 ≤ b by omega)
  have h5 : bn * m ≤ 4 * m := Nat.mul_le_mul_right m (by omega)
  have h6 : bn * m + rn ≤ 65535 := by omega
  rw [show (bn : Int) * (m : Int) + (rn : Int) = ((bn * m + rn : Nat) : Int) from by rw [Int.natCast_add, Int.natCast_mul], term_small hs m (by omega), term_small (form_seq hk) _ h6]
  exact sub_term h m (small_pow (by omega) h6)
end Kern
end Go.Proofs.Ytdgfecjakmdheaa
/- Contract of the model's FromLeast. No conditions beyond those that it states. -/
namespace Go.Proofs.Ytdgfecjakmdheaa
open Go.ChangeShapes Go.WideShapes Go.ChangeAt Go.RowKit
open Go.PlainAid Plain
set_option linter.unusedVariables false
namespace Kern
open Seqs Mins
/-- What the loops want of a kernel: its base, each of its sequences valid, each digit's place. -/
structure KerOk (b : Int) (bn : Nat) (m : Sq) (L : List Sq) : Prop where
  base : b = (bn : Int)
  low : 2 ≤ bn
  high : bn ≤ 4
  list : L = kerL m bn
  good : ∀ q ∈ L, Good (bn : Int) q
theorem ker_ok {b : Int} {rows : List (List Int)} {out : List Int} (h : kerK b rows out = true) : KerOk b b.toNat (mini b rows out) (kerV b rows out) ∧ kerR b rows out = kRows (mini b rows out) b.toNat (kerV b rows out).length := by
  have hV : kerV b rows out = kerL (mini b rows out) b.toNat := by rw [kerV, if_pos h]
  have hR : kerR b rows out = kRows (mini b rows out) b.toNat (kerV b rows out).length := by rw [kerR, if_pos h]
  rw [kerK, Bool.and_eq_true] at h
  have hg := mini_good h.1
  have hs := hg.seq
  have hbb := hg.base
  have hb2 := hs.1
  have hb4 := hs.2.1
  have hm : Good (b.toNat : Int) (mini b rows out) := ⟨by omega, hg.steady⟩
  exact ⟨⟨by omega, by omega, by omega, hV, fun q hq => by rw [hV] at hq; exact kF_good (by omega) hm _ q hq⟩, hR⟩
/-- A slice that lies in none of the blocks from lo up to hi. -/
def Aside (lo hi : Nat) (v : Value) : Prop := ∀ k, v.ownBlock = some k → k < lo ∨ hi ≤ k
theorem Aside.step {lo hi : Nat} {v v' : Value} {W : World} (h : Aside lo hi v) (hk : ∀ k, v'.ownBlock = some k → v.ownBlock = some k ∨ W.heap.size ≤ k) (hW : hi ≤ W.heap.size) : Aside lo hi v' := fun k h1 =>
  (hk k h1).elim (fun h2 => h k h2) fun h2 => .inr (by omega)
theorem own_aside {w w' : World} {lo hi : Nat} {v u : Value} {b : Int} {rows : List (List Int)} {out : List Int} (h : OwnS w lo hi v b rows out) (ha : Aside lo hi u) (hg : w.grownBy w' u.ownBlock) : OwnS w' lo hi v b rows out := by
  cases hu : u.ownBlock with
  | none =>
    rw [hu] at hg
    exact h.below (below_of_grown hg)
  | some g =>
    rw [hu] at hg
    have := ha g hu
    exact h.touch (touch_of_grown hg) (by omega)
set_option maxRecDepth 100000 in
set_option maxHeartbeats 4000000 in
theorem spec_fl (v : Value) (b : Int) (rows : List (List Int)) (out : List Int) (w : World) (h : LiesS w v b rows out) (hs : rows.length + tot rows + out.length ≤ 1048576) :
    Calls Try.prog 12 #[v] w (GivesK (flB b rows out) (flR b rows out) (flO b rows out) (flK b rows out) w) := by
  obtain ⟨i0, hi, hz0, hz1, hz2⟩ := info_parts Ints.infoI
  obtain ⟨i2, hi2, hz20, hz21, hz22⟩ := info_parts infoR
  have HS := Lib.hid h
  obtain ⟨an, cn, ao, co, rfl⟩ := h.form
  clear h
  have HB : Hid (Below w.heap.size w (w.alloc (Obj.cells #[Value.int .i64 b, Value.slice an rows.length cn, Value.slice ao out.length co] 27))) := (Below.refl _ _).alloc (Nat.le_refl _) _
  have HC := Lib.hid (Cells3.new w 27 (.int .i64 b) (.slice an rows.length cn) (.slice ao out.length co))
  have hbz : Below (w.alloc (Obj.cells #[Value.int .i64 b, Value.slice an rows.length cn, Value.slice ao out.length co] 27)).heap.size (w.alloc (Obj.cells #[Value.int .i64 b, Value.slice an rows.length cn, Value.slice ao out.length co] 27)) ((w.alloc (Obj.cells #[Value.int .i64 b, Value.slice an rows.length cn, Value.slice ao out.length co] 27)).alloc (Obj.cells #[Value.int .i64 0, Value.slice none 0 0, Value.slice none 0 0] 27)) := (Below.refl _ _).alloc (Nat.le_refl _) _
  have HB0 := Lib.hid (HB.out.trans (hbz.mono HB.out.size))
  have HC0 := Lib.hid (HC.out.below hbz)
  have hz := Cells3.new (w.alloc (Obj.cells #[Value.int .i64 b, Value.slice an rows.length cn, Value.slice ao out.length co] 27)) 27 (.int .i64 0) (.slice none 0 0) (.slice none 0 0)
  rw [size_alloc'] at hz
  have HZ0 := Lib.hid hz
  have HS0 := Lib.hid (HS.out.below HB0.out)
  clear hz hbz HB HC
  obtain ⟨W0, hW0⟩ : ∃ W, W = (w.alloc (Obj.cells #[Value.int .i64 b, Value.slice an rows.length cn, Value.slice ao out.length co] 27)).alloc (Obj.cells #[Value.int .i64 0, Value.slice none 0 0, Value.slice none 0 0] 27) := ⟨_, rfl⟩
  have hz0s : W0.heap.size = w.heap.size + 2 := by rw [hW0, size_alloc', size_alloc']
  have HCK := Lib.hid (spec_ker _ b rows out _ HS0.out hs)
  rw [← hW0] at HB0 HC0 HZ0 HS0 HCK
  have HW0 := Lib.hid hW0
  have HZS := Lib.hid hz0s
  have HOKK := Lib.hid (@ker_ok b rows out)
  have HFK : Hid (flK b rows out = (kerK b rows out && decide ((kerV b rows out).length ≤ 16))) := rfl
  have HNO := Lib.hid (@fl_no b rows out)
  have HYES := Lib.hid (@fl_yes b rows out)
  obtain ⟨K, hK⟩ : ∃ x, x = kerK b rows out := ⟨_, rfl⟩
  obtain ⟨L, hL⟩ : ∃ x, x = kerV b rows out := ⟨_, rfl⟩
  rw [← hK, ← hL] at HFK
  rw [← hK, ← hL] at HCK HOKK
  rw [← hL] at HYES
  have k0 := HC0.out.c0
  have k1 := HC0.out.c1
  have k2 := HC0.out.c2
  clear hK hL hs hz0s
  go_enter Try.func12, Try.ntmps12
  go_wp2_with fail
  rw [← HW0.out]
  refine HCK.out.mono ?_
  rintro e W1 ⟨vs, E, rfl, ho, he, hm, b1⟩
  have hml : E.length = L.length := by rw [← hm, List.length_map]
  obtain ⟨a, c, rfl, _⟩ := ho.form
  rw [List.length_map, hml] at ho ⊢
  have hL40 : L.length ≤ 9223372036854775807 := by have := ho.small; rw [List.length_map] at this; omega
  have HB2 := Lib.hid (HB0.out.trans (b1.mono HB0.out.size))
  have HO2 := Lib.hid ho
  have HE2 := Lib.hid he
  have HZ2 := Lib.hid (HZ0.out.below b1)
  have HC2 := Lib.hid (HC0.out.below b1)
  have HM := Lib.hid hm
  have HSZ2 : Hid (w.heap.size + 2 ≤ W1.heap.size) := by have := HZS.out; have := b1.size; show _ ≤ _; omega
  clear ho he hm b1 k0 k1 k2 hml HCK HZ0 HC0 HW0 HS0 HB0
  have k0 := HC2.out.c0
  have k1 := HC2.out.c1
  have k2 := HC2.out.c2
  have z0 := HZ2.out.c0
  have z1 := HZ2.out.c1
  have z2 := HZ2.out.c2
  have z3 := HZ2.out.f
  cases K with
  | false =>
    have HK := Lib.hid (show flK b rows out = false from HFK.out)
    go_wp2
    obtain ⟨q1, q2, q3⟩ := HNO.out HK.out
    have hZ3 := (((HZ2.out.set0 (.int .i64 0)).set1 (.slice none 0 0)).set2 (.slice none 0 0))
    have n0 := hZ3.c0
    have n1 := hZ3.c1
    have n2 := hZ3.c2
    refine bodyPost_ret (v := .tuple #[.agg #[.int .i64 0, .slice none 0 0, .slice none 0 0], .bool false]) (by simp [results, Try.results12, go_sem, n0, n1, n2]) rfl ?_
    rw [q1, q2, q3, HK.out]
    exact ⟨_, rfl, OwnS.zero _, ((HB2.out.setCell (Nat.le_succ _) _).setCell (Nat.le_succ _) _).setCell (Nat.le_succ _) _⟩
  | true =>
    by_cases h16 : L.length ≤ 16
    · have HK : Hid (flK b rows out = true) := by show _ = _; rw [HFK.out]; simp [h16]
      have hd := decide_eq_false (show ¬ (L.length : Int) > 16 by omega)
      have hdn := decide_eq_false (show ¬ 16 < L.length by omega)
      obtain ⟨hok, hR⟩ := HOKK.out rfl
      obtain ⟨e1, e2, e3⟩ := HYES.out HK.out
      rw [hR] at e2
      obtain ⟨M, hM⟩ : ∃ M, M = mini b rows out := ⟨_, rfl⟩
      rw [← hM] at hok e2
      obtain ⟨bn, hbn⟩ : ∃ bn, bn = b.toNat := ⟨_, rfl⟩
      rw [← hbn] at hok e2
      have HV := Lib.hid (show flB b rows out = b ∧ flR b rows out = kRows M bn L.length ∧ flO b rows out = flT L from ⟨e1, e2, e3⟩)
      have HOK := Lib.hid hok
      have hbb := hok.base
      have hb2 := hok.low
      have hb4 := hok.high
      clear e1 e2 e3 HNO HYES HFK HOKK hM hbn hok hR
      subst hbb
      obtain ⟨p, hp⟩ : ∃ p, p = W1.heap.size := ⟨_, rfl⟩
      have h3 : Below W1.heap.size W1 (W1.alloc (.cells #[.int .i64 (bn : Int), .slice none 0 0, .slice none 0 0] 27)) := (Below.refl _ _).alloc (Nat.le_refl _) _
      have hp3 := Cells3.new W1 27 (.int .i64 (bn : Int)) (.slice none 0 0) (.slice none 0 0)
      have hbs := Building.start hp3 (base := W1.heap.size + 1) (by simp)
      have HPS := Lib.hid hp
      rw [← hp] at h3 hbs
      have H3 := Lib.hid h3
      have HBS := Lib.hid hbs
      clear h3 hp3 hbs
      go_wp2
      rw [← hp]
      clear hp k0 k1 k2 z0 z1 z2 z3 hd hdn
      go_loopw [7] (fun i' wr => ∃ (i hi : Nat) (vn vo : Value) (us : List Value), i ≤ L.length ∧ i' = .int .i64 i ∧ Hid (Building wr (p + 1) hi p (bn : Int) vn vo us (kRows M bn i) (flT (L.take i))) ∧ Hid (Below p W1 wr)) (fun i' _ => L.length - (intOf i').toNat)
      case atStart => exact ⟨0, _, _, _, _, Nat.zero_le _, rfl, HBS, H3⟩
      case round =>
        obtain ⟨i, hi', vn, vo, us, hil, rfl, HBL, HB⟩ := hrel
        obtain ⟨W4, rfl⟩ : ∃ W : World, W = wr := ⟨_, rfl⟩
        have HBW : Hid (Below W1.heap.size W1 W4) := by show Below _ _ _; rw [← HPS.out]; exact HB.out
        obtain ⟨na, nc, oa, oc, hvn, hvo⟩ := HBL.out.form
        have hrl := kRows_len M bn i
        have hfl : (flT (L.take i)).length = i := by rw [flT_len, List.length_take]; omega
        rw [hrl] at hvn
        rw [hfl] at hvo
        subst hvn; subst hvo
        have hpw : p < W4.heap.size := HBL.out.cells.lt
        by_cases hlt : i < L.length
        · obtain ⟨f, hf⟩ : ∃ f, L[i]? = some f := ⟨_, List.getElem?_eq_getElem hlt⟩
          have HF := Lib.hid hf
          have HGF := Lib.hid (HOK.out.good f (List.mem_of_getElem? hf))
          have hild := decide_eq_true (show (i : Int) < (L.length : Int) by omega)
          have hiln := decide_eq_true (show i < L.length by omega)
          have hB5 : Below W4.heap.size W4 (W4.alloc (.cells #[] 3)) := (Below.refl _ _).alloc (Nat.le_refl _) _
          have hO5 : Has (Value.int .i64) 3 (W4.alloc (.cells #[] 3)) W4.heap.size (.slice (some ⟨W4.heap.size, 0, none⟩) 0 0) (kRow M bn i 0) := has_lit0 rfl (Nat.le_refl _)
          have HB5 := Lib.hid hB5
          have HO5 := Lib.hid hO5
          clear hf hB5 hO5 hrl hfl
          go_wp2
          go_loopw [8, 9] (fun v' r' wr => ∃ (r : Nat) (vr : Value), r ≤ bn ∧ r' = .int .i64 r ∧ vr = v' ∧ Hid (Has (Value.int .i64) 3 wr W4.heap.size vr (kRow M bn i r)) ∧ Hid (Below W4.heap.size W4 wr)) (fun _ r' _ => bn - (intOf r').toNat)
          case atStart => exact ⟨0, _, Nat.zero_le _, rfl, rfl, HO5, HB5⟩
          case round =>
            obtain ⟨r, vr, hr, rfl, rfl, HR, HBr⟩ := hrel
            obtain ⟨W5, rfl⟩ : ∃ W : World, W = wr := ⟨_, rfl⟩
            have HBW5 := Lib.hid (HBW.out.trans (HBr.out.mono HBW.out.size))
            have k0 := (HC2.out.below HBW5.out).c0
            have hfE := HF.out
            rw [← HM.out] at hfE
            obtain ⟨g, d, a1, c1, a2, c2, hv, p0, p1, p2, hls⟩ := elem_at (HO2.out.below HBW5.out) (HE2.out.below HBW5.out) hfE
            injection hv with hv1 hv2 hv3
            subst hv1; subst hv3
            clear hv2 hfE
            by_cases hrb : r < bn
            · obtain ⟨pa, hpa, hkr⟩ := ker_at (m := M) (bn := bn) (i := i) (r := r) (f := f) (by omega) (by rw [← HOK.out.list]; omega) (by rw [← HOK.out.list]; exact HF.out) hrb
              rw [← HOK.out.list] at hpa
              have HPA := Lib.hid hpa
              have HKR := Lib.hid hkr
              have HSUB : Hid (Calls Try.prog 19 #[.agg #[.int .i64 f.b, .slice a1 f.r.length c1, .slice a2 f.o.length c2], .int .i64 r] W5 (fun en W' => ∃ v, en = .returned (.tuple #[v, .bool true]) ∧ OwnS W' W5.heap.size W'.heap.size v (sub f r).b (sub f r).r (sub f r).o ∧ Below W5.heap.size W5 W')) := by
                have h1 := spec_sub _ f.b f.r f.o W5 hls (r : Int) HGF.out.size
                rw [(HGF.out.sub (by omega) (by omega)).2] at h1
                exact h1
              obtain ⟨y, hy⟩ : ∃ y, y = sub f (r : Int) := ⟨_, rfl⟩
              rw [← hy] at HSUB HPA
              have hrd := decide_eq_true (show (r : Int) < (bn : Int) by omega)
              have hrn := decide_eq_true (show r < bn by omega)
              clear hpa hkr hls hy
              go_wp2_with fail
              refine HSUB.out.mono ?_
              rintro e W6 ⟨vy, rfl, hy, b6⟩
              obtain ⟨a3, c3, a4, c4, rfl⟩ := hy.form
              have hby : Below W6.heap.size W6 (W6.alloc (.cells #[.int .i64 y.b, .slice a3 y.r.length c3, .slice a4 y.o.length c4] 27)) := (Below.refl _ _).alloc (Nat.le_refl _) _
              have HY := Lib.hid (Cells3.new W6 27 (.int .i64 y.b) (.slice a3 y.r.length c3) (.slice a4 y.o.length c4))
              have HYO := Lib.hid (hy.below hby)
              have HR7 := Lib.hid ((HR.out.below b6).below hby)
              have hb7 := HBr.out.trans (b6.mono HBr.out.size)
              have HB7 := Lib.hid (hb7.trans (hby.mono hb7.size))
              have HAS : Hid (Aside W5.heap.size W6.heap.size vr) := fun k hk => .inl (HR.out.lt k hk).2
              have HS7 : Hid (W6.heap.size < (W6.alloc (.cells #[.int .i64 y.b, .slice a3 y.r.length c3, .slice a4 y.o.length c4] 27)).heap.size) := by show _ < _; simp
              clear hy b6 hby hb7 p0 p1 p2 k0 HSUB
              go_wp2
              go_loopw [8, 12] (fun v' k' wr => ∃ (k : Nat) (vr : Value), k ≤ L.length ∧ k' = .int .i64 k ∧ vr = v' ∧ Hid (Has (Value.int .i64) 3 wr W4.heap.size vr (kRow M bn i r ++ if pa < k then [(pa : Int)] else [])) ∧ Hid (Below W4.heap.size W4 wr) ∧ Hid (Cells3 wr W6.heap.size 27 (.int .i64 y.b) (.slice a3 y.r.length c3) (.slice a4 y.o.length c4)) ∧ Hid (OwnS wr W5.heap.size W6.heap.size (.agg #[.int .i64 y.b, .slice a3 y.r.length c3, .slice a4 y.o.length c4]) y.b y.r y.o) ∧ Hid (Aside W5.heap.size W6.heap.size vr) ∧ Hid (W6.heap.size < wr.heap.size)) (fun _ k' _ => L.length - (intOf k').toNat)
              case atStart => exact ⟨0, _, Nat.zero_le _, rfl, rfl, by show Has _ _ _ _ _ _; rw [if_neg (by omega), List.append_nil]; exact HR7.out, HB7, HY, HYO, HAS, HS7⟩
              case round =>
                clear HR7 HB7 HY HYO HAS HS7
                obtain ⟨k, vr, hk, rfl, rfl, HR, HB7, HY, HYO, HAS, HS⟩ := hrel
                obtain ⟨W8, rfl⟩ : ∃ W : World, W = wr := ⟨_, rfl⟩
                have HBW8 := Lib.hid (HBW.out.trans (HB7.out.mono HBW.out.size))
                by_cases hkl : k < L.length
                · obtain ⟨ek, hek⟩ : ∃ x, L[k]? = some x := ⟨_, List.getElem?_eq_getElem hkl⟩
                  have hekE := hek
                  rw [← HM.out] at hekE
                  obtain ⟨g', d', b1, d1, b2, d2, hv, p0, p1, p2, hls⟩ := elem_at (HO2.out.below HBW8.out) (HE2.out.below HBW8.out) hekE
                  injection hv with hv1 hv2 hv3
                  injection hv1 with hv4
                  injection hv4 with hv5
                  subst hv5; subst hv3
                  clear hv2 hekE
                  have hkp := at_only (ker_nodup M bn) (p := pa) (k := k) (x := ek) (y := y) (by rw [← HOK.out.list]; exact HPA.out) (by rw [← HOK.out.list]; exact hek)
                  have HEQ : Hid (∀ W, Below W8.heap.size W8 W → Calls Try.prog 14 #[.agg #[.int .i64 ek.b, .slice b1 ek.r.length d1, .slice b2 ek.o.length d2], .agg #[.int .i64 y.b, .slice a3 y.r.length c3, .slice a4 y.o.length c4]] W fun e w' => e = .returned (.bool (ek.same y)) ∧ Below W.heap.size W w') := fun W hW => spec_equal _ _ ek.b y.b ek.r y.r ek.o y.o W (hls.below hW) (HYO.out.lies.below hW)
                  obtain ⟨q, hq⟩ : ∃ q, q = ek.same y := ⟨_, rfl⟩
                  rw [← hq] at HEQ hkp
                  have j0 := HY.out.c0
                  have j1 := HY.out.c1
                  have j2 := HY.out.c2
                  have hk0 : (0 : Int) ≤ (k : Int) := Int.natCast_nonneg _
                  have hkE1 : (k : Int) < (L.length : Int) := by omega
                  have hD : Below W8.heap.size W8 W8.drew := below_drew' W8
                  have HKP := Lib.hid hkp
                  clear hek hls hq hkp
                  go_wp2_with fail
                  go_region_law (first | (go_simp; (with_reducible refine (HEQ.out _ hD).mono ?_); rintro e W9 ⟨rfl, b9⟩; have bA : Below W8.heap.size W8 W9 := hD.trans (b9.mono hD.size)))
                  all_goals
                    have HR9 := Lib.hid (HR.out.below bA)
                    have HB9 := Lib.hid (HB7.out.trans (bA.mono HB7.out.size))
                    have HY9 := Lib.hid (HY.out.below bA)
                    have HYO9 := Lib.hid (HYO.out.below bA)
                    have HS9 : Hid (W6.heap.size < W9.heap.size) := Nat.lt_of_lt_of_le HS.out bA.size
                    clear p0 p1 p2 j0 j1 j2 bA b9 HR HB7 HY HYO HS
                    cases q with
                    | true =>
                      have hke : k = pa := HKP.out.1 rfl
                      rw [if_neg (by omega), List.append_nil] at HR9
                      have HKE : Hid ((if pa < k + 1 then [(pa : Int)] else []) = [(k : Int)]) := by show _ = _; rw [if_pos (by omega), hke]
                      obtain ⟨va, vc, hvr, _⟩ := HR9.out.form
                      subst hvr
                      have HXL := Lib.hid (kRow_len M bn i r)
                      obtain ⟨X, hX⟩ : ∃ X, X = kRow M bn i r := ⟨_, rfl⟩
                      rw [← hX] at HR9 HXL HAS ⊢
                      have HXE := Lib.hid hX
                      clear hke hX
                      go_wp2_with (at_builtin; refine wpList_append_list (enc := (Value.int .i64)) (e := 3) rfl _ _ 25 rfl W4.heap.size i0 (.int .i64 0) 8 Try.underlying25 hi hz0 hz1 hz2 rfl (.slice va X.length vc) X rfl (has_alloc HR9.out _) (.slice (some ⟨W9.heap.size, 0, none⟩) 1 1) [(k : Int)] rfl (lies_lit1 (enc := (Value.int .i64)) _ rfl) (fun _ _ => rfl) (by have := HXL.out; simp only [List.length_cons, List.length_nil]; omega) (by have := HXL.out; simp only [List.length_cons, List.length_nil]; omega) (by have := HB9.out.size; simp; omega) ?_; intro v' w2 hv' hg2' hbk)
                      have hg2 := grown_alloc hg2'
                      have HR10 : Hid (Has (Value.int .i64) 3 w2 W4.heap.size v' (kRow M bn i r ++ if pa < k + 1 then [(pa : Int)] else [])) := by show Has _ _ _ _ _ _; rw [HKE.out, ← HXE.out]; exact hv'
                      have HB10 := Lib.hid (HR9.out.frame HB9.out (Nat.le_refl _) hg2)
                      have HY10 := Lib.hid (HY9.out.grown hg2 (has_ne_c3 HR9.out HY9.out (by decide)))
                      have HYO10 := Lib.hid (own_aside HYO9.out HAS.out hg2)
                      have HAS10 : Hid (Aside W5.heap.size W6.heap.size v') := HAS.out.step (W := W9) (fun j hj => (hbk j hj).imp id fun h => by simp at h; omega) (Nat.le_of_lt HS9.out)
                      have HS10 : Hid (W6.heap.size < w2.heap.size) := Nat.lt_of_lt_of_le HS9.out hg2.size
                      clear hv' hg2' hbk hg2
                      go_roundw
                      case rel => exact ⟨k + 1, _, by omega, by go_num, rfl, HR10, HB10, HY10, HYO10, HAS10, HS10⟩
                      case measure => simp [intOf] <;> omega
                    | false =>
                      have hke : ¬ k = pa := fun h => by have := HKP.out.2 h; cases this
                      have HIF : Hid ((if pa < k + 1 then [(pa : Int)] else []) = (if pa < k then [(pa : Int)] else [])) := by
                        show _ = _
                        by_cases h : pa < k
                        · rw [if_pos h, if_pos (by omega)]
                        · rw [if_neg h, if_neg (by omega)]
                      clear hke
                      go_wp2
                      go_roundw
                      case rel => exact ⟨k + 1, _, by omega, by go_num, rfl, by show Has _ _ _ _ _ _; rw [HIF.out]; exact HR9.out, HB9, HY9, HYO9, HAS, HS9⟩
                      case measure => simp [intOf] <;> omega
                · have hpl : pa < L.length := (List.getElem?_eq_some_iff.1 HPA.out).1
                  have HRE : Hid (Has (Value.int .i64) 3 W8 W4.heap.size vr (kRow M bn i (r + 1))) := by
                    have h := HR.out
                    rw [if_pos (by omega), ← HKR.out] at h
                    exact h
                  clear hpl
                  go_wp2
                  go_roundw
                  case rel => exact ⟨r + 1, _, by omega, by go_num, rfl, HRE, HB7⟩
                  case measure => simp [intOf] <;> omega
            · have hrb2 : r = bn := by omega
              have HRW : Hid (Has (Value.int .i64) 3 W5 W4.heap.size vr (kRow M bn i bn)) := by
                have h := HR.out
                rw [hrb2] at h
                exact h
              have hrd := decide_eq_false (show ¬ (r : Int) < (bn : Int) by omega)
              have hrn := decide_eq_false (show ¬ r < bn by omega)
              obtain ⟨va, vc, hvr, _⟩ := HRW.out.form
              subst hvr
              have HRS := Lib.hid (kRows_succ M bn i)
              have HBL5 := Lib.hid (HBL.out.below HBr.out)
              have HUSL : Hid (us.length = i) := by show _ = _; rw [HBL.out.len, kRows_len]
              have HU := Lib.hid (HRW.out.mono HBL.out.le)
              have hb1 := HB.out.trans (HBr.out.mono (Nat.le_of_lt hpw))
              have HBp := Lib.hid hb1
              have hps : p + 1 ≤ W5.heap.size := by have := HBr.out.size; omega
              have HPW := Lib.hid hps
              have hi16 : i < 16 := by omega
              obtain ⟨X, hX⟩ : ∃ X, X = kRow M bn i bn := ⟨_, rfl⟩
              rw [← hX] at HRW HU HRS ⊢
              have d1 := HBL5.out.cells.c1
              have d2 := (HBL5.out.cells.alloc (.cells #[Value.slice va X.length vc] 25)).c1
              have HNP := Lib.hid (has_ne_c3 HBL5.out.top HBL5.out.cells (by decide))
              clear hX hb1 hps HR hrb2 p0 p1 p2 hls
              go_upto_region 19 with (at_builtin; refine wpList_append_list (enc := id) (e := 25) rfl _ _ 24 rfl (p + 1) i2 (.slice none 0 0) 24 Try.underlying24 hi2 hz20 hz21 hz22 rfl (.slice na i nc) us rfl (has_alloc HBL5.out.top _) (.slice (some ⟨W5.heap.size, 0, none⟩) 1 1) [.slice va X.length vc] rfl (lies_lit1v _ rfl) (fun y hy => by simp at hy; subst hy; rfl) (by rw [HUSL.out]; simp; omega) (by rw [HUSL.out]; simp; omega) (by have := HPW.out; simp; omega) ?_; intro v' w2 hv' hg2 _; obtain ⟨a2', c2', hvf, _⟩ := hv'.form; rw [show (us ++ [Value.slice va X.length vc]).length = i + 1 from by rw [List.length_append, HUSL.out]; rfl] at hvf; subst hvf; have hg3 := grown_alloc hg2; have hc2 := HBL5.out.cells.grown hg3 HNP.out; have d3 := hc2.c1; have df := hc2.f)
              have HBL6 := Lib.hid (HBL5.out.row HU.out hv' hg3)
              have HBq : Hid (Below p W1 (w2.setCell ⟨p, 1, none⟩ (.slice a2' (i + 1) c2'))) := (HBp.out.grown hg3 (by have := HPW.out; omega) (fun j hj => by have := (HBL5.out.top.lt j hj).1; omega)).setCell (Nat.le_refl p) _
              obtain ⟨V, hVV⟩ : ∃ W, W = w2.setCell ⟨p, 1, none⟩ (.slice a2' (i + 1) c2') := ⟨_, rfl⟩
              have hVs : w2.heap.size = V.heap.size := by rw [hVV, size_setCell']
              have hpV : p + 1 ≤ V.heap.size := by have h1 := HPW.out; have h2 := hg3.size; omega
              rw [← hVV] at HBL6 HBq ⊢
              rw [hVs] at HBL6
              clear hv' hg2 hg3 hc2 d1 d2 d3 df hVV hVs
              have HPV := Lib.hid hpV
              have HBV : Hid (Below W1.heap.size W1 V) := by show Below _ _ _; rw [← HPS.out]; exact HBq.out
              have hfE := HF.out
              rw [← HM.out] at hfE
              obtain ⟨g', d', b1, d1, b2, d2, hv, p0, p1, p2, hls⟩ := elem_at (HO2.out.below HBV.out) (HE2.out.below HBV.out) hfE
              injection hv with hv1 hv2 hv3
              injection hv1 with hv4
              injection hv4 with hv5
              subst hv5; subst hv3
              clear hv2 hfE
              have hsq := HGF.out.seq
              obtain ⟨x, hx⟩ : ∃ x, f.o[0]? = some x := ⟨_, List.getElem?_eq_getElem (by have := hsq.2.2.1; have := hsq.2.2.2.2.1; omega)⟩
              have hol : 0 < f.o.length := (List.getElem?_eq_some_iff.1 hx).1
              obtain ⟨q, t, hq, hcx⟩ : ∃ q t, b2 = some ⟨q, t, none⟩ ∧ V.cell? ⟨q, t + 0, none⟩ = some (.int .i64 x) := by
                obtain ⟨vn, vo, he, _, hl2⟩ := hls
                simp only [Value.agg.injEq, Array.mk.injEq, List.cons.injEq, and_true, true_and] at he
                obtain ⟨rfl, rfl⟩ := he
                obtain ⟨_, a3, c3, he3, _, hc3⟩ := hl2
                injection he3 with e1 e2 e3
                subst e1
                exact hc3 0 x hx
              rw [Nat.add_zero] at hcx
              subst hq
              have HFT : Hid (flT (L.take (i + 1)) = flT (L.take i) ++ [x]) := by
                show _ = _
                rw [flT_take HF.out, List.getD_eq_getElem?_getD, hx]
                rfl
              have HFL : Hid ((flT (L.take i)).length = i) := by show _ = _; rw [flT_len, List.length_take]; omega
              have HT := Lib.hid HBL6.out.terms
              have l2 := HBL6.out.cells.c2
              have l2a := (HBL6.out.cells.alloc (.cells #[Value.int .i64 x] 3)).c2
              have HNV := Lib.hid (has_ne_c3 HT.out.has HBL6.out.cells (by decide))
              clear hsq hx hls p0 p1
              go_region_law (refine step_append_at_list (enc := (Value.int .i64)) (e := 3) rfl (.tmp 74) (.tmp 82) 25 rfl (p + 1) i0 (.int .i64 0) 8 Try.underlying25 hi hz0 hz1 hz2 rfl (.slice oa i oc) (flT (L.take i)) rfl (by repeat (first | with_reducible exact HT.out.has | with_reducible apply has_alloc | with_reducible apply has_drew)) (Value.slice (some ⟨_, 0, none⟩) 1 1) [x] rfl (by repeat (first | (with_reducible refine lies_lit1 (enc := (Value.int .i64)) _ rfl) | with_reducible apply lies_alloc | with_reducible apply lies_drew)) (fun _ _ => rfl) (by rw [HFL.out]; simp; omega) (by rw [HFL.out]; simp; omega) (by have := HPV.out; simp; omega) ?_; intro vt w6 ho6 hg6 hb6; obtain ⟨a6, c6, hvf, _⟩ := ho6.form; rw [show (flT (L.take i) ++ [x]).length = i + 1 from by rw [List.length_append, HFL.out]; rfl] at hvf; subst hvf; refine with_fact (T := V.grownBy w6 (Value.slice oa i oc).ownBlock) ?_ ?_; (focus (first | exact Plain.grown_drew (grown_alloc hg6) | exact grown_alloc hg6)); intro hg7; have hc7 := HBL6.out.cells.grown hg7 HNV.out; have r1 := hc7.c2; have r3 := hc7.f)
              all_goals
                have HBL7 := Lib.hid (HBL6.out.term ho6 hg7 (fun j hj => (hb6 j hj).imp id (fun h => by simp at h; omega)))
                have HB7 : Hid (Below p W1 (w6.setCell ⟨p, 2, none⟩ (.slice a6 (i + 1) c6))) := (HBq.out.grown hg7 (by have := HPV.out; omega) (fun j hj => by have := (HT.out.has.lt j hj).1; omega)).setCell (Nat.le_refl p) _
                rw [← HFT.out, ← HRS.out] at HBL7
                clear ho6 hg6 hb6 hg7 hc7
                go_wp2
                go_roundw
                case rel => exact ⟨i + 1, _, _, _, _, by omega, by go_num, HBL7, HB7⟩
                case measure => simp [intOf] <;> omega
        · have hE : i = L.length := by omega
          have HBE : Hid (Building W4 (p + 1) hi' p (bn : Int) (.slice na i nc) (.slice oa i oc) us (kRows M bn L.length) (flT L)) := by
            have h := HBL.out
            rw [List.take_of_length_le (by omega)] at h
            rw [← hE]
            exact h
          have HOS := Lib.hid HBE.out.seq
          have HZR := Lib.hid (HZ2.out.below HBW.out)
          have HBR := Lib.hid (HB2.out.trans (HBW.out.mono HB2.out.size))
          have HPW2 : Hid (w.heap.size + 2 ≤ p + 1) := by have h1 := HSZ2.out; have h2 := HPS.out; show _ ≤ _; omega
          have m0 := HBL.out.cells.c0
          have m1 := HBL.out.cells.c1
          have m2 := HBL.out.cells.c2
          have z0 := HZR.out.c0
          have z1 := HZR.out.c1
          have z2 := HZR.out.c2
          have z3 := HZR.out.f
          have hild := decide_eq_false (show ¬ (i : Int) < (L.length : Int) by omega)
          have hiln := decide_eq_false (show ¬ i < L.length by omega)
          clear hE hrl hfl
          go_wp2
          have hZ3 := (((HZR.out.set0 (.int .i64 (bn : Int))).set1 (.slice na i nc)).set2 (.slice oa i oc))
          have n0 := hZ3.c0
          have n1 := hZ3.c1
          have n2 := hZ3.c2
          refine bodyPost_ret (v := .tuple #[.agg #[.int .i64 (bn : Int), .slice na i nc, .slice oa i oc], .bool true]) (by simp [results, Try.results12, go_sem, n0, n1, n2]) rfl ?_
          rw [HV.out.1, HV.out.2.1, HV.out.2.2, HK.out]
          refine ⟨_, rfl, ?_, ((HBR.out.setCell (Nat.le_succ _) _).setCell (Nat.le_succ _) _).setCell (Nat.le_succ _) _⟩
          have hT : ∀ (i : Nat) (u : Value) (W : World), Plain.Touch (w.heap.size + 1) (w.heap.size + 2) W (W.setCell ⟨w.heap.size + 1, i, none⟩ u) := fun i u W => Plain.Touch.of_set (a := ⟨w.heap.size + 1, i, none⟩) u (Nat.le_refl _) (Nat.lt_succ_self _)
          have T0 : Plain.Touch (w.heap.size + 1) (w.heap.size + 2) W4 (((W4.setCell ⟨w.heap.size + 1, 0, none⟩ (.int .i64 (bn : Int))).setCell ⟨w.heap.size + 1, 1, none⟩ (.slice na i nc)).setCell ⟨w.heap.size + 1, 2, none⟩ (.slice oa i oc)) := ((hT 0 _ _).trans (hT 1 _ _)).trans (hT 2 _ _)
          have h1 := (HOS.out.touch T0 (.inr HPW2.out)).lower (show w.heap.size ≤ p + 1 by have := HPW2.out; omega)
          simpa only [size_setCell'] using h1
    · have HK : Hid (flK b rows out = false) := by show _ = _; rw [HFK.out]; simp; omega
      have hd := decide_eq_true (show (L.length : Int) > 16 by omega)
      have hdn := decide_eq_true (show 16 < L.length by omega)
      go_wp2
      obtain ⟨q1, q2, q3⟩ := HNO.out HK.out
      have hZ3 := (((HZ2.out.set0 (.int .i64 0)).set1 (.slice none 0 0)).set2 (.slice none 0 0))
      have n0 := hZ3.c0
      have n1 := hZ3.c1
      have n2 := hZ3.c2
      refine bodyPost_ret (v := .tuple #[.agg #[.int .i64 0, .slice none 0 0, .slice none 0 0], .bool false]) (by simp [results, Try.results12, go_sem, n0, n1, n2]) rfl ?_
      rw [q1, q2, q3, HK.out]
      exact ⟨_, rfl, OwnS.zero _, ((HB2.out.setCell (Nat.le_succ _) _).setCell (Nat.le_succ _) _).setCell (Nat.le_succ _) _⟩
theorem fl_size (b : Int) (rows : List (List Int)) (out : List Int) : tot (flR b rows out) + (flO b rows out).length ≤ 1000 := by
  cases hk : flK b rows out with
  | false =>
    obtain ⟨_, h2, h3⟩ := fl_no hk
    rw [h2, h3]
    simp [tot]
  | true =>
    obtain ⟨_, h2, h3⟩ := fl_yes hk
    rw [flK, Bool.and_eq_true, decide_eq_true_eq] at hk
    obtain ⟨hok, hR⟩ := ker_ok hk.1
    rw [h2, h3, flT_len, hR]
    have h4 := tot_four (rows := kRows (mini b rows out) b.toNat (kerV b rows out).length) fun r hr => by
      simp only [kRows, List.mem_map, List.mem_range] at hr
      obtain ⟨i, _, rfl⟩ := hr
      rw [kRow_len]
      exact hok.high
    rw [kRows_len] at h4
    omega
end Kern
end Go.Proofs.Ytdgfecjakmdheaa
/- Contracts of KernelSize, of the program and of the model. No conditions beyond those that each states. -/
namespace Go.Proofs.Ytdgfecjakmdheaa
open Go.ChangeShapes Go.WideShapes Go.ChangeAt Go.RowKit
open Go.PlainAid Plain
set_option linter.unusedVariables false
namespace Kern
open Seqs Mins
def ksV (b : Int) (rows : List (List Int)) (out : List Int) : Int := if kerK b rows out = true then ((kerV b rows out).length : Int) else -1
theorem ret_z {a b : Int} (h : a = b) : Ending.returned (.int .i64 a) = Ending.returned (.int .i64 b) := by rw [h]
theorem spec_ks (v : Value) (b : Int) (rows : List (List Int)) (out : List Int) (w : World) (h : LiesS w v b rows out) (hs : rows.length + tot rows + out.length ≤ 1048576) :
    Calls Try.prog 10 #[v] w fun e w' => e = .returned (.int .i64 (ksV b rows out)) ∧ Below w.heap.size w w' := by
  have HS := Lib.hid h
  obtain ⟨an, cn, ao, co, rfl⟩ := h.form
  clear h
  have HB : Hid (Below w.heap.size w (w.alloc (Obj.cells #[Value.int .i64 b, Value.slice an rows.length cn, Value.slice ao out.length co] 27))) := (Below.refl _ _).alloc (Nat.le_refl _) _
  have HC := Lib.hid (Cells3.new w 27 (.int .i64 b) (.slice an rows.length cn) (.slice ao out.length co))
  have HCK := Lib.hid (spec_ker _ b rows out _ (HS.out.below HB.out) hs)
  have HV : Hid (ksV b rows out = if kerK b rows out = true then ((kerV b rows out).length : Int) else -1) := rfl
  obtain ⟨K, hK⟩ : ∃ x, x = kerK b rows out := ⟨_, rfl⟩
  obtain ⟨L, hL⟩ : ∃ x, x = kerV b rows out := ⟨_, rfl⟩
  obtain ⟨V, hV⟩ : ∃ x, x = ksV b rows out := ⟨_, rfl⟩
  rw [← hK, ← hL] at HCK HV
  rw [← hV] at HV ⊢
  have k0 := HC.out.c0
  have k1 := HC.out.c1
  have k2 := HC.out.c2
  clear hK hL hV hs
  cases K with
  | true =>
    rw [if_pos rfl] at HV
    go_enter Try.func10, Try.ntmps10
    go_wp2_with fail
    refine HCK.out.mono ?_
    rintro e w' ⟨vs, E, rfl, ho, _, hm, hb⟩
    obtain ⟨a, c, rfl, _⟩ := ho.form
    have HL : Hid (((E.map El.q).length : Int) = L.length) := by rw [← hm, List.length_map, List.length_map]; rfl
    have HB2 := Lib.hid (HB.out.trans (hb.mono HB.out.size))
    rw [List.length_map] at HL ⊢
    clear ho hm hb k0 k1 k2
    go_wp2
    go_ret
    exact ⟨ret_z (by rw [HV.out, ← HL.out]), HB2.out⟩
  | false =>
    rw [if_neg (by simp)] at HV
    go_enter Try.func10, Try.ntmps10
    go_wp2_with fail
    refine HCK.out.mono ?_
    rintro e w' ⟨vs, E, rfl, ho, _, hm, hb⟩
    obtain ⟨a, c, rfl, _⟩ := ho.form
    have HB2 := Lib.hid (HB.out.trans (hb.mono HB.out.size))
    rw [List.length_map]
    clear ho hm hb k0 k1 k2
    go_wp2
    go_ret
    exact ⟨ret_z HV.out.symm, HB2.out⟩
theorem impl_ks (v : Value) (b : Int) (rows : List (List Int)) (out : List Int) (w : World) (h : LiesS w v b rows out) (hs : rows.length + tot rows + out.length ≤ 1048576) :
    Calls Try.prog 9 #[v] w fun e w' => e = .returned (.int .i64 (ksV b rows out)) ∧ Below w.heap.size w w' := by
  have HS := Lib.hid h
  obtain ⟨an, cn, ao, co, rfl⟩ := h.form
  clear h
  have HB : Hid (Below w.heap.size w (w.alloc (Obj.cells #[Value.int .i64 b, Value.slice an rows.length cn, Value.slice ao out.length co] 27))) := (Below.refl _ _).alloc (Nat.le_refl _) _
  have HC := Lib.hid (Cells3.new w 27 (.int .i64 b) (.slice an rows.length cn) (.slice ao out.length co))
  have HCK := Lib.hid (impl_search _ b rows out _ (HS.out.below HB.out) hs)
  have HV : Hid (ksV b rows out = if kerK b rows out = true then ((kerV b rows out).length : Int) else -1) := rfl
  obtain ⟨K, hK⟩ : ∃ x, x = kerK b rows out := ⟨_, rfl⟩
  obtain ⟨L, hL⟩ : ∃ x, x = kerV b rows out := ⟨_, rfl⟩
  obtain ⟨R, hR⟩ : ∃ x, x = kerR b rows out := ⟨_, rfl⟩
  obtain ⟨V, hV⟩ : ∃ x, x = ksV b rows out := ⟨_, rfl⟩
  rw [← hK, ← hL, ← hR] at HCK
  rw [← hK, ← hL] at HV
  rw [← hV] at HV ⊢
  have k0 := HC.out.c0
  have k1 := HC.out.c1
  have k2 := HC.out.c2
  clear hK hL hR hV hs
  cases K with
  | true =>
    rw [if_pos rfl] at HV
    go_enter Try.func9, Try.ntmps9
    go_wp2_with fail
    refine HCK.out.mono ?_
    rintro e w' ⟨vf, vn, E, rfl, ho, _, hm, ⟨lo, hi, _, hn⟩, hb⟩
    obtain ⟨a, c, rfl, _⟩ := ho.form
    obtain ⟨a', c', rfl⟩ := HasRows.form hn
    have HL : Hid (((E.map El.q).length : Int) = L.length) := by rw [← hm, List.length_map, List.length_map]; rfl
    have hbx : Below w'.heap.size w' (w'.alloc (.cells #[.slice a (E.map El.q).length c, .slice a' R.length c'] 46)) := (Below.refl _ _).alloc (Nat.le_refl _) _
    have hx := CellsN.new w' 46 [.slice a (E.map El.q).length c, .slice a' R.length c']
    have HB2 := Lib.hid ((HB.out.trans (hb.mono HB.out.size)).trans (hbx.mono (HB.out.trans (hb.mono HB.out.size)).size))
    rw [List.length_map] at HL HB2 hx ⊢
    have x0 := hx.at_ (i := 0) rfl
    have x1 := hx.at_ (i := 1) rfl
    clear ho hm hb k0 k1 k2 hbx hx
    go_wp2
    go_ret
    exact ⟨ret_z (by rw [HV.out, ← HL.out]), HB2.out⟩
  | false =>
    rw [if_neg (by simp)] at HV
    go_enter Try.func9, Try.ntmps9
    go_wp2_with fail
    refine HCK.out.mono ?_
    rintro e w' ⟨vf, vn, E, rfl, ho, _, hm, ⟨lo, hi, _, hn⟩, hb⟩
    obtain ⟨a, c, rfl, _⟩ := ho.form
    obtain ⟨a', c', rfl⟩ := HasRows.form hn
    have hbx : Below w'.heap.size w' (w'.alloc (.cells #[.slice a (E.map El.q).length c, .slice a' R.length c'] 46)) := (Below.refl _ _).alloc (Nat.le_refl _) _
    have HB2 := Lib.hid ((HB.out.trans (hb.mono HB.out.size)).trans (hbx.mono (HB.out.trans (hb.mono HB.out.size)).size))
    rw [List.length_map] at HB2 ⊢
    clear ho hm hb k0 k1 k2 hbx
    go_wp2
    go_ret
    exact ⟨ret_z HV.out.symm, HB2.out⟩
end Kern
end Go.Proofs.Ytdgfecjakmdheaa
/- Contract of the program's KernelOf. No conditions beyond those that it states. -/
namespace Go.Proofs.Ytdgfecjakmdheaa
open Go.ChangeShapes Go.WideShapes Go.ChangeAt Go.RowKit
open Go.PlainAid Plain
set_option linter.unusedVariables false
namespace Kern
open Seqs Mins
theorem impl_ker (v : Value) (b : Int) (rows : List (List Int)) (out : List Int) (w : World) (h : LiesS w v b rows out) (hs : rows.length + tot rows + out.length ≤ 1048576) :
    Calls Try.prog 6 #[v] w (GivesKer (kerV b rows out) (kerK b rows out) w) := by
  have HS := Lib.hid h
  obtain ⟨an, cn, ao, co, rfl⟩ := h.form
  clear h
  have HB : Hid (Below w.heap.size w (w.alloc (Obj.cells #[Value.int .i64 b, Value.slice an rows.length cn, Value.slice ao out.length co] 27))) := (Below.refl _ _).alloc (Nat.le_refl _) _
  have HC := Lib.hid (Cells3.new w 27 (.int .i64 b) (.slice an rows.length cn) (.slice ao out.length co))
  have HCK := Lib.hid (impl_search _ b rows out _ (HS.out.below HB.out) hs)
  obtain ⟨K, hK⟩ : ∃ x, x = kerK b rows out := ⟨_, rfl⟩
  obtain ⟨L, hL⟩ : ∃ x, x = kerV b rows out := ⟨_, rfl⟩
  obtain ⟨R, hR⟩ : ∃ x, x = kerR b rows out := ⟨_, rfl⟩
  rw [← hK, ← hL, ← hR] at HCK
  rw [← hK, ← hL]
  have k0 := HC.out.c0
  have k1 := HC.out.c1
  have k2 := HC.out.c2
  have HBS := Lib.hid HB.out.size
  clear hK hL hR hs
  go_enter Try.func6, Try.ntmps6
  go_wp2_with fail
  refine HCK.out.mono ?_
  rintro e w' ⟨vf, vn, E, rfl, ho, he, hm, ⟨lo, hi, _, hn⟩, hb⟩
  obtain ⟨a, c, rfl, _⟩ := ho.form
  obtain ⟨a', c', rfl⟩ := HasRows.form hn
  have hbx : Below w'.heap.size w' (w'.alloc (.cells #[.slice a (E.map El.q).length c, .slice a' R.length c'] 46)) := (Below.refl _ _).alloc (Nat.le_refl _) _
  have hx := CellsN.new w' 46 [.slice a (E.map El.q).length c, .slice a' R.length c']
  have HB2 := Lib.hid ((HB.out.trans (hb.mono HB.out.size)).trans (hbx.mono (HB.out.trans (hb.mono HB.out.size)).size))
  have HO2 := Lib.hid ((ho.below hbx).mono HBS.out)
  have HE2 := Lib.hid (he.below hbx)
  have HM := Lib.hid hm
  rw [List.length_map] at HB2 hx HO2 HE2 ⊢
  have x0 := hx.at_ (i := 0) rfl
  have x1 := hx.at_ (i := 1) rfl
  clear ho hm hb he hn k0 k1 k2 hbx hx
  go_wp2
  refine bodyPost_ret (v := .tuple #[.slice a E.length c, .bool K]) (by simp [results, Try.results6, go_sem]) rfl ?_
  exact ⟨_, E, rfl, HO2.out, ⟨fun e he => HE2.out.own e he, fun e he => ⟨Nat.le_trans HBS.out (HE2.out.lo e he).1, (HE2.out.lo e he).2⟩, HE2.out.pw⟩, HM.out, HB2.out⟩
end Kern
end Go.Proofs.Ytdgfecjakmdheaa
/- Contracts of KernelOf, of the program and of the model, as the law wants them. No conditions beyond those that each states. -/
namespace Go.Proofs.Ytdgfecjakmdheaa
open Go.ChangeShapes Go.WideShapes Go.ChangeAt Go.RowKit
open Go.PlainAid Plain
set_option linter.unusedVariables false
namespace Kern
open Seqs Mins
theorem good_size {b : Int} {q : Sq} (h : Good b q) : szQ q ≤ 100 := by
  have h1 := h.seq
  have h2 := tot_four (rows := q.r) fun r hr => by have := (h1.2.2.2.2.2.1 r hr).1; have := h1.2.1; omega
  have h3 := h1.2.2.2.1
  have h4 := h1.2.2.2.2.1
  unfold szQ
  omega
theorem totQ_le' {L : List Sq} (h : ∀ q ∈ L, szQ q ≤ 100) : totQ L ≤ L.length * 100 := by
  induction L with
  | nil => simp [totQ]
  | cons q L ih =>
    have h1 := ih fun x hx => h x (List.mem_cons_of_mem _ hx)
    have h2 := h q (List.mem_cons_self ..)
    have : totQ (q :: L) = szQ q + totQ L := by simp [totQ]
    rw [this, List.length_cons, Nat.add_mul]
    omega
theorem kerV_size (b : Int) (rows : List (List Int)) (out : List Int) : totQ (kerV b rows out) ≤ 4000 := by
  unfold kerV
  split
  · rename_i h
    rw [kerK, Bool.and_eq_true, decide_eq_true_eq] at h
    obtain ⟨hk, h40⟩ := h
    have hg := mini_good hk
    have hs := hg.seq
    have hb : 0 < b.toNat := by have := hs.1; have := hg.base; omega
    have hm : Good (b.toNat : Int) (mini b rows out) := ⟨by rw [hg.base]; have := hs.1; have := hg.base; omega, hg.steady⟩
    have h1 := totQ_le' (L := kerL (mini b rows out) b.toNat) fun q hq => good_size (kF_good hb hm _ q hq)
    have h2 : (kerL (mini b rows out) b.toNat).length * 100 ≤ 40 * 100 := Nat.mul_le_mul_right _ h40
    omega
  · simp [totQ]
theorem spec_kq (v : Value) (b : Int) (rows : List (List Int)) (out : List Int) (w : World) (h : LiesS w v b rows out) (hs : rows.length + tot rows + out.length ≤ 1048576) :
    Calls Try.prog 7 #[v] w (GivesQ (kerV b rows out) (kerK b rows out) w) := (spec_ker v b rows out w h hs).mono fun _ _ h => gives_q h
theorem impl_kq (v : Value) (b : Int) (rows : List (List Int)) (out : List Int) (w : World) (h : LiesS w v b rows out) (hs : rows.length + tot rows + out.length ≤ 1048576) :
    Calls Try.prog 6 #[v] w (GivesQ (kerV b rows out) (kerK b rows out) w) := (impl_ker v b rows out w h hs).mono fun _ _ h => gives_q h
end Kern
end Go.Proofs.Ytdgfecjakmdheaa
