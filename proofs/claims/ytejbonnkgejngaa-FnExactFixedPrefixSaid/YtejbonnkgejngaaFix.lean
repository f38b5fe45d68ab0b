/- Contracts of FixedPrefix, of the model and of the program. No conditions beyond those that each states. -/
import Derived.Test.YtejbonnkgejngaaGrowI
namespace Go.Proofs.Ytejbonnkgejngaa
open Go.ChangeShapes Go.WideShapes Go.ChangeAt Go.RowKit
open Go.PlainAid Plain
set_option linter.unusedVariables false
namespace Mor
open Seqs
theorem fixK_no1 {m : List (List Int)} {a n : Int} (h : growB m a = false) : fixK m a n = false := by simp [fixK, h]
theorem fixK_no2 {m : List (List Int)} {a n : Int} (h : n < 0 ∨ 256 < n) : fixK m a n = false := by
  have : decide (0 ≤ n ∧ n ≤ 256) = false := decide_eq_false (by omega)
  simp [fixK, this]
theorem fix_no {m : List (List Int)} {a n : Int} {W : World} {e : Ending} {W' : World} (h : fixK m a n = false) (hg : GivesIK [] false W e W') : GivesIK (fixV m a n) (fixK m a n) W e W' := by simp only [fixV, h]; exact hg
theorem fix_yes {m : List (List Int)} {a : Int} {n j : Nat} {W : World} {e : Ending} {W' : World} (h : growB m a = true) (hn : n ≤ 256) (hj : n ≤ (fxL m a j).length) (hg : GivesIK ((fxL m a j).take n) true W e W') : GivesIK (fixV m a n) (fixK m a n) W e W' := by
  have e1 : fixK m a n = true := by simp [fixK, h]; omega
  have e2 : fixV m a n = (fxL m a j).take n := by
    simp only [fixV, e1, if_true, Int.toNat_natCast]
    exact fx_take (by have := ((grows_of h).fx n).1; omega) hj
  rw [e1, e2]
  exact hg
theorem has_take {w : World} {base n k c : Nat} {a : Option Addr} {xs : List Int} (h : Has (Value.int .i64) 3 w base (.slice a n c) xs) (hk : k ≤ xs.length) : Has (Value.int .i64) 3 w base (.slice a k c) (xs.take k) := by
  have hl : (xs.take k).length = k := by rw [List.length_take]; omega
  show World.ownsRow _ _ _ _ _ _ _
  rw [hl]
  rcases h.2 with ⟨hv, hn⟩ | ⟨g, cap, cur, hv, hb, hg, hnc, hcm, hcs, ht⟩
  · injection hv with e1 e2 e3
    subst e1; subst e3
    obtain rfl : k = 0 := by omega
    exact World.ownsRow_nil _ _ _ _
  · injection hv with e1 e2 e3
    subst e1; subst e3
    refine ⟨by rw [List.length_map, hl, Nat.mul_one], .inr ⟨g, c, cur, rfl, hb, hg, by omega, hcm, hcs, ?_⟩⟩
    rw [Nat.mul_one] at ht ⊢
    rw [List.map_take, ← ht, List.take_take, Nat.min_eq_left hk]
theorem zeros_copy (ys : List Int) (n : Nat) (h : n ≤ ys.length) : (List.replicate n (0 : Int)).take 0 ++ (ys.take n ++ (List.replicate n (0 : Int)).drop (0 + n)) = ys.take n := by
  rw [List.take_zero, List.nil_append, Nat.zero_add, List.drop_of_length_le (by simp), List.append_nil]
set_option maxRecDepth 100000 in
set_option maxHeartbeats 2000000 in
theorem impl_fix (v : Value) (m : List (List Int)) (a n : Int) (w : World) (h : OwnedM w v m) :
    Calls Try.prog 31 #[v, .int .i64 a, .int .i64 n] w (GivesIK (fixV m a n) (fixK m a n) w) := by
  obtain ⟨i0, hi, hz0, hz1, hz2⟩ := info_parts Ints.infoI
  obtain ⟨an, cn, rfl⟩ := h.lies.form
  have HO := Lib.hid h
  have HM := Lib.hid h.lies
  have HB : Hid (Below w.heap.size w (w.alloc (Obj.cells #[Value.slice an m.length cn] 31))) := (Below.refl _ _).alloc (Nat.le_refl _) _
  have HC := Lib.hid (Cells1.new w 31 (.slice an m.length cn))
  clear h
  go_enter Try.func31, Try.ntmps31
  go_wp2_with fail
  refine (impl_grow _ m a _ (HO.out.below HB.out)).mono ?_
  rintro e W1 ⟨rfl, hb⟩
  have HB1 := Lib.hid (HB.out.trans (hb.mono HB.out.size))
  have HC1 := Lib.hid (HC.out.below hb)
  have k0 := HC1.out.c0
  clear hb HC HB
  obtain ⟨c, hc⟩ : ∃ c, growB m a = c := ⟨_, rfl⟩
  rw [hc]
  have HGB := Lib.hid hc
  clear hc
  cases c with
  | false =>
    go_wp2
    go_ret2
    exact fix_no (fixK_no1 HGB.out) ⟨_, rfl, has_none _ _, HB1.out⟩
  | true =>
    by_cases hn0 : n < 0
    · have hd := decide_eq_true hn0
      go_wp2
      go_ret2
      exact fix_no (fixK_no2 (.inl hn0)) ⟨_, rfl, has_none _ _, HB1.out⟩
    · have hd := decide_eq_false hn0
      by_cases hn1 : n > 256
      · have hd1 := decide_eq_true hn1
        go_wp2
        go_ret2
        exact fix_no (fixK_no2 (.inr hn1)) ⟨_, rfl, has_none _ _, HB1.out⟩
      · have hd1 := decide_eq_false hn1
        obtain ⟨N, rfl⟩ : ∃ N : Nat, n = N := ⟨n.toNat, by omega⟩
        have hN : N ≤ 256 := by omega
        have HGR := Lib.hid (grows_of HGB.out)
        obtain ⟨x0, hx0, hx1, hx2, hx3, hx4⟩ := HGR.out.fx_first
        obtain rfl := hx0
        have HX2 := Lib.hid hx2
        have HG0 : Hid (GWord (W1.alloc (Obj.cells #[.slice an m.length cn, .slice none 0 0] 52)) W1.heap.size (.slice an m.length cn) (.slice none 0 0) []) := ⟨CellsN.new W1 52 [.slice an m.length cn, .slice none 0 0], has_none _ _⟩
        have HB3 : Hid (Below w.heap.size w (W1.alloc (Obj.cells #[.slice an m.length cn, .slice none 0 0] 52))) := HB1.out.alloc HB1.out.size _
        have HS : Hid (w.heap.size ≤ W1.heap.size) := HB1.out.size
        clear hx2
        go_wp2_with fail
        obtain ⟨B, hBB⟩ : ∃ B, B = W1.heap.size := ⟨_, rfl⟩
        rw [← hBB] at HG0 HS ⊢
        generalize W1.alloc (Obj.cells #[.slice an m.length cn, .slice none 0 0] 52) = W3 at HG0 HB3 ⊢
        clear k0 HC1 HB1 hBB hd hd1 hn0 hn1
        refine (add_image B x0 an cn m _ _ _ _ HG0.out (HM.out.rows.below HB3.out) HX2.out (by simp; omega)).mono ?_
        rintro e W4 ⟨rfl, v4, hg, hb⟩
        have HG4 : Hid (GWord W4 B (.slice an m.length cn) v4 (fxL m (x0 : Int) 0)) := hg
        have HB4 := Lib.hid (HB3.out.trans (hb.mono HS.out))
        clear hg hb HG0 HB3
        go_wp2
        go_loopw [9] (fun i' wr => ∃ (j : Nat) (vo : Value), i' = .int .i64 ((j : Int) + 1) ∧ j ≤ 256 ∧ Hid (GWord wr B (.slice an m.length cn) vo (fxL m (x0 : Int) j)) ∧ Hid (Below w.heap.size w wr)) (fun i' _ => 300 - (intOf i').toNat)
        case atStart => exact ⟨0, v4, rfl, by omega, HG4, HB4⟩
        case round =>
          obtain ⟨j, vo, rfl, hj, HGr, HBr⟩ := hrel
          have hfx := (HGR.out.fx j).1
          obtain ⟨oa, oc, rfl, hog⟩ := HGr.out.has.form
          obtain ⟨og, rfl⟩ := hog (by omega)
          have k1 := HGr.out.cells.at_ (i := 1) rfl
          by_cases hlt : (fxL m (x0 : Int) j).length < N
          · have hd := decide_eq_true (show ((fxL m (x0 : Int) j).length : Int) < (N : Int) by omega)
            have hdn := decide_eq_true hlt
            obtain ⟨xn, r, hxi, hxn, hr, hr8, hT⟩ := HGR.out.fx_next j
            have hcx : wr.cell? ⟨og, j + 1, none⟩ = some (.int .i64 xn) := by
              have h1 := lies_el' HGr.out.has.lies hxi
              rwa [Nat.zero_add] at h1
            have HT := Lib.hid hT
            have HR := Lib.hid hr
            have hj0 : (0 : Int) ≤ (j : Int) + 1 := by omega
            have hj1 : (j : Int) + 1 < ((fxL m (x0 : Int) j).length : Int) := by omega
            have hjt : ((j : Int) + 1).toNat = j + 1 := by omega
            clear hxi hr hT
            go_wp2_with fail
            refine (add_image B xn an cn m _ _ r _ HGr.out (HM.out.rows.below HBr.out) HR.out (by omega)).mono ?_
            rintro e W5 ⟨rfl, v5, hg, hb⟩
            have HG5 : Hid (GWord W5 B (.slice an m.length cn) v5 (fxL m (x0 : Int) (j + 1))) := by show GWord _ _ _ _ _; rw [HT.out]; exact hg
            have HB5 := Lib.hid (HBr.out.trans (hb.mono HS.out))
            clear hg hb HGr HBr k1 hcx
            go_wp2
            go_roundw
            case rel => exact ⟨j + 1, v5, by go_num, by omega, HG5, HB5⟩
            case measure => simp [intOf]; omega
          · have hd := decide_eq_false (show ¬ ((fxL m (x0 : Int) j).length : Int) < (N : Int) by omega)
            have hdn := decide_eq_false hlt
            have hNL : N ≤ (fxL m (x0 : Int) j).length := by omega
            have HLL := Lib.hid HGr.out.has.lies
            have HCC := Lib.hid HGr.out.cells
            have HSr : Hid (w.heap.size ≤ wr.heap.size) := HBr.out.size
            go_wp2_with (first | (at_make; refine wpList_make_full wr rfl _ _ 22 rfl wr.heap.size 3 i0 (.int .i64 0) 1 Try.underlying22 hi hz0 hz1 .i64 .i64 _ _ N rfl rfl rfl rfl (by rw [hz2]; omega) (by unfold maxLen; omega) (Nat.le_refl _) ?_; intro w1 hown hgrow; have hb1 := below_of_grown hgrow; have HO6 := Lib.hid (Ints.made_has hown); have HB6 := Lib.hid (HBr.out.trans (hb1.mono HBr.out.size)); have HL6 := Lib.hid (HLL.out.below hb1); have HC6 := Lib.hid (HCC.out.below hb1); clear hown hgrow hb1 k1 HLL HCC; have k1 := HC6.out.at_ (i := 1) rfl) | (refine copy_has (enc := (Value.int .i64)) (e := 3) rfl (.tmp 50) (.tmp 54) 22 22 rfl Try.underlying22 Ints.size_i wr.heap.size N N (List.replicate N 0) HO6.out (some ⟨wr.heap.size, 0, none⟩) N N rfl (.slice (some ⟨og, 0, none⟩) (fxL m (x0 : Int) j).length oc) (fxL m (x0 : Int) j) rfl HL6.out (fun _ => rfl) 0 N (by omega) (fun _ => rfl) (by simp) ?_; intro w2 ho2 hg2; have HO7 := Lib.hid ho2; have HB7 := Lib.hid (HB6.out.grown hg2 HB6.out.size (fun k hk => by cases hk; exact HSr.out)); clear ho2 hg2))
            have HO8 := HO7.out
            rw [zeros_copy _ _ hNL] at HO8
            go_ret2
            exact fix_yes HGB.out hN hNL ⟨_, rfl, HO8.mono HSr.out, HB7.out⟩
set_option maxRecDepth 100000 in
set_option maxHeartbeats 2000000 in
theorem spec_fix (v : Value) (m : List (List Int)) (a n : Int) (w : World) (h : OwnedM w v m) :
    Calls Try.prog 30 #[v, .int .i64 a, .int .i64 n] w (GivesIK (fixV m a n) (fixK m a n) w) := by
  obtain ⟨i0, hi, hz0, hz1, hz2⟩ := info_parts Ints.infoI
  obtain ⟨an, cn, rfl⟩ := h.lies.form
  have HO := Lib.hid h
  have HM := Lib.hid h.lies
  have HB : Hid (Below w.heap.size w (w.alloc (Obj.cells #[Value.slice an m.length cn] 31))) := (Below.refl _ _).alloc (Nat.le_refl _) _
  have HC := Lib.hid (Cells1.new w 31 (.slice an m.length cn))
  clear h
  go_enter Try.func30, Try.ntmps30
  go_wp2_with fail
  refine (spec_grow _ m a _ (HO.out.below HB.out)).mono ?_
  rintro e W1 ⟨rfl, hb⟩
  have HB1 := Lib.hid (HB.out.trans (hb.mono HB.out.size))
  have HC1 := Lib.hid (HC.out.below hb)
  have HZ1 : Hid (w.heap.size + 1 ≤ W1.heap.size) := by have := HC1.out.lt; exact this
  have k0 := HC1.out.c0
  clear hb HC HB
  obtain ⟨c, hc⟩ : ∃ c, growB m a = c := ⟨_, rfl⟩
  rw [hc]
  have HGB := Lib.hid hc
  clear hc
  cases c with
  | false =>
    go_wp2
    go_ret2
    exact fix_no (fixK_no1 HGB.out) ⟨_, rfl, has_lit0 rfl HB1.out.size, HB1.out.alloc HB1.out.size _⟩
  | true =>
    by_cases hn : 0 ≤ n ∧ n ≤ 256
    case neg =>
      have HNO : Hid (n < 0 ∨ 256 < n) := by show _ ∨ _; omega
      clear hn
      go_wp2_with fail
      refine (l1In_no _ _ _ _ HNO.out).mono ?_
      rintro e w' ⟨rfl, rfl⟩
      go_wp2
      go_ret2
      exact fix_no (fixK_no2 HNO.out) ⟨_, rfl, has_lit0 rfl HB1.out.size, HB1.out.alloc HB1.out.size _⟩
    case pos =>
      obtain ⟨hn0, hn1⟩ := hn
      obtain ⟨N, rfl⟩ := Int.eq_ofNat_of_zero_le hn0
      have hN : N ≤ 256 := by omega
      have HGR := Lib.hid (grows_of HGB.out)
      obtain ⟨x0, hx0, hx1, hx2, hx3, hx4⟩ := HGR.out.fx_first
      obtain rfl := hx0
      go_wp2_with fail
      refine (l1In_yes _ _ _ _ hn0 hn1).mono ?_
      rintro e w' ⟨rfl, rfl⟩
      obtain ⟨p, o, ua, uc, rfl, hcr, hlr⟩ := rows_at (HM.out.rows.below HB1.out) hx2
      have hB2 : Below W1.heap.size W1 (W1.alloc (Obj.cells #[] 3)) := (Below.refl _ _).alloc (Nat.le_refl _) _
      have HO2 : Hid (Has (Value.int .i64) 3 (W1.alloc (Obj.cells #[] 3)) (w.heap.size + 1) (.slice (some ⟨W1.heap.size, 0, none⟩) 0 0) []) := has_lit0 rfl HZ1.out
      have HB2 := Lib.hid (HB1.out.trans (hB2.mono HB1.out.size))
      have HC2 := Lib.hid (HC1.out.below hB2)
      have HLR := Lib.hid (hlr.below hB2)
      have HZ2 : Hid (w.heap.size + 1 ≤ (W1.alloc (Obj.cells #[] 3)).heap.size) := Nat.le_trans HZ1.out hB2.size
      have k02 := HC2.out.c0
      have hcr2 := cell_kept hB2 hcr
      clear hx2 hlr hB2
      go_wp2_with (refine append_lies (enc := (Value.int .i64)) (e := 3) _ rfl _ _ 22 rfl (w.heap.size + 1) i0 (.int .i64 0) 8 Try.underlying22 hi hz0 hz1 hz2 rfl (.slice (some ⟨W1.heap.size, 0, none⟩) 0 0) [] rfl HO2.out (.slice ua _ uc) _ rfl HLR.out (fun _ => rfl) (by simp only [List.length_nil]; omega) (by simp only [List.length_nil]; omega) HZ2.out ?_; intro v' w1 ho hg; have HO3 := Lib.hid ho; have HC3 := Lib.hid (HC2.out.grown hg (fun e => by have := HO2.out.lt _ e; omega)); have HB3 := Lib.hid (HO2.out.frame HB2.out (by omega) hg); have HZ3 := Lib.hid (Nat.le_trans HZ2.out hg.size); clear hg ho)
      have HO4 : Hid (Has (Value.int .i64) 3 w1 (w.heap.size + 1) v' (fxL m (x0 : Int) 0)) := HO3.out
      clear HO3 k0 hcr k02 hcr2
      go_loopw [8, 9] (fun o' i' wr => ∃ (j : Nat) (vo : Value), i' = .int .i64 ((j : Int) + 1) ∧ vo = o' ∧ j ≤ 256 ∧ Hid (Has (Value.int .i64) 3 wr (w.heap.size + 1) vo (fxL m (x0 : Int) j)) ∧ Hid (Cells1 wr w.heap.size 31 (.slice (some ⟨p, o, none⟩) m.length cn)) ∧ Hid (Below w.heap.size w wr)) (fun _ i' _ => 300 - (intOf i').toNat)
      case atStart => exact ⟨0, v', rfl, rfl, by omega, HO4, HC3, HB3⟩
      case round =>
        obtain ⟨j, vo, rfl, rfl, hj, HOr, HCr, HBr⟩ := hrel
        have hfx := (HGR.out.fx j).1
        obtain ⟨oa, oc, rfl, hog⟩ := HOr.out.form
        obtain ⟨og, rfl⟩ := hog (by omega)
        have k0 := HCr.out.c0
        have HZr : Hid (w.heap.size + 1 ≤ wr.heap.size) := HCr.out.lt
        by_cases hlt : j + 1 < N ∧ (fxL m (x0 : Int) j).length < N
        · obtain ⟨hl1, hl2⟩ := hlt
          have hd := decide_eq_true (show (j : Int) + 1 < (N : Int) by omega)
          have hd1 := decide_eq_true (show ((fxL m (x0 : Int) j).length : Int) < (N : Int) by omega)
          have hdn := decide_eq_true hl2
          obtain ⟨xn, r, hxi, hxn, hr, hr8, hT⟩ := HGR.out.fx_next j
          have hcx : wr.cell? ⟨og, j + 1, none⟩ = some (.int .i64 xn) := by
            have h1 := lies_el' HOr.out.lies hxi
            rwa [Nat.zero_add] at h1
          obtain ⟨p2, o2, ua2, uc2, hpo, hcr2, hlr2⟩ := rows_at (HM.out.rows.below HBr.out) hr
          injection hpo with hpo
          injection hpo with hpo1 hpo2
          subst hpo1; subst hpo2
          have HT := Lib.hid hT
          have hj0 : (0 : Int) ≤ (j : Int) + 1 := by omega
          have hj1 : (j : Int) + 1 < ((fxL m (x0 : Int) j).length : Int) := by omega
          have hjt : ((j : Int) + 1).toNat = j + 1 := by omega
          have HLR2 := Lib.hid (hlr2.below (below_drew' _))
          have HO5 := Lib.hid (HOr.out.below (below_drew' _))
          have HC5 := Lib.hid (HCr.out.below (below_drew' _))
          have HB5 := Lib.hid (HBr.out.trans ((below_drew' _).mono HBr.out.size))
          have HZ5 : Hid (w.heap.size + 1 ≤ wr.drew.heap.size) := HZr.out
          clear hxi hr hT hlr2 HOr HBr HCr
          go_wp2
          go_still_tail 9, (by kernel_rfl)
          change wpList _ _ _ _ _ wr.drew
          generalize wr.drew = W2 at HLR2 HO5 HC5 HB5 HZ5 ⊢
          clear k0 hcx hcr2 HZr hd hd1 hdn hj0 hj1 hjt
          obtain ⟨L, hL⟩ : ∃ L, L = fxL m (x0 : Int) j := ⟨_, rfl⟩
          rw [← hL] at HO5 HT hl2 hfx ⊢
          clear hL
          go_wp2_with (refine append_lies (enc := (Value.int .i64)) (e := 3) _ rfl _ _ 22 rfl (w.heap.size + 1) i0 (.int .i64 0) 8 Try.underlying22 hi hz0 hz1 hz2 rfl (.slice (some ⟨og, 0, none⟩) L.length oc) L rfl HO5.out (.slice ua2 r.length uc2) r rfl HLR2.out (fun _ => rfl) (by omega) (by omega) HZ5.out ?_; intro v' w1 ho hg; have HO6 := Lib.hid ho; have HC6 := Lib.hid (HC5.out.grown hg (fun e => by have := HO5.out.lt _ e; omega)); have HB6 := Lib.hid (HO5.out.frame HB5.out (by omega) hg); clear hg ho)
          have HO7 : Hid (Has (Value.int .i64) 3 w1 (w.heap.size + 1) v' (fxL m (x0 : Int) (j + 1))) := by
            show Has _ _ _ _ _ _
            rw [HT.out]
            exact HO6.out
          go_roundw
          case rel => exact ⟨j + 1, v', by go_num, rfl, by omega, HO7, HC6, HB6⟩
          case measure => simp [intOf]; omega
        · have hNL : N ≤ (fxL m (x0 : Int) j).length := by omega
          have hdN := decide_eq_false (show ¬ ((fxL m (x0 : Int) j).length : Int) < (N : Int) by omega)
          have hdN2 := decide_eq_false (show ¬ (fxL m (x0 : Int) j).length < N by omega)
          have hcap : (N : Int) ≤ (oc : Int) := by have := HOr.out.cap; omega
          have hcapn : N ≤ oc := by omega
          have HF := Lib.hid (has_take HOr.out hNL)
          by_cases hl1 : j + 1 < N
          · have hd := decide_eq_true (show (j : Int) + 1 < (N : Int) by omega)
            go_wp2
            go_ret2
            exact fix_yes HGB.out hN hNL ⟨_, rfl, HF.out.mono (by omega), HBr.out⟩
          · have hd := decide_eq_false (show ¬ (j : Int) + 1 < (N : Int) by omega)
            go_wp2
            go_ret2
            exact fix_yes HGB.out hN hNL ⟨_, rfl, HF.out.mono (by omega), HBr.out⟩
end Mor
end Go.Proofs.Ytejbonnkgejngaa
