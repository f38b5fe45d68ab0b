/- Contract of the model's insertion of a word into a list in order. No conditions beyond those that each states. -/
import Derived.Test.YtcnejfihpaicdaaRowsV
namespace Go.Proofs.Ytcnejfihpaicdaa
open Go.ChangeShapes Go.WideShapes Go.ChangeAt Go.RowKit
open Go.PlainAid Plain
set_option linter.unusedVariables false
namespace Fac
open Seqs
theorem putW_next (xs r : List Int) (c : Bool) (l : List (List Int)) : putW xs c (r :: l) = (if cmpW xs r < 0 ∧ c = false then [xs] else []) ++ r :: putW xs (c || decide (cmpW xs r ≤ 0)) l := rfl
theorem putW_len (xs : List Int) : ∀ (c : Bool) (l : List (List Int)), (putW xs c l).length ≤ l.length + 1
  | c, [] => by cases c <;> simp [putW]
  | c, x :: l => by
    have h1 := putW_len xs (c || decide (cmpW xs x ≤ 0)) l
    rw [putW_next]
    by_cases h : cmpW xs x < 0 ∧ c = false
    · have h2 : (c || decide (cmpW xs x ≤ 0)) = true := by simp; exact .inr (by omega)
      rw [if_pos h, h2, putW_true]
      simp
    · rw [if_neg h]
      simp at h1 ⊢
      exact h1
theorem put_drop {xs r : List Int} {rows : List (List Int)} {i : Nat} {c : Bool} (hr : rows[i]? = some r) : putW xs c (rows.drop i) = (if cmpW xs r < 0 ∧ c = false then [xs] else []) ++ r :: putW xs (c || decide (cmpW xs r ≤ 0)) (rows.drop (i + 1)) := by
  obtain ⟨h1, rfl⟩ := List.getElem?_eq_some_iff.1 hr
  rw [List.drop_eq_getElem_cons h1, putW_next]
set_option maxRecDepth 100000 in
set_option maxHeartbeats 4000000 in
theorem put (l v : Value) (rows : List (List Int)) (xs : List Int) (w : World) (lo base : Nat) (hl : RowsV w lo base l rows) (hx : Lies (Value.int .i64) w v xs) (hb : base ≤ w.heap.size) (hn : rows.length ≤ 10000) (hs : xs.length ≤ 4194304) :
    Calls Try.prog 37 #[l, v] w fun e w' => ∃ v', e = .returned v' ∧ RowsV w' w.heap.size base v' (putW xs false rows) ∧ Below w.heap.size w w' := by
  obtain ⟨i0, hi, hz0, hz1, hz2⟩ := info_parts Ints.infoI
  obtain ⟨j0, hj, hy0, hy1, hy2⟩ := info_parts infoR'
  obtain ⟨la, lc, rfl⟩ := hl.form
  obtain ⟨a, ca, rfl⟩ : ∃ a ca, v = .slice a xs.length ca := by obtain ⟨_, a, ca, h, _⟩ := hx; exact ⟨a, ca, h⟩
  have HL := Lib.hid hl
  have HX := Lib.hid hx
  have HB : Hid (Below w.heap.size w (w.alloc (Obj.cells #[] 22))) := (Below.refl _ _).alloc (Nat.le_refl _) _
  have HO : Hid (RowsV (w.alloc (Obj.cells #[] 22)) w.heap.size base (.slice (some ⟨w.heap.size, 0, none⟩) 0 0) []) := RowsV.nil (has_lit0 (enc := id) rfl (Nat.le_refl _))
  clear hl hx
  go_enter Try.func37, Try.ntmps37
  go_wp2
  go_loopw [5, 6, 7] (fun o' c' i' wr => ∃ (i : Nat) (c : Bool) (vo : Value) (done : List (List Int)), i ≤ rows.length ∧ vo = o' ∧ c' = .bool c ∧ i' = .int .i64 i ∧ Hid (RowsV wr w.heap.size base vo done) ∧ Hid (done ++ putW xs c (rows.drop i) = putW xs false rows) ∧ done.length ≤ 2 * i ∧ Hid (Below w.heap.size w wr)) (fun _ _ i' _ => rows.length - (intOf i').toNat)
  case atStart => exact ⟨0, false, _, [], Nat.zero_le _, rfl, rfl, rfl, HO, rfl, by simp, HB⟩
  case round =>
    obtain ⟨i, c, vo, done, hi', rfl, rfl, rfl, HOr, HD, hdl, HBr⟩ := hrel
    by_cases hlt : i < rows.length
    · obtain ⟨r, hr⟩ : ∃ r, rows[i]? = some r := ⟨_, List.getElem?_eq_getElem hlt⟩
      obtain ⟨p, o, ua, uc, hla, hcell, hhas⟩ := HL.out.row hr
      subst hla
      have HC0 := Lib.hid hcell
      have hcell := (HBr.out.cell (p := ⟨p, o + i, none⟩) (World.block_lt_of_cell? _ _ hcell)).trans hcell
      have HR := Lib.hid hhas
      have HP := Lib.hid (put_drop (xs := xs) (c := c) hr)
      have hD5 := HD.out
      rw [HP.out] at hD5
      have HD4 := Lib.hid hD5
      have HCC := Lib.hid (spec_cmp _ _ xs r wr (HX.out.below HBr.out) (HR.out.lies.below HBr.out))
      clear hr hhas hD5 HP HD
      go_wp2_with fail
      refine HCC.out.mono ?_
      rintro e W5 ⟨rfl, b5⟩
      have HB5 := Lib.hid (HBr.out.trans (b5.mono HBr.out.size))
      have HO5 := Lib.hid (HOr.out.below b5)
      have hcell := (b5.cell (p := ⟨p, o + i, none⟩) (World.block_lt_of_cell? _ _ hcell)).trans hcell
      clear HCC b5 HBr HOr
      rcases cmpW_three xs r with hk | hk | hk
      · rw [hk] at HD4 ⊢
        clear hk
        cases c with
        | false =>
          have HD5 : Hid ((done ++ [xs]) ++ (r :: putW xs true (rows.drop (i + 1))) = putW xs false rows) := by have := HD4.out; show _ = _; simpa using this
          clear HD4
          have HDL := Lib.hid hdl
          obtain ⟨va, vc, hvo⟩ := HO5.out.form
          subst hvo
          go_upto_region 12 with (first | (refine append_lies (enc := (Value.int .i64)) (e := 3) _ rfl (.tmp 31) (.tmp 32) 22 rfl (W5).heap.size i0 (.int .i64 0) 8 Try.underlying22 hi hz0 hz1 hz2 rfl (.slice (some ⟨(W5).heap.size, 0, none⟩) 0 0) [] rfl (has_lit0 rfl (Nat.le_refl _)) (.slice a xs.length ca) xs rfl (lies_alloc (HX.out.below HB5.out) _) (fun _ => rfl) (by simp; omega) (by simp; omega) (by simp) ?_; intro vn wn hn hgn; rw [List.nil_append] at hn; obtain ⟨an, cn, rfl, _⟩ := hn.form; have bn : Below (W5).heap.size W5 wn := grown_below2 (.inl (grown_alloc hgn)) (Nat.le_refl _); have HOn := Lib.hid (HO5.out.below bn); have HBn := Lib.hid (HB5.out.trans (bn.mono HB5.out.size)); have HVn := Lib.hid (hn.mono (Nat.le_trans hb HB5.out.size)); have HLn := Lib.hid HBn.out.size; clear hn hgn) | (refine wpList_append_rowV rfl (.tmp 30) (.tmp 34) 26 rfl j0 Try.underlying26 hj hy0 hy1 hy2 _ rfl HOn.out _ xs HVn.out _ rfl rfl (by have := HDL.out; omega) HLn.out ?_; intro vm wm hom hgm; have HOm := Lib.hid hom; have HBm := Lib.hid (HOn.out.frame HBn.out (Nat.le_refl _) hgm); clear hom hgm))
          have HB5 := HBm
          have HO5 := HOm
          have hdl : (done ++ [xs]).length ≤ 2 * i + 2 := by rw [List.length_append]; have := HDL.out; simp; omega
          have hcell := (HB5.out.cell (p := ⟨p, o + i, none⟩) (World.block_lt_of_cell? _ _ HC0.out)).trans HC0.out
          obtain ⟨va, vc, hvo⟩ := HO5.out.form
          subst hvo
          have HR5 := Lib.hid (HR.out.below HB5.out)
          have HL5 := Lib.hid HB5.out.size
          have HDL := Lib.hid hdl
          clear hdl
          go_wp2_with (refine wpList_append_rowV rfl _ _ 26 rfl j0 Try.underlying26 hj hy0 hy1 hy2 _ rfl HO5.out _ r HR5.out _ rfl rfl (by have := HDL.out; omega) HL5.out ?_; intro v6 w6 ho6 hg6; have HO6 := Lib.hid ho6; have HB6 := Lib.hid (HO5.out.frame HB5.out (Nat.le_refl _) hg6); clear ho6 hg6)
          go_roundw
          case rel => exact ⟨i + 1, _, _, _, by omega, rfl, rfl, by go_num, HO6, by show (_ ++ [r]) ++ _ = _; rw [List.append_assoc]; exact HD5.out, by rw [List.length_append]; have := HDL.out; simp at this ⊢; omega, HB6⟩
          case measure => simp [intOf]; omega
        | true =>
          have HD5 : Hid (done ++ (r :: putW xs true (rows.drop (i + 1))) = putW xs false rows) := by have := HD4.out; show _ = _; simpa using this
          clear HD4
          obtain ⟨va, vc, hvo⟩ := HO5.out.form
          subst hvo
          have HR5 := Lib.hid (HR.out.below HB5.out)
          have HL5 := Lib.hid HB5.out.size
          have HDL := Lib.hid hdl
          clear hdl
          go_wp2_with (refine wpList_append_rowV rfl _ _ 26 rfl j0 Try.underlying26 hj hy0 hy1 hy2 _ rfl HO5.out _ r HR5.out _ rfl rfl (by have := HDL.out; omega) HL5.out ?_; intro v6 w6 ho6 hg6; have HO6 := Lib.hid ho6; have HB6 := Lib.hid (HO5.out.frame HB5.out (Nat.le_refl _) hg6); clear ho6 hg6)
          go_roundw
          case rel => exact ⟨i + 1, _, _, _, by omega, rfl, rfl, by go_num, HO6, by show (_ ++ [r]) ++ _ = _; rw [List.append_assoc]; exact HD5.out, by rw [List.length_append]; have := HDL.out; simp at this ⊢; omega, HB6⟩
          case measure => simp [intOf]; omega
      · rw [hk] at HD4 ⊢
        clear hk
        have HD5 : Hid (done ++ (r :: putW xs true (rows.drop (i + 1))) = putW xs false rows) := by have := HD4.out; show _ = _; simpa using this
        clear HD4
        obtain ⟨va, vc, hvo⟩ := HO5.out.form
        subst hvo
        have HR5 := Lib.hid (HR.out.below HB5.out)
        have HL5 := Lib.hid HB5.out.size
        have HDL := Lib.hid hdl
        clear hdl
        go_wp2_with (refine wpList_append_rowV rfl _ _ 26 rfl j0 Try.underlying26 hj hy0 hy1 hy2 _ rfl HO5.out _ r HR5.out _ rfl rfl (by have := HDL.out; omega) HL5.out ?_; intro v6 w6 ho6 hg6; have HO6 := Lib.hid ho6; have HB6 := Lib.hid (HO5.out.frame HB5.out (Nat.le_refl _) hg6); clear ho6 hg6)
        go_roundw
        case rel => exact ⟨i + 1, _, _, _, by omega, rfl, rfl, by go_num, HO6, by show (_ ++ [r]) ++ _ = _; rw [List.append_assoc]; exact HD5.out, by rw [List.length_append]; have := HDL.out; simp at this ⊢; omega, HB6⟩
        case measure => simp [intOf]; omega
      · rw [hk] at HD4 ⊢
        clear hk
        have HD5 : Hid (done ++ (r :: putW xs c (rows.drop (i + 1))) = putW xs false rows) := by have := HD4.out; show _ = _; simpa using this
        clear HD4
        cases c with
        | false =>
          obtain ⟨va, vc, hvo⟩ := HO5.out.form
          subst hvo
          have HR5 := Lib.hid (HR.out.below HB5.out)
          have HL5 := Lib.hid HB5.out.size
          have HDL := Lib.hid hdl
          clear hdl
          go_wp2_with (refine wpList_append_rowV rfl _ _ 26 rfl j0 Try.underlying26 hj hy0 hy1 hy2 _ rfl HO5.out _ r HR5.out _ rfl rfl (by have := HDL.out; omega) HL5.out ?_; intro v6 w6 ho6 hg6; have HO6 := Lib.hid ho6; have HB6 := Lib.hid (HO5.out.frame HB5.out (Nat.le_refl _) hg6); clear ho6 hg6)
          go_roundw
          case rel => exact ⟨i + 1, _, _, _, by omega, rfl, rfl, by go_num, HO6, by show (_ ++ [r]) ++ _ = _; rw [List.append_assoc]; exact HD5.out, by rw [List.length_append]; have := HDL.out; simp at this ⊢; omega, HB6⟩
          case measure => simp [intOf]; omega
        | true =>
          obtain ⟨va, vc, hvo⟩ := HO5.out.form
          subst hvo
          have HR5 := Lib.hid (HR.out.below HB5.out)
          have HL5 := Lib.hid HB5.out.size
          have HDL := Lib.hid hdl
          clear hdl
          go_wp2_with (refine wpList_append_rowV rfl _ _ 26 rfl j0 Try.underlying26 hj hy0 hy1 hy2 _ rfl HO5.out _ r HR5.out _ rfl rfl (by have := HDL.out; omega) HL5.out ?_; intro v6 w6 ho6 hg6; have HO6 := Lib.hid ho6; have HB6 := Lib.hid (HO5.out.frame HB5.out (Nat.le_refl _) hg6); clear ho6 hg6)
          go_roundw
          case rel => exact ⟨i + 1, _, _, _, by omega, rfl, rfl, by go_num, HO6, by show (_ ++ [r]) ++ _ = _; rw [List.append_assoc]; exact HD5.out, by rw [List.length_append]; have := HDL.out; simp at this ⊢; omega, HB6⟩
          case measure => simp [intOf]; omega
    · have hE : rows.drop i = [] := List.drop_of_length_le (by omega)
      have hD := HD.out
      rw [hE] at hD
      have HDL := Lib.hid hdl
      cases c with
      | true =>
        have HE : Hid (done = putW xs false rows) := by have := hD; show _ = _; simpa [putW] using this
        clear hE hD HD
        go_wp2
        go_ret
        exact ⟨_, rfl, by have h6 := HOr.out; rw [HE.out] at h6; exact h6, HBr.out⟩
      | false =>
        have HE : Hid (done ++ [xs] = putW xs false rows) := by have := hD; show _ = _; simpa [putW] using this
        clear hE hD HD
        obtain ⟨va, vc, hvo⟩ := HOr.out.form
        subst hvo
        go_wp2_with (first | (refine append_lies (enc := (Value.int .i64)) (e := 3) _ rfl (.tmp 46) (.tmp 47) 22 rfl (wr).heap.size i0 (.int .i64 0) 8 Try.underlying22 hi hz0 hz1 hz2 rfl (.slice (some ⟨(wr).heap.size, 0, none⟩) 0 0) [] rfl (has_lit0 rfl (Nat.le_refl _)) (.slice a xs.length ca) xs rfl (lies_alloc (HX.out.below HBr.out) _) (fun _ => rfl) (by simp; omega) (by simp; omega) (by simp) ?_; intro vn wn hn hgn; rw [List.nil_append] at hn; obtain ⟨an, cn, rfl, _⟩ := hn.form; have bn : Below (wr).heap.size wr wn := grown_below2 (.inl (grown_alloc hgn)) (Nat.le_refl _); have HOn := Lib.hid (HOr.out.below bn); have HBn := Lib.hid (HBr.out.trans (bn.mono HBr.out.size)); have HVn := Lib.hid (hn.mono (Nat.le_trans hb HBr.out.size)); have HLn := Lib.hid HBn.out.size; clear hn hgn) | (refine wpList_append_rowV rfl (.tmp 45) (.tmp 49) 26 rfl j0 Try.underlying26 hj hy0 hy1 hy2 _ rfl HOn.out _ xs HVn.out _ rfl rfl (by have := HDL.out; omega) HLn.out ?_; intro vm wm hom hgm; have HOm := Lib.hid hom; have HBm := Lib.hid (HOn.out.frame HBn.out (Nat.le_refl _) hgm); clear hom hgm))
        go_ret
        exact ⟨_, rfl, by have h6 := HOm.out; rw [HE.out] at h6; exact h6, HBm.out⟩
end Fac
end Go.Proofs.Ytcnejfihpaicdaa
