/- Several texts of this proof, one behind the other: each says ahead of it what it shows and under which conditions. -/
import Derived.Test.YtidfgfgokcflfaaGreatPW4
import Derived.Shelf.SlGeneric
import Derived.Shelf.SlSortCmp.Whole1
import Derived.Ground.SlsfProg
import Derived.Test.YtidfgfgokcflfaaGreatProg
import Derived.Laws.OwnMore
import Derived.Lib.SliceRun
import Derived.Test.YtidfgfgokcflfaaGreatShelf
import Derived.BigQuiet
import Derived.Deep.QuietTactic
import Derived.WalkKit
import Derived.Lib.Hide
import Derived.Test.YtidfgfgokcflfaaGreatSeqVal
import Derived.Test.YtidfgfgokcflfaaGreatPW1
import Derived.Test.YtidfgfgokcflfaaGreatSeqs
/- Contract of the model's insertion of a word into a list in order. No conditions beyond those that each states. -/
namespace Go.Proofs.YtidfgfgokcflfaaGreat
open Go.ChangeShapes Go.WideShapes Go.ChangeAt Go.RowKit
open Go.PlainAid Plain
set_option linter.unusedVariables false
namespace Fac
open Seqs
theorem putW_next (xs r : List Int) (c : Bool) (l : List (List Int)) : putW xs c (r :: l) = (if cmpW xs r < 0 ∧ c = false then [xs] else []) ++ r :: putW xs (c || decide (cmpW xs r ≤ 0)) l := rfl
theorem putW_len (xs : List Int) : ∀ (c : Bool) (l : List (List Int)), (putW xs c l).length ≤ l.length + 1
  | c, [] => by cases c <;> simp [putW]
  | c, x :: l => by
    have h1 := putW_len xs (c || decide (cmpW xs x ≤ 0)) l
    rw [putW_next]
    by_cases h : cmpW xs x < 0 ∧ c = false
    · have h2 : (c || decide (cmpW xs x ≤ 0)) = true := by simp; exact .inr (by omega)
      rw [if_pos h, h2, putW_true]
      simp
    · rw [if_neg h]
      simp at h1 ⊢
      exact h1
theorem put_drop {xs r : List Int} {rows : List (List Int)} {i : Nat} {c : Bool} (hr : rows[i]? = some r) : putW xs c (rows.drop i) = (if cmpW xs r < 0 ∧ c = false then [xs] else []) ++ r :: putW xs (c || decide (cmpW xs r ≤ 0)) (rows.drop (i + 1)) := by
  obtain ⟨h1, rfl⟩ := List.getElem?_eq_some_iff.1 hr
  rw [List.drop_eq_getElem_cons h1, putW_next]
set_option maxRecDepth 100000 in
set_option maxHeartbeats 4000000 in
theorem put (l v : Value) (rows : List (List Int)) (xs : List Int) (w : World) (lo base : Nat) (hl : RowsV w lo base l rows) (hx : Lies (Value.int .i64) w v xs) (hb : base ≤ w.heap.size) (hn : rows.length ≤ 10000) (hs : xs.length ≤ 4194304) :
    Calls Tryz.prog 32 #[l, v] w fun e w' => ∃ v', e = .returned v' ∧ RowsV w' w.heap.size base v' (putW xs false rows) ∧ Below w.heap.size w w' := by
  obtain ⟨i0, hi, hz0, hz1, hz2⟩ := info_parts Ints.infoI
  obtain ⟨j0, hj, hy0, hy1, hy2⟩ := info_parts infoR'
  obtain ⟨la, lc, rfl⟩ := hl.form
  obtain ⟨a, ca, rfl⟩ : ∃ a ca, v = .slice a xs.length ca := by obtain ⟨_, a, ca, h, _⟩ := hx; exact ⟨a, ca, h⟩
  have HL := Lib.hid hl
  have HX := Lib.hid hx
  have HB : Hid (Below w.heap.size w (w.alloc (Obj.cells #[] 24))) := (Below.refl _ _).alloc (Nat.le_refl _) _
  have HO : Hid (RowsV (w.alloc (Obj.cells #[] 24)) w.heap.size base (.slice (some ⟨w.heap.size, 0, none⟩) 0 0) []) := RowsV.nil (has_lit0 (enc := id) rfl (Nat.le_refl _))
  clear hl hx
  go_enter Tryz.func32, Tryz.ntmps32
  go_wp2
  go_loopw [5, 6, 7] (fun o' c' i' wr => ∃ (i : Nat) (c : Bool) (vo : Value) (done : List (List Int)), i ≤ rows.length ∧ vo = o' ∧ c' = .bool c ∧ i' = .int .i64 i ∧ Hid (RowsV wr w.heap.size base vo done) ∧ Hid (done ++ putW xs c (rows.drop i) = putW xs false rows) ∧ done.length ≤ 2 * i ∧ Hid (Below w.heap.size w wr)) (fun _ _ i' _ => rows.length - (intOf i').toNat)
  case atStart => exact ⟨0, false, _, [], Nat.zero_le _, rfl, rfl, rfl, HO, rfl, by simp, HB⟩
  case round =>
    obtain ⟨i, c, vo, done, hi', rfl, rfl, rfl, HOr, HD, hdl, HBr⟩ := hrel
    by_cases hlt : i < rows.length
    · obtain ⟨r, hr⟩ : ∃ r, rows[i]? = some r := ⟨_, List.getElem?_eq_getElem hlt⟩
      obtain ⟨p, o, ua, uc, hla, hcell, hhas⟩ := HL.out.row hr
      subst hla
      have HC0 := Lib.hid hcell
      have hcell := (HBr.out.cell (p := ⟨p, o + i, none⟩) (World.block_lt_of_cell? _ _ hcell)).trans hcell
      have HR := Lib.hid hhas
      have HP := Lib.hid (put_drop (xs := xs) (c := c) hr)
      have hD5 := HD.out
      rw [HP.out] at hD5
      have HD4 := Lib.hid hD5
      have HCC := Lib.hid (spec_cmp _ _ xs r wr (HX.out.below HBr.out) (HR.out.lies.below HBr.out))
      clear hr hhas hD5 HP HD
      go_wp2_with fail
      refine HCC.out.mono ?_
      rintro e W5 ⟨rfl, b5⟩
      have HB5 := Lib.hid (HBr.out.trans (b5.mono HBr.out.size))
      have HO5 := Lib.hid (HOr.out.below b5)
      have hcell := (b5.cell (p := ⟨p, o + i, none⟩) (World.block_lt_of_cell? _ _ hcell)).trans hcell
      clear HCC b5 HBr HOr
      rcases cmpW_three xs r with hk | hk | hk
      · rw [hk] at HD4 ⊢
        clear hk
        cases c with
        | false =>
          have HD5 : Hid ((done ++ [xs]) ++ (r :: putW xs true (rows.drop (i + 1))) = putW xs false rows) := by have := HD4.out; show _ = _; simpa using this
          clear HD4
          have HDL := Lib.hid hdl
          obtain ⟨va, vc, hvo⟩ := HO5.out.form
          subst hvo
          go_upto_region 12 with (first | (refine append_lies (enc := (Value.int .i64)) (e := 3) _ rfl (.tmp 31) (.tmp 32) 24 rfl (W5).heap.size i0 (.int .i64 0) 8 Tryz.underlying24 hi hz0 hz1 hz2 rfl (.slice (some ⟨(W5).heap.size, 0, none⟩) 0 0) [] rfl (has_lit0 rfl (Nat.le_refl _)) (.slice a xs.length ca) xs rfl (lies_alloc (HX.out.below HB5.out) _) (fun _ => rfl) (by simp; omega) (by simp; omega) (by simp) ?_; intro vn wn hn hgn; rw [List.nil_append] at hn; obtain ⟨an, cn, rfl, _⟩ := hn.form; have bn : Below (W5).heap.size W5 wn := grown_below2 (.inl (grown_alloc hgn)) (Nat.le_refl _); have HOn := Lib.hid (HO5.out.below bn); have HBn := Lib.hid (HB5.out.trans (bn.mono HB5.out.size)); have HVn := Lib.hid (hn.mono (Nat.le_trans hb HB5.out.size)); have HLn := Lib.hid HBn.out.size; clear hn hgn) | (refine wpList_append_rowV rfl (.tmp 30) (.tmp 34) 51 rfl j0 Tryz.underlying51 hj hy0 hy1 hy2 _ rfl HOn.out _ xs HVn.out _ rfl rfl (by have := HDL.out; omega) HLn.out ?_; intro vm wm hom hgm; have HOm := Lib.hid hom; have HBm := Lib.hid (HOn.out.frame HBn.out (Nat.le_refl _) hgm); clear hom hgm))
          have HB5 := HBm
          have HO5 := HOm
          have hdl : (done ++ [xs]).length ≤ 2 * i + 2 := by rw [List.length_append]; have := HDL.out; simp; omega
          have hcell := (HB5.out.cell (p := ⟨p, o + i, none⟩) (World.block_lt_of_cell? _ _ HC0.out)).trans HC0.out
          obtain ⟨va, vc, hvo⟩ := HO5.out.form
          subst hvo
          have HR5 := Lib.hid (HR.out.below HB5.out)
          have HL5 := Lib.hid HB5.out.size
          have HDL := Lib.hid hdl
          clear hdl
          go_wp2_with (refine wpList_append_rowV rfl _ _ 51 rfl j0 Tryz.underlying51 hj hy0 hy1 hy2 _ rfl HO5.out _ r HR5.out _ rfl rfl (by have := HDL.out; omega) HL5.out ?_; intro v6 w6 ho6 hg6; have HO6 := Lib.hid ho6; have HB6 := Lib.hid (HO5.out.frame HB5.out (Nat.le_refl _) hg6); clear ho6 hg6)
          go_roundw
          case rel => exact ⟨i + 1, _, _, _, by omega, rfl, rfl, by go_num, HO6, by show (_ ++ [r]) ++ _ = _; rw [List.append_assoc]; exact HD5.out, by rw [List.length_append]; have := HDL.out; simp at this ⊢; omega, HB6⟩
          case measure => simp [intOf]; omega
        | true =>
          have HD5 : Hid (done ++ (r :: putW xs true (rows.drop (i + 1))) = putW xs false rows) := by have := HD4.out; show _ = _; simpa using this
          clear HD4
          obtain ⟨va, vc, hvo⟩ := HO5.out.form
          subst hvo
          have HR5 := Lib.hid (HR.out.below HB5.out)
          have HL5 := Lib.hid HB5.out.size
          have HDL := Lib.hid hdl
          clear hdl
          go_wp2_with (refine wpList_append_rowV rfl _ _ 51 rfl j0 Tryz.underlying51 hj hy0 hy1 hy2 _ rfl HO5.out _ r HR5.out _ rfl rfl (by have := HDL.out; omega) HL5.out ?_; intro v6 w6 ho6 hg6; have HO6 := Lib.hid ho6; have HB6 := Lib.hid (HO5.out.frame HB5.out (Nat.le_refl _) hg6); clear ho6 hg6)
          go_roundw
          case rel => exact ⟨i + 1, _, _, _, by omega, rfl, rfl, by go_num, HO6, by show (_ ++ [r]) ++ _ = _; rw [List.append_assoc]; exact HD5.out, by rw [List.length_append]; have := HDL.out; simp at this ⊢; omega, HB6⟩
          case measure => simp [intOf]; omega
      · rw [hk] at HD4 ⊢
        clear hk
        have HD5 : Hid (done ++ (r :: putW xs true (rows.drop (i + 1))) = putW xs false rows) := by have := HD4.out; show _ = _; simpa using this
        clear HD4
        obtain ⟨va, vc, hvo⟩ := HO5.out.form
        subst hvo
        have HR5 := Lib.hid (HR.out.below HB5.out)
        have HL5 := Lib.hid HB5.out.size
        have HDL := Lib.hid hdl
        clear hdl
        go_wp2_with (refine wpList_append_rowV rfl _ _ 51 rfl j0 Tryz.underlying51 hj hy0 hy1 hy2 _ rfl HO5.out _ r HR5.out _ rfl rfl (by have := HDL.out; omega) HL5.out ?_; intro v6 w6 ho6 hg6; have HO6 := Lib.hid ho6; have HB6 := Lib.hid (HO5.out.frame HB5.out (Nat.le_refl _) hg6); clear ho6 hg6)
        go_roundw
        case rel => exact ⟨i + 1, _, _, _, by omega, rfl, rfl, by go_num, HO6, by show (_ ++ [r]) ++ _ = _; rw [List.append_assoc]; exact HD5.out, by rw [List.length_append]; have := HDL.out; simp at this ⊢; omega, HB6⟩
        case measure => simp [intOf]; omega
      · rw [hk] at HD4 ⊢
        clear hk
        have HD5 : Hid (done ++ (r :: putW xs c (rows.drop (i + 1))) = putW xs false rows) := by have := HD4.out; show _ = _; simpa using this
        clear HD4
        cases c with
        | false =>
          obtain ⟨va, vc, hvo⟩ := HO5.out.form
          subst hvo
          have HR5 := Lib.hid (HR.out.below HB5.out)
          have HL5 := Lib.hid HB5.out.size
          have HDL := Lib.hid hdl
          clear hdl
          go_wp2_with (refine wpList_append_rowV rfl _ _ 51 rfl j0 Tryz.underlying51 hj hy0 hy1 hy2 _ rfl HO5.out _ r HR5.out _ rfl rfl (by have := HDL.out; omega) HL5.out ?_; intro v6 w6 ho6 hg6; have HO6 := Lib.hid ho6; have HB6 := Lib.hid (HO5.out.frame HB5.out (Nat.le_refl _) hg6); clear ho6 hg6)
          go_roundw
          case rel => exact ⟨i + 1, _, _, _, by omega, rfl, rfl, by go_num, HO6, by show (_ ++ [r]) ++ _ = _; rw [List.append_assoc]; exact HD5.out, by rw [List.length_append]; have := HDL.out; simp at this ⊢; omega, HB6⟩
          case measure => simp [intOf]; omega
        | true =>
          obtain ⟨va, vc, hvo⟩ := HO5.out.form
          subst hvo
          have HR5 := Lib.hid (HR.out.below HB5.out)
          have HL5 := Lib.hid HB5.out.size
          have HDL := Lib.hid hdl
          clear hdl
          go_wp2_with (refine wpList_append_rowV rfl _ _ 51 rfl j0 Tryz.underlying51 hj hy0 hy1 hy2 _ rfl HO5.out _ r HR5.out _ rfl rfl (by have := HDL.out; omega) HL5.out ?_; intro v6 w6 ho6 hg6; have HO6 := Lib.hid ho6; have HB6 := Lib.hid (HO5.out.frame HB5.out (Nat.le_refl _) hg6); clear ho6 hg6)
          go_roundw
          case rel => exact ⟨i + 1, _, _, _, by omega, rfl, rfl, by go_num, HO6, by show (_ ++ [r]) ++ _ = _; rw [List.append_assoc]; exact HD5.out, by rw [List.length_append]; have := HDL.out; simp at this ⊢; omega, HB6⟩
          case measure => simp [intOf]; omega
    · have hE : rows.drop i = [] := List.drop_of_length_le (by omega)
      have hD := HD.out
      rw [hE] at hD
      have HDL := Lib.hid hdl
      cases c with
      | true =>
        have HE : Hid (done = putW xs false rows) := by have := hD; show _ = _; simpa [putW] using this
        clear hE hD HD
        go_wp2
        go_ret
        exact ⟨_, rfl, by have h6 := HOr.out; rw [HE.out] at h6; exact h6, HBr.out⟩
      | false =>
        have HE : Hid (done ++ [xs] = putW xs false rows) := by have := hD; show _ = _; simpa [putW] using this
        clear hE hD HD
        obtain ⟨va, vc, hvo⟩ := HOr.out.form
        subst hvo
        go_wp2_with (first | (refine append_lies (enc := (Value.int .i64)) (e := 3) _ rfl (.tmp 46) (.tmp 47) 24 rfl (wr).heap.size i0 (.int .i64 0) 8 Tryz.underlying24 hi hz0 hz1 hz2 rfl (.slice (some ⟨(wr).heap.size, 0, none⟩) 0 0) [] rfl (has_lit0 rfl (Nat.le_refl _)) (.slice a xs.length ca) xs rfl (lies_alloc (HX.out.below HBr.out) _) (fun _ => rfl) (by simp; omega) (by simp; omega) (by simp) ?_; intro vn wn hn hgn; rw [List.nil_append] at hn; obtain ⟨an, cn, rfl, _⟩ := hn.form; have bn : Below (wr).heap.size wr wn := grown_below2 (.inl (grown_alloc hgn)) (Nat.le_refl _); have HOn := Lib.hid (HOr.out.below bn); have HBn := Lib.hid (HBr.out.trans (bn.mono HBr.out.size)); have HVn := Lib.hid (hn.mono (Nat.le_trans hb HBr.out.size)); have HLn := Lib.hid HBn.out.size; clear hn hgn) | (refine wpList_append_rowV rfl (.tmp 45) (.tmp 49) 51 rfl j0 Tryz.underlying51 hj hy0 hy1 hy2 _ rfl HOn.out _ xs HVn.out _ rfl rfl (by have := HDL.out; omega) HLn.out ?_; intro vm wm hom hgm; have HOm := Lib.hid hom; have HBm := Lib.hid (HOn.out.frame HBn.out (Nat.le_refl _) hgm); clear hom hgm))
        go_ret
        exact ⟨_, rfl, by have h6 := HOm.out; rw [HE.out] at h6; exact h6, HBm.out⟩
end Fac
end Go.Proofs.YtidfgfgokcflfaaGreat
/- The contract of slices.SortFunc at this translation, one application of a theorem of the library. Conditions: those that it states. -/
namespace Go.Proofs
open Go.Shelf
def Tryz.sortL_ren : Go.Shelf.Ren := ⟨fun | 6 => 49 | 15 => 64 | 14 => 63 | 28 => 84 | 29 => 85 | 20 => 76 | 21 => 77 | 22 => 78 | 23 => 79 | 24 => 80 | 25 => 81 | 26 => 82 | 27 => 83 | 46 => 95 | 47 => 96 | 48 => 97 | 49 => 98 | 50 => 99 | 57 => 103 | n => n, fun | 22 => 51 | 24 => 24 | 25 => 71 | 3 => 3 | 39 => 87 | 0 => 0 | 53 => 109 | 55 => 111 | 4 => 4 | 46 => 102 | 45 => 101 | 50 => 106 | 5 => 5 | 9 => 9 | 66 => 121 | 70 => 125 | 76 => 127 | 77 => 33 | n => n, fun | n => n⟩
theorem Tryz.sortL : Go.Proofs.SlLaysF.n6 Tryz.prog Tryz.sortL_ren := {
  mixed := by kernel_rfl
  f6 := ⟨Tryz.f49.name, by decide, Tryz.func49.trans (congrArg some (by kernel_rfl))⟩
  f14 := ⟨Tryz.f63.name, by decide, Tryz.func63.trans (congrArg some (by kernel_rfl))⟩
  f15 := Tryz.func64.trans (congrArg some (by kernel_rfl))
  f20 := ⟨Tryz.f76.name, by decide, Tryz.func76.trans (congrArg some (by kernel_rfl))⟩
  f21 := ⟨Tryz.f77.name, by decide, Tryz.func77.trans (congrArg some (by kernel_rfl))⟩
  f22 := ⟨Tryz.f78.name, by decide, Tryz.func78.trans (congrArg some (by kernel_rfl))⟩
  f23 := ⟨Tryz.f79.name, by decide, Tryz.func79.trans (congrArg some (by kernel_rfl))⟩
  f24 := ⟨Tryz.f80.name, by decide, Tryz.func80.trans (congrArg some (by kernel_rfl))⟩
  f25 := ⟨Tryz.f81.name, by decide, Tryz.func81.trans (congrArg some (by kernel_rfl))⟩
  f26 := ⟨Tryz.f82.name, by decide, Tryz.func82.trans (congrArg some (by kernel_rfl))⟩
  f27 := ⟨Tryz.f83.name, by decide, Tryz.func83.trans (congrArg some (by kernel_rfl))⟩
  f28 := Tryz.func84.trans (congrArg some (by kernel_rfl))
  f29 := Tryz.func85.trans (congrArg some (by kernel_rfl))
  f46 := ⟨Tryz.f95.name, by decide, Tryz.func95.trans (congrArg some (by kernel_rfl))⟩
  f47 := Tryz.func96.trans (congrArg some (by kernel_rfl))
  f48 := Tryz.func97.trans (congrArg some (by kernel_rfl))
  f49 := ⟨Tryz.f98.name, by decide, Tryz.func98.trans (congrArg some (by kernel_rfl))⟩
  f50 := ⟨Tryz.f99.name, by decide, Tryz.func99.trans (congrArg some (by kernel_rfl))⟩
  f57 := ⟨Tryz.f103.name, by decide, Tryz.func103.trans (congrArg some (by kernel_rfl))⟩
  t0 := Tryz.underlying0
  a0 := Tryz.isAgg0
  z0 := Tryz.sizeOf0
  v0 := Tryz.zeroValue0
  t3 := Tryz.underlying3
  a3 := Tryz.isAgg3
  z3 := Tryz.sizeOf3
  v3 := Tryz.zeroValue3
  t4 := Tryz.underlying4
  a4 := Tryz.isAgg4
  z4 := Tryz.sizeOf4
  v4 := Tryz.zeroValue4
  t5 := Tryz.underlying5
  a5 := Tryz.isAgg5
  z5 := Tryz.sizeOf5
  v5 := Tryz.zeroValue5
  t9 := Tryz.underlying9
  a9 := Tryz.isAgg9
  z9 := Tryz.sizeOf9
  v9 := Tryz.zeroValue9
  t22 := Tryz.underlying51
  a22 := Tryz.isAgg51
  z22 := Tryz.sizeOf51
  v22 := Tryz.zeroValue51
  a24 := Tryz.isAgg24
  z24 := Tryz.sizeOf24
  t25 := Tryz.underlying71
  a25 := Tryz.isAgg71
  z25 := Tryz.sizeOf71
  v25 := Tryz.zeroValue71
  t39 := Tryz.underlying87
  a39 := Tryz.isAgg87
  z39 := Tryz.sizeOf87
  v39 := Tryz.zeroValue87
  t45 := Tryz.underlying101
  a45 := Tryz.isAgg101
  z45 := Tryz.sizeOf101
  v45 := Tryz.zeroValue101
  t46 := Tryz.underlying102
  a46 := Tryz.isAgg102
  z46 := Tryz.sizeOf102
  v46 := Tryz.zeroValue102
  t50 := Tryz.underlying106
  a50 := Tryz.isAgg106
  z50 := Tryz.sizeOf106
  v50 := Tryz.zeroValue106
  t53 := Tryz.underlying109
  a53 := Tryz.isAgg109
  z53 := Tryz.sizeOf109
  v53 := Tryz.zeroValue109
  t55 := Tryz.underlying111
  a55 := Tryz.isAgg111
  z55 := Tryz.sizeOf111
  v55 := Tryz.zeroValue111
  t66 := Tryz.underlying121
  a66 := Tryz.isAgg121
  z66 := Tryz.sizeOf121
  v66 := Tryz.zeroValue121
  t70 := Tryz.underlying125
  a70 := Tryz.isAgg125
  z70 := Tryz.sizeOf125
  v70 := Tryz.zeroValue125
  t76 := Tryz.underlying127
  a76 := Tryz.isAgg127
  z76 := Tryz.sizeOf127
  v76 := Tryz.zeroValue127
  t77 := Tryz.underlying33
  a77 := Tryz.isAgg33
  z77 := Tryz.sizeOf33
  v77 := Tryz.zeroValue33 }
end Go.Proofs
/- A slice of parts of words of the call's own: what sorting it, cutting it off and clearing the rest leave of it. No conditions beyond those that each states. -/
namespace Go.Proofs.YtidfgfgokcflfaaGreat
open Go.ChangeShapes Go.WideShapes Go.ChangeAt Go.RowKit
open Go.PlainAid Plain
set_option linter.unusedVariables false
namespace Fac
open Seqs
/-- A slice that reads as a word in the world w0. -/
def Part (w0 : World) : Type := { p : Value × List Int // Lies (Value.int .i64) w0 p.1 p.2 }
def Part.v {w0 : World} (x : Part w0) : Value := x.1.1
def Part.k {w0 : World} (x : Part w0) : List Int := x.1.2
theorem Part.lies {w0 : World} (x : Part w0) : Lies (Value.int .i64) w0 x.v x.k := x.2
def Part.mk {w0 : World} {v : Value} {xs : List Int} (h : Lies (Value.int .i64) w0 v xs) : Part w0 := ⟨(v, xs), h⟩
theorem Part.one {w0 : World} (x : Part w0) : x.v.oneCell' = true := by
  obtain ⟨_, a, c, h, _⟩ := x.lies
  rw [h]
  rfl
theorem lies_none (w : World) : Lies (Value.int .i64) w (.slice none 0 0) [] := ⟨by simp, none, 0, rfl, fun _ => rfl, fun i x h => by simp at h⟩
instance (w0 : World) : Inhabited (Part w0) := ⟨⟨(.slice none 0 0, []), lies_none w0⟩⟩
section
variable {α : Type} {enc : α → Value} {e : TypeId} {w : World} {base : Nat} {xs : List α}
/-- What is behind the first kk elements may turn. -/
theorem own_tail {n cap g kk : Nat} : ∀ (vs : List Value) (o : Nat) (w : World) (X : List Value), kk ≤ o → w.ownsRow base e 1 (.slice (some ⟨g, 0, none⟩) n cap) n X → o + vs.length ≤ n → ∃ X', X'.take kk = X.take kk ∧ (w.setCells g o vs).ownsRow base e 1 (.slice (some ⟨g, 0, none⟩) n cap) n X' ∧ w.grownBy (w.setCells g o vs) (some g)
  | [], o, w, X, _, h, _ => ⟨X, rfl, h, World.grownBy.refl _ _⟩
  | u :: vs, o, w, X, hk, h, hl => by
    have hl' : o + 1 + vs.length ≤ n := by simp at hl; omega
    have h1 := h.stored o u
    obtain ⟨X', h2, h3, h4⟩ := own_tail (kk := kk) vs (o + 1) _ _ (by omega) h1.1 hl'
    refine ⟨X', ?_, h3, grown_trans' h1.2 h4⟩
    rw [h2, List.take_set, List.set_eq_of_length_le (by rw [List.length_take]; omega)]
/-- The slice cut off behind its first kk elements. -/
theorem own_cut {n cap g kk : Nat} {w : World} {X : List Value} (h : w.ownsRow base e 1 (.slice (some ⟨g, 0, none⟩) n cap) n X) (hk : kk ≤ n) : w.ownsRow base e 1 (.slice (some ⟨g, 0, none⟩) kk cap) kk (X.take kk) := by
  obtain ⟨hl, h⟩ := h
  rcases h with ⟨hv, _⟩ | ⟨g', cap', cur, hv, h1, h2, h3, h4, h5, h6⟩
  · cases hv
  · injection hv with e1 e2 e3
    injection e1 with e1
    injection e1 with e1
    subst e1; subst e3
    rw [Nat.mul_one] at hl h5 h6
    refine ⟨by rw [List.length_take]; omega, .inr ⟨g, cap, cur, rfl, h1, h2, by omega, h4, by omega, ?_⟩⟩
    rw [Nat.mul_one, ← h6, List.take_take, Nat.min_eq_left hk]
theorem has_cut {n cap g kk : Nat} {ys : List α} (h : Has enc e w base (.slice (some ⟨g, 0, none⟩) n cap) xs) (hn : n = xs.length) (hk : kk ≤ n) (hy : xs.take kk = ys) (vs : List Value) (hv : vs = [] ∨ kk + vs.length ≤ n) :
    Has enc e (w.setCells g kk vs) base (.slice (some ⟨g, 0, none⟩) kk cap) ys ∧ w.grownBy (w.setCells g kk vs) (some g) := by
  subst hn
  have h' : w.ownsRow base e 1 (.slice (some ⟨g, 0, none⟩) xs.length cap) xs.length (xs.map enc) := h
  obtain ⟨X', h1, h2, h3⟩ : ∃ X', X'.take kk = (xs.map enc).take kk ∧ (w.setCells g kk vs).ownsRow base e 1 (.slice (some ⟨g, 0, none⟩) xs.length cap) xs.length X' ∧ w.grownBy (w.setCells g kk vs) (some g) := by
    rcases hv with rfl | hv
    · exact ⟨_, rfl, h', World.grownBy.refl _ _⟩
    · exact own_tail vs kk w _ (Nat.le_refl _) h' hv
  refine ⟨?_, h3⟩
  have h4 := own_cut h2 hk
  rw [h1, ← List.map_take, hy] at h4
  show World.ownsRow _ _ _ _ _ _ _
  have : ys.length = kk := by rw [← hy, List.length_take]; omega
  rw [this]
  exact h4
/-- One element stored. -/
theorem has_store {n cap g : Nat} (h : Has enc e w base (.slice (some ⟨g, 0, none⟩) n cap) xs) (hn : n = xs.length) (j : Nat) (x : α) : Has enc e (w.setCell ⟨g, j, none⟩ (enc x)) base (.slice (some ⟨g, 0, none⟩) n cap) (xs.set j x) ∧ w.grownBy (w.setCell ⟨g, j, none⟩ (enc x)) (some g) := by
  subst hn
  have h' : w.ownsRow base e 1 (.slice (some ⟨g, 0, none⟩) xs.length cap) xs.length (xs.map enc) := h
  have h1 := h'.stored j (enc x)
  refine ⟨?_, h1.2⟩
  show World.ownsRow _ _ _ _ _ _ _
  rw [List.length_set, List.map_set]
  exact h1.1
end
open Go.Sort in
theorem holds_block {α : Type} [Inhabited α] {enc : α → Value} {w : World} {g : Nat} {cur : Array Value} {e : TypeId} {ss : List α} (hb : w.heap[g]? = some (.cells cur e (0, 0))) (ht : cur.toList.take ss.length = ss.map enc) : Holds enc w g 0 ss.toArray := by
  intro j hj
  have hj' : j < ss.length := by simpa using hj
  refine ⟨?_, by simp [World.frozen?, hb]⟩
  have h1 : (cur.toList.take ss.length)[j]? = (ss.map enc)[j]? := by rw [ht]
  rw [List.getElem?_take_of_lt hj'] at h1
  simp only [World.cell?, hb, Nat.zero_add]
  simp only [Option.isSome_none, Bool.false_eq_true, if_false]
  rw [← Array.getElem?_toList, h1]
  simp [hj']
open Go.Sort in
theorem heap_sorted {α : Type} [Inhabited α] {enc : α → Value} {w : World} {g n : Nat} {os : Array Obj} {cur : Array Value} {e : TypeId} {fr : Nat × Nat} (d : Array α) (hb : w.heap[g]? = some (.cells cur e fr)) :
    (grow (putRow enc (Sort.ahead w n) g 0 d) os).heap[g]? = some (.cells (putCells enc 0 d cur) e fr) := by
  have hg : g < w.heap.size := (Array.getElem?_eq_some_iff.1 hb).1
  rw [heap_grow_old _ _ (by simpa using hg)]
  simp [putRow, mapBlock, Sort.ahead, Array.getElem?_modify, hb, onCells]
open Go.Sort in
theorem grown_sorted {α : Type} [Inhabited α] {enc : α → Value} {w : World} {g n : Nat} {os : Array Obj} (d : Array α) : w.grownBy (grow (putRow enc (Sort.ahead w n) g 0 d) os) (some g) := by
  refine ⟨rfl, rfl, rfl, by simp, fun k hk hne => ?_⟩
  rw [heap_grow_old _ _ (by simpa using hk)]
  have : g ≠ k := fun e => hne (by rw [e])
  simp [putRow, mapBlock, Sort.ahead, Array.getElem?_modify, this]
open Go.Sort in
theorem take_put {α : Type} [Inhabited α] {enc : α → Value} (cur : Array Value) (ts : List α) (h : ts.length ≤ cur.size) : (putCells enc 0 ts.toArray cur).toList.take ts.length = ts.map enc := by
  apply List.ext_getElem?
  intro j
  by_cases hj : j < ts.length
  · rw [List.getElem?_take_of_lt hj, Array.getElem?_toList]
    simp [putCells, hj, show j < cur.size by omega]
  · rw [List.getElem?_take_eq_none (by omega), List.getElem?_eq_none (by simp; omega)]
open Go.Sort in
theorem own_sorted {α : Type} [Inhabited α] {enc : α → Value} {w : World} {base g cap n : Nat} {e : TypeId} {os : Array Obj} {cur : Array Value} {ss ts : List α} (hl : ts.length = ss.length) (hbase : base ≤ g) (hb : w.heap[g]? = some (.cells cur e (0, 0)))
    (h1 : ss.length ≤ cap) (h2 : cap ≤ maxLen) (h3 : cur.size = cap * 1) :
    (grow (putRow enc (Sort.ahead w n) g 0 ts.toArray) os).ownsRow base e 1 (.slice (some ⟨g, 0, none⟩) ss.length cap) ss.length (ts.map enc) :=
  ⟨by simp [hl], .inr ⟨g, cap, _, rfl, hbase, heap_sorted _ hb, h1, h2, by simp [putCells, h3], by rw [Nat.mul_one, ← hl]; exact take_put cur ts (by omega)⟩⟩
/-- The order that the comparison gives. -/
def cfP {w0 : World} (x y : Part w0) : Int := cmpW x.k y.k
theorem lt_yes {w0 : World} {x y : Part w0} : ltOf (cfP (w0 := w0)) x y = true ↔ cmpW x.k y.k < 0 := decide_eq_true_iff
theorem lt_no {w0 : World} {x y : Part w0} : ltOf (cfP (w0 := w0)) x y = false ↔ ¬ cmpW x.k y.k < 0 := decide_eq_false_iff_not
theorem cmpW_ntrans {u v t : List Int} (h1 : ¬ cmpW u v < 0) (h2 : ¬ cmpW v t < 0) : ¬ cmpW u t < 0 := fun h => by
  rcases cmpW_three u v with a | a | a
  · omega
  · have e := cmpW_zero _ _ a
    subst e
    exact h2 h
  · have a' : cmpW v u < 0 := by rw [cmpW_neg]; omega
    exact h2 (cmpW_trans _ _ _ a' h)
theorem swoP (w0 : World) : Sort.SWO (ltOf (cfP (w0 := w0))) where
  irrefl x := lt_no.2 (by rw [cmpW_self]; omega)
  trans x y z h1 h2 := lt_yes.2 (cmpW_trans _ _ _ (lt_yes.1 h1) (lt_yes.1 h2))
  ntrans x y z h1 h2 := lt_no.2 (cmpW_ntrans (lt_no.1 h1) (lt_no.1 h2))
/-- slices.SortFunc(words, CompareWords). -/
theorem sorted (v : Value) (w0 w : World) (L : List (Part w0)) (hb : Below w0.heap.size w0 w) (hv : Has Part.v 24 w w0.heap.size v L) (hn : L.length ≤ 100000) (h0 : 0 < L.length) :
    Calls Tryz.prog 49 #[v, .func (.func 50) #[] #[]] w fun e w' => e = .returned (.tuple #[]) ∧ ∃ L' : List (Part w0), L'.Perm L ∧ (L'.Pairwise fun x y => cmpW x.k y.k ≤ 0) ∧ Has Part.v 24 w' w0.heap.size v L' ∧ Below w0.heap.size w0 w' := by
  have eg : ∀ args w, (callFunc 50 args).run Tryz.prog w = .ok (.enter 50 args) w := enters_of Tryz.func50 (by kernel_rfl) rfl
  rcases hv.2 with ⟨_, hz⟩ | ⟨g, cap, cur, rfl, hg, hcur, h1, h2, h3, h4⟩
  · omega
  rw [Nat.mul_one] at h4
  have hH := holds_block (enc := Part.v) hcur h4
  have hglt : g < w.heap.size := (Array.getElem?_eq_some_iff.1 hcur).1
  have hcmp : Go.Proofs.CmpReads Tryz.prog 50 #[] Part.v (cfP (w0 := w0)) g 0 L.toArray.size w := fun m os dk hs x y => by
    have hgr : w.grownBy (Go.Proofs.sortWorld Part.v w g 0 m dk os) (some g) := grown_sorted dk
    have hb' : Below w0.heap.size w0 (Go.Proofs.sortWorld Part.v w g 0 m dk os) := hb.grown hgr hb.size (fun k hk => by cases hk; exact hg)
    refine (impl_cmp x.v y.v x.k y.k _ (x.lies.below hb') (y.lies.below hb')).mono fun e w' h => ⟨h.1, 0, ?_⟩
    rw [← h.2]
    rfl
  have hS := Go.Proofs.Any.slices_SortFunc Tryz.sortL Part.v (fun x => x.one) cfP (swoP w0) 50 #[] g 0 cap L.toArray w eg hcmp.lays hH hglt (by simp; omega)
  have hsz : L.toArray.size = L.length := by simp
  rw [hsz] at hS
  refine Calls.mono (show Calls Tryz.prog 49 #[.slice (some ⟨g, 0, none⟩) L.length cap, .func (.func 50) #[] #[]] w _ from hS) fun e w' ⟨he, d', n, os, hp, hs, hw⟩ => ⟨he, d'.toList, ?_, ?_, ?_, ?_⟩
  · have := hp.2.2
    rw [show d'.extract 0 L.length = d' from by rw [← hsz, ← hp.1]; simp, show L.toArray.extract 0 L.length = L.toArray from by simp] at this
    exact this
  · refine List.pairwise_iff_getElem.2 fun i j hi hj hij => ?_
    have hd : d'.size = L.length := by rw [hp.1, hsz]
    have h5 := lt_no.1 (hs i j (Nat.zero_le _) hij (by simpa [hd] using hj))
    rw [getElem!_pos d' j (by simpa using hj), getElem!_pos d' i (by simpa using hi)] at h5
    have h6 := cmpW_neg (d'.toList[i]).k (d'.toList[j]).k
    have h7 : ¬ cmpW (d'.toList[j]).k (d'.toList[i]).k < 0 := h5
    omega
  · have hd : d'.toList.length = L.length := by rw [Array.length_toList, hp.1, hsz]
    rw [hw]
    have h5 := own_sorted (enc := Part.v) (w := w) (base := w0.heap.size) (n := n) (os := os) (ss := L) (ts := d'.toList) hd hg hcur h1 h2 h3
    rw [show d'.toList.toArray = d' from by simp] at h5
    show World.ownsRow _ _ _ _ _ _ _
    rw [hd]
    exact h5
  · rw [hw]
    exact hb.grown (grown_sorted d') hb.size (fun k hk => by cases hk; exact hg)
theorem size_tr : Tryz.prog.elem 51 = 24 := by kernel_rfl
/-- 's[l:]' and 's[:h]' of a slice of rows of the call's own. -/
theorem slice_from (g n c l : Nat) (L : Int) (hl : l < n) (hc : n ≤ c) (hL : L = l) (W : World) : (Instr.slice 51 (.slice (some ⟨g, 0, none⟩) n c) (some (.int .i64 L)) none none).run Tryz.prog W = .ok (.slice (some ⟨g, l, none⟩) (n - l) (c - l)) W := by
  subst hL
  have := run_slice_l (P := Tryz.prog) (w := W) (t := 51) (a := some ⟨g, 0, none⟩) (len := n) (cap := c) (by rw [size_tr]; exact Tryz.underlying51) .i64 (l : Int) (by omega) (by omega)
  rw [this, size_tr]
  simp [go_sem, Result.andThen, show ¬ c = l from by omega, addr_plus]
theorem slice_to (g n c h : Nat) (hh : h ≤ c) (h0 : 0 < c) (W : World) : (Instr.slice 51 (.slice (some ⟨g, 0, none⟩) n c) none (some (.int .i64 (h : Int))) none).run Tryz.prog W = .ok (.slice (some ⟨g, 0, none⟩) h c) W := by
  have := run_slice_h (P := Tryz.prog) (w := W) (t := 51) (a := some ⟨g, 0, none⟩) (len := n) (cap := c) (by rw [size_tr]; exact Tryz.underlying51) .i64 (h : Int) (by omega) (by omega)
  rw [this, size_tr]
  simp [go_sem, Result.andThen, show ¬ c = 0 from by omega]
theorem zero_tr (w : World) : (zeroValue 24).run Tryz.prog w = .ok (.slice none 0 0) w := by kernel_rfl
/-- 'clear(s)', s a part of a slice of the call's own up to its end. -/
theorem run_clear {α : Type} {enc : α → Value} {e : TypeId} {w : World} {base g n c kk : Nat} {xs : List α} (h : Has enc e w base (.slice (some ⟨g, 0, none⟩) n c) xs) (hn : n = xs.length) (hk : kk < n) (ty : TypeId) (c' : Nat) :
    (Builtin.clear_ #[51] ty #[.slice (some ⟨g, kk, none⟩) (n - kk) c']).run Tryz.prog w = .ok (.tuple #[]) (w.setCells g kk (List.replicate (n - kk) (.slice none 0 0))) := by
  have h' : w.ownsRow base e 1 (.slice (some ⟨g, 0, none⟩) xs.length c) xs.length (xs.map enc) := by rw [hn] at h; exact h
  refine Lib.run_clear_slice w 51 24 ty (.slice none 0 0) Tryz.underlying51 zero_tr rfl rfl g kk (n - kk) c' (by omega) (fun j hj => ?_) fun j _ => h'.frozenAt (kk + j)
  rw [h'.cellAt (kk + j) (by omega)]
  simp [show kk + j < xs.length from by omega]
theorem has_cap {α : Type} {enc : α → Value} {e : TypeId} {w : World} {base n c : Nat} {a : Option Addr} {xs : List α} (h : Has enc e w base (.slice a n c) xs) : n = xs.length ∧ n ≤ c := by
  rcases h.2 with ⟨hv, hn⟩ | ⟨g, cap, cur, hv, _, _, hc, _⟩
  · injection hv with e1 e2 e3; omega
  · injection hv with e1 e2 e3; omega
end Fac
end Go.Proofs.YtidfgfgokcflfaaGreat
/- Contracts of the library's sort and compaction at a slice of parts of words. No conditions beyond those that each states. -/
namespace Go.Proofs.YtidfgfgokcflfaaGreat
open Go.ChangeShapes Go.WideShapes Go.ChangeAt Go.RowKit
open Go.PlainAid Plain
set_option linter.unusedVariables false
namespace Fac
open Seqs
theorem ins_none (p : Option Addr) (cap : Nat) (fv : Value) (w : World) :
    Calls Tryz.prog 76 #[.slice p 0 cap, .int .i64 0, .int .i64 0, fv] w fun e w' => e = .returned (.tuple #[]) ∧ w = w' := by
  go_enter Tryz.func76, Tryz.ntmps76
  go_wp2
  refine wp_loop_rounds 1 ?_
  rw [rounds_succ]
  go_wp2
  go_end0
  exact ⟨rfl, rfl⟩
theorem pdq_none (p : Option Addr) (cap : Nat) (lim : Int) (fv : Value) (w : World) :
    Calls Tryz.prog 63 #[.slice p 0 cap, .int .i64 0, .int .i64 0, .int .i64 lim, fv] w fun e w' => e = .returned (.tuple #[]) ∧ w = w' := by
  go_enter Tryz.func63, Tryz.ntmps63
  go_wp2
  refine wp_loop_rounds 1 ?_
  rw [rounds_succ]
  go_wp2_with (go_at_call 76; refine (ins_none _ _ _ _).mono ?_; rintro e w' ⟨rfl, rfl⟩)
  (try simp only [Exit.inBlock, Exit.then]); refine bodyPost_ret (results_none rfl _ _ _) rfl ?_
  exact ⟨rfl, rfl⟩
theorem sort_none (p : Option Addr) (cap : Nat) (fv : Value) (w : World) :
    Calls Tryz.prog 49 #[.slice p 0 cap, fv] w fun e w' => e = .returned (.tuple #[]) ∧ w = w' := by
  have hl : ∀ W, Calls Tryz.prog 64 #[.int .u64 0] W fun e w' => e = .returned (.int .i64 (Lib.bitLen 0 : Nat)) ∧ w' = W := fun W => Tryz.bits_Len 0 W (by omega) (by omega)
  go_enter Tryz.func49, Tryz.ntmps49
  go_wp2_with (first | (go_at_call 64; refine (hl _).mono ?_; rintro e w' ⟨rfl, rfl⟩) | (go_at_call 63; refine (pdq_none _ _ _ _ _).mono ?_; rintro e w' ⟨rfl, rfl⟩))
  go_end0
  exact ⟨rfl, rfl⟩
theorem sort_any (v : Value) (w0 w : World) (L : List (Part w0)) (hb : Below w0.heap.size w0 w) (hv : Has Part.v 24 w w0.heap.size v L) (hn : L.length ≤ 100000) :
    Calls Tryz.prog 49 #[v, .func (.func 50) #[] #[]] w fun e w' => e = .returned (.tuple #[]) ∧ ∃ L' : List (Part w0), L'.Perm L ∧ (L'.Pairwise fun x y => cmpW x.k y.k ≤ 0) ∧ Has Part.v 24 w' w0.heap.size v L' ∧ Below w0.heap.size w0 w' := by
  rcases Nat.eq_zero_or_pos L.length with h0 | h0
  · obtain rfl : L = [] := List.eq_nil_of_length_eq_zero h0
    obtain ⟨a, c, rfl, _⟩ := hv.form
    refine (sort_none a c _ w).mono fun e w' h => ?_
    obtain ⟨rfl, rfl⟩ := h
    exact ⟨rfl, [], List.Perm.refl _, List.Pairwise.nil, hv, hb⟩
  · exact sorted v w0 w L hb hv hn h0
theorem eq_q {u v : Value} {xs ys : List Int} {w : World} {n : Nat} {c : Bool} (h1 : Lies (Value.int .i64) w u xs) (h2 : Lies (Value.int .i64) w v ys) (hc : decide (xs = ys) = c) :
    Calls Tryz.prog 26 #[u, v] (w.drewN n) fun e w' => e = .returned (.bool c) ∧ ∃ m, w' = w.drewN m :=
  (equal_ints u v xs ys (w.drewN n) (Lies_drewN h1 n) (Lies_drewN h2 n)).mono fun _ _ ⟨h, m, hm⟩ => ⟨by rw [h, hc], n + m, by rw [hm, World.drewN_drewN]⟩
theorem has_part {w0 w : World} {base : Nat} {a : Option Addr} {n c i : Nat} {x : Part w0} {L : List (Part w0)} (h : Has Part.v 24 w base (.slice a n c) L) (hx : L[i]? = some x) : ∃ g, a = some ⟨g, 0, none⟩ ∧ w.cell? ⟨g, i, none⟩ = some x.v ∧ ∃ b d, x.v = .slice b x.k.length d := by
  obtain ⟨p, o, ha, hc⟩ := lies_at h.lies hx
  obtain ⟨a', c', hv, hg⟩ := h.form
  injection hv with e1 e2 e3
  obtain ⟨g, hg⟩ := hg (by have := (List.getElem?_eq_some_iff.1 hx).1; omega)
  rw [e1, hg] at ha
  injection ha with ha
  injection ha with h1 h2
  subst h1; subst h2
  rw [Nat.zero_add] at hc
  obtain ⟨_, b, d, hv, _⟩ := x.lies
  exact ⟨g, by rw [e1, hg], hc, b, d, hv⟩
theorem dd_len {w0 : World} (L : List (Part w0)) : (dd Part.k L).length ≤ L.length := by
  have : ∀ (p : List Int) (l : List (Part w0)), (ddF Part.k p l).length ≤ l.length := fun p l => by
    induction l generalizing p with
    | nil => simp [ddF]
    | cons y l ih =>
      unfold ddF
      have := ih (y.k)
      split <;> simp <;> omega
  cases L with
  | nil => simp [dd]
  | cons x l => have := this x.k l; simp [dd]; exact this
theorem take_two {α : Type} {l : List α} {k : Nat} {y : α} (h : l[k]? = some y) : l.take (k + 1) = l.take k ++ [y] := by
  obtain ⟨h1, rfl⟩ := List.getElem?_eq_some_iff.1 h
  exact List.take_succ_eq_append_getElem h1
theorem has_frozen {α : Type} {enc : α → Value} {e : TypeId} {w : World} {base g n c : Nat} {xs : List α} (h : Has enc e w base (.slice (some ⟨g, 0, none⟩) n c) xs) (hn : n = xs.length) (j : Nat) : w.frozen? ⟨g, j, none⟩ = false := by
  subst hn
  have h' : w.ownsRow base e 1 (.slice (some ⟨g, 0, none⟩) xs.length c) xs.length (xs.map enc) := h
  exact h'.frozenAt j
set_option maxRecDepth 100000 in
set_option maxHeartbeats 4000000 in
theorem compact (v : Value) (w0 w : World) (L : List (Part w0)) (hb : Below w0.heap.size w0 w) (hv : Has Part.v 24 w w0.heap.size v L) (hn : L.length ≤ 100000) :
    Calls Tryz.prog 51 #[v, .func (.func 26) #[] #[]] w fun e w' => ∃ v', e = .returned v' ∧ Has Part.v 24 w' w0.heap.size v' (dd Part.k L) ∧ Below w0.heap.size w0 w' := by
  have eg : ∀ args w, (callFunc 26 args).run Tryz.prog w = .ok (.enter 26 args) w := enters_of Tryz.func26 (by kernel_rfl) rfl
  obtain ⟨a, c, rfl, _⟩ := hv.form
  have HV := Lib.hid hv
  have HB := Lib.hid hb
  clear hv hb
  by_cases h2 : L.length < 2
  · have hdd : dd Part.k L = L := by
      have := dd_one (key := Part.k) L
      rwa [List.take_of_length_le (by omega)] at this
    go_enter Tryz.func51, Tryz.ntmps51
    go_wp2
    go_ret
    exact ⟨_, rfl, by rw [hdd]; exact HV.out, HB.out⟩
  · go_enter Tryz.func51, Tryz.ntmps51
    go_wp2
    go_loopw [5] (fun k' wr => ∃ k : Nat, k + 1 ≤ L.length ∧ k' = .int .i64 ((k : Int) + 1) ∧ Hid (dd Part.k (L.take (k + 1)) = L.take (k + 1)) ∧ Hid (Has Part.v 24 wr w0.heap.size (.slice a L.length c) L) ∧ Hid (Below w0.heap.size w0 wr)) (fun k' _ => L.length - (intOf k').toNat)
    case atStart => exact ⟨0, by omega, rfl, dd_one L, HV, HB⟩
    case round =>
      obtain ⟨k, hk, rfl, HD, HV, HB⟩ := hrel
      obtain ⟨W4, rfl⟩ : ∃ W : World, W = wr := ⟨_, rfl⟩
      by_cases hlt : k + 1 < L.length
      · obtain ⟨x, hx⟩ : ∃ x, L[k]? = some x := ⟨_, List.getElem?_eq_getElem (by omega)⟩
        obtain ⟨y, hy⟩ : ∃ y, L[k + 1]? = some y := ⟨_, List.getElem?_eq_getElem hlt⟩
        obtain ⟨g, ha, c1, xb, xd, hxv⟩ := has_part HV.out hx
        subst ha
        obtain ⟨_, ha, c2, yb, yd, hyv⟩ := has_part HV.out hy
        cases ha
        have HXL := Lib.hid (x.lies.below HB.out)
        have HYL := Lib.hid (y.lies.below HB.out)
        rw [hxv] at c1 HXL
        rw [hyv] at c2 HYL
        have HS := Lib.hid (dd_snoc (key := Part.k) (l := L) hx hy)
        have HX := Lib.hid hy
        have hcap := (has_cap HV.out).2
        clear hx hy hxv hyv
        have hwr : IntKind.i64.wrap ((k : Int) + 1 - 1) = (k : Int) := by rw [IntKind.wrap_i64]; omega
        have hwr2 : IntKind.i64.wrap (k : Int) = (k : Int) := by rw [IntKind.wrap_i64]; omega
        have hl1 : k < L.length := by omega
        have hl2 : (k : Int) + 1 < (L.length : Int) := by omega
        have hl3 : (0 : Int) ≤ (k : Int) + 1 := by omega
        have hl4 : ((k : Int) + 1).toNat = k + 1 := by omega
        have hl5 : (k : Int) < (L.length : Int) := by omega
        by_cases he : y.k = x.k
        · have HQ := Lib.hid (decide_eq_true he)
          have HS2 : Hid (L.take (k + 1) = dd Part.k (L.take (k + 2))) := by
            have := HS.out
            rw [if_pos he, List.append_nil, HD.out] at this
            exact this.symm
          clear he HS HD
          go_wp2
          go_quiet ((go_at_fn 26; exact eq_q HYL.out HXL.out HQ.out))
          clear hwr hwr2 hl4
          have hsl := slice_from g L.length c (k + 1) ((k : Int) + 1) hlt hcap (by omega)
          have HB1 := Lib.hid (below_drewN HB.out nq)
          have HV1 := Lib.hid (HV.out.below (below_drewN (Below.refl _ _) nq))
          go_wp2_with fail
          go_loopw [5, 7] (fun k' m' wr => ∃ (q kk : Nat) (M : List (Part w0)), k + 1 + (q + 1) ≤ L.length ∧ k' = .int .i64 kk ∧ m' = .int .i64 ((q : Int) + 1) ∧ kk ≤ k + 1 + q ∧ Hid (M.length = L.length ∧ M.take kk = dd Part.k (L.take (k + 1 + q + 1)) ∧ ∀ i, k + 1 + q ≤ i → M[i]? = L[i]?) ∧ Hid (Has Part.v 24 wr w0.heap.size (.slice (some ⟨g, 0, none⟩) L.length c) M) ∧ Hid (Below w0.heap.size w0 wr)) (fun _ m' _ => L.length - (intOf m').toNat)
          case atStart => exact ⟨0, k + 1, L, by omega, by go_num, rfl, by omega, ⟨rfl, HS2.out, fun _ _ => rfl⟩, HV1, HB1⟩
          case round =>
            obtain ⟨q, kk, M, hq, rfl, rfl, hkk, HI, HVr, HBr⟩ := hrel
            have hcap2 := (has_cap HVr.out).2
            by_cases hlt2 : k + 1 + (q + 1) < L.length
            · obtain ⟨x2, hx2⟩ : ∃ x, L[k + 1 + q]? = some x := ⟨_, List.getElem?_eq_getElem (by omega)⟩
              obtain ⟨y2, hy2⟩ : ∃ y, L[k + 1 + q + 1]? = some y := ⟨_, List.getElem?_eq_getElem (by omega)⟩
              obtain ⟨_, ha, d1, xb2, xd2, hxv⟩ := has_part HVr.out ((HI.out.2.2 _ (by omega)).trans hx2)
              cases ha
              obtain ⟨_, ha, d2, yb2, yd2, hyv⟩ := has_part HVr.out ((HI.out.2.2 _ (by omega)).trans hy2)
              cases ha
              have HXL2 := Lib.hid (x2.lies.below HBr.out)
              have HYL2 := Lib.hid (y2.lies.below HBr.out)
              rw [hxv] at d1 HXL2
              rw [hyv] at d2 HYL2
              have HYV := Lib.hid hyv
              have HSS := Lib.hid (dd_snoc (key := Part.k) (l := L) hx2 hy2)
              have HY2 := Lib.hid hy2
              rw [show k + 1 + q + 1 = k + 1 + (q + 1) from by omega] at d2
              have hw1 : IntKind.i64.wrap ((q : Int) + 1 - 1) = (q : Int) := by rw [IntKind.wrap_i64]; omega
              have hw2 : IntKind.i64.wrap (q : Int) = (q : Int) := by rw [IntKind.wrap_i64]; omega
              have hm1 : q < L.length - (k + 1) := by omega
              have hm2 : (q : Int) + 1 < ((L.length - (k + 1) : Nat) : Int) := by omega
              have hm3 : (0 : Int) ≤ (q : Int) + 1 := by omega
              have hm4 : ((q : Int) + 1).toNat = q + 1 := by omega
              have hm5 : (q : Int) < ((L.length - (k + 1) : Nat) : Int) := by omega
              clear hx2 hy2 hxv hyv
              by_cases he2 : y2.k = x2.k
              · have HQ2 := Lib.hid (decide_eq_true he2)
                have HN2 : Hid (M.take kk = dd Part.k (L.take (k + 1 + (q + 1) + 1))) := by
                  have := HSS.out
                  rw [if_pos he2, List.append_nil] at this
                  exact HI.out.2.1.trans this.symm
                have HI2 : Hid (∀ i, k + 1 + (q + 1) ≤ i → M[i]? = L[i]?) := fun i hi => HI.out.2.2 i (by omega)
                have HI1 := Lib.hid HI.out.1
                clear he2 HSS HI HYV
                go_wp2
                go_quiet ((go_at_fn 26; exact eq_q HYL2.out HXL2.out HQ2.out))
                clear hw1 hw2 hm4
                go_wp2
                go_roundw
                case rel => exact ⟨q + 1, kk, M, by omega, rfl, by go_num, by omega, ⟨HI1.out, HN2.out, HI2.out⟩, HVr.out.below (below_drewN (Below.refl _ _) _), below_drewN HBr.out _⟩
                case measure => simp [intOf]; omega
              · have HQ2 := Lib.hid (decide_eq_false he2)
                have hkl : kk < M.length := by rw [HI.out.1]; omega
                have HN2 : Hid ((M.set kk y2).take (kk + 1) = dd Part.k (L.take (k + 1 + (q + 1) + 1))) := by
                  have := HSS.out
                  rw [if_neg he2, ← HI.out.2.1] at this
                  show _ = _
                  rw [show k + 1 + (q + 1) + 1 = k + 1 + q + 2 from by omega, this, List.take_succ_eq_append_getElem (by simpa using hkl), List.take_set, List.set_eq_of_length_le (by rw [List.length_take]; omega)]
                  simp
                have HI2 : Hid (∀ i, k + 1 + (q + 1) ≤ i → (M.set kk y2)[i]? = L[i]?) := fun i hi => by
                  rw [List.getElem?_set_ne (by omega)]
                  exact HI.out.2.2 i (by omega)
                have HI1 : Hid ((M.set kk y2).length = L.length) := by show _ = _; rw [List.length_set]; exact HI.out.1
                obtain ⟨z, hz⟩ : ∃ z, M[kk]? = some z := ⟨_, List.getElem?_eq_getElem hkl⟩
                obtain ⟨_, ha, d3, _, _, _⟩ := has_part HVr.out hz
                cases ha
                have hkL : kk < L.length := by rw [← HI.out.1]; exact hkl
                have hkL2 : (kk : Int) < (L.length : Int) := by omega
                have HL1 := Lib.hid HI.out.1
                clear he2 HSS HI hz hkl
                go_wp2
                go_quiet ((go_at_fn 26; exact eq_q HYL2.out HXL2.out HQ2.out))
                clear hw1 hw2
                have HV5 := Lib.hid (HVr.out.below (below_drewN (Below.refl _ _) nq))
                have HB5 := Lib.hid (below_drewN HBr.out nq)
                have hst := has_store HV5.out HL1.out.symm kk y2
                rw [HYV.out] at hst
                have HST := Lib.hid hst
                have m3 := has_frozen HV5.out HL1.out.symm kk
                have m1 : (wr.drewN nq).cell? ⟨g, kk, none⟩ = some z.v := d3
                have HBS : Hid (Below w0.heap.size w0 ((wr.drewN nq).setCell ⟨g, kk, none⟩ (.slice yb2 y2.k.length yd2))) := HB5.out.grown hst.2 HB5.out.size (fun k hk => by cases hk; exact (HV5.out.lt g rfl).1)
                clear hst
                go_wp2
                go_roundw
                case rel => exact ⟨q + 1, kk + 1, M.set kk y2, by omega, by go_num, by go_num, by omega, ⟨HI1.out, HN2.out, HI2.out⟩, HST.out.1, HBS⟩
                case measure => simp [intOf]; omega
            · have hend : k + 1 + (q + 1) = L.length := by omega
              have HE : Hid (M.take kk = dd Part.k L) := by
                have := HI.out.2.1
                rw [List.take_of_length_le (show L.length ≤ k + 1 + q + 1 by omega)] at this
                exact this
              have HL1 := Lib.hid HI.out.1
              have hkl : kk < L.length := by omega
              have hsf := slice_from g L.length c kk (kk : Int) hkl hcap2 rfl
              have hcl := fun ty => run_clear HVr.out HL1.out.symm hkl ty (c - kk)
              have hsto := slice_to g L.length c kk (by omega) (by omega)
              have HCUT := Lib.hid (has_cut HVr.out HL1.out.symm (Nat.le_of_lt hkl) HE.out (List.replicate (L.length - kk) (.slice none 0 0)) (.inr (by rw [List.length_replicate]; omega)))
              have hm9 : ¬ ((q : Int) + 1 < ((L.length - (k + 1) : Nat) : Int)) := by omega
              clear hend HI
              go_wp2
              go_ret
              exact ⟨_, rfl, HCUT.out.1, HBr.out.grown HCUT.out.2 HBr.out.size (fun k hk => by cases hk; exact (HVr.out.lt g rfl).1)⟩
        · have HQ := Lib.hid (decide_eq_false he)
          have HS2 : Hid (dd Part.k (L.take (k + 1 + 1)) = L.take (k + 1 + 1)) := by
            have := HS.out
            rw [if_neg he, HD.out] at this
            show _ = _
            rw [show k + 1 + 1 = k + 2 from rfl, this]
            exact (take_two HX.out).symm
          clear he HS HD
          go_wp2
          go_quiet ((go_at_fn 26; exact eq_q HYL.out HXL.out HQ.out))
          clear hwr hwr2 hl4
          go_wp2
          go_roundw
          case rel => exact ⟨k + 1, by omega, by go_num, HS2, HV.out.below (below_drewN (Below.refl _ _) _), below_drewN HB.out _⟩
          case measure => simp [intOf]; omega
      · have HE : Hid (dd Part.k L = L) := by
          have := HD.out
          rw [List.take_of_length_le (by omega)] at this
          exact this
        go_wp2
        go_ret
        exact ⟨_, rfl, by rw [HE.out]; exact HV.out, HB.out⟩
end Fac
end Go.Proofs.YtidfgfgokcflfaaGreat
/- Plain facts on lists without repetition: how many elements they can have, an element put behind a list that lacks it, the different elements of a list and their numbers. No conditions beyond those that each fact states. -/
namespace Go.Proofs.YtidfgfgokcflfaaGreat.Plain
set_option linter.unusedVariables false
/-! ### lists without repetition -/
theorem nodup_sub_len {α : Type} [DecidableEq α] : ∀ (l m : List α), l.Nodup → (∀ x ∈ l, x ∈ m) → l.length ≤ m.length
  | [], _, _, _ => Nat.zero_le _
  | a :: l, m, hn, hs => by
    have ha : a ∈ m := hs a (by simp)
    rw [List.nodup_cons] at hn
    have h1 := nodup_sub_len l (m.erase a) hn.2 (fun x hx => (List.mem_erase_of_ne (fun e => hn.1 (by rw [← e]; exact hx))).2 (hs x (by simp [hx])))
    rw [List.length_erase_of_mem ha] at h1
    have : 0 < m.length := List.length_pos_of_mem ha
    simp
    omega
theorem nodup_of_sub_len {α : Type} [DecidableEq α] : ∀ (l m : List α), l.Nodup → (∀ x ∈ l, x ∈ m) → m.length ≤ l.length → m.Nodup
  | [], m, _, _, hl => by
    have : m = [] := List.eq_nil_of_length_eq_zero (by simpa using hl)
    subst this
    exact List.nodup_nil
  | a :: l, m, hn, hs, hl => by
    have ha : a ∈ m := hs a (by simp)
    have hn' := hn
    rw [List.nodup_cons] at hn
    have hs' : ∀ x ∈ l, x ∈ m.erase a := fun x hx => (List.mem_erase_of_ne (fun e => hn.1 (by rw [← e]; exact hx))).2 (hs x (by simp [hx]))
    have hle : (m.erase a).length = m.length - 1 := List.length_erase_of_mem ha
    have h0 : 0 < m.length := List.length_pos_of_mem ha
    have hl' : m.length ≤ l.length + 1 := by simpa using hl
    have h1 := nodup_of_sub_len l (m.erase a) hn.2 hs' (by omega)
    have hna : a ∉ m.erase a := fun h2 => by
      have h3 := nodup_sub_len (a :: l) (m.erase a) hn' (fun x hx => by
        rcases List.mem_cons.1 hx with rfl | hx
        · exact h2
        · exact hs' x hx)
      simp at h3
      omega
    exact (List.perm_cons_erase ha).nodup_iff.2 (List.nodup_cons.2 ⟨hna, h1⟩)
theorem nodup_bounded (l : List Int) (N : Nat) (hn : l.Nodup) (hb : ∀ x ∈ l, 0 ≤ x ∧ x < N) : l.length ≤ N := by
  have h := nodup_sub_len l ((List.range N).map (fun n : Nat => (n : Int))) hn (fun x hx => by
    have := hb x hx
    exact List.mem_map.2 ⟨x.toNat, List.mem_range.2 (by omega), by omega⟩)
  simpa using h

/-! ### an element is put behind a list that lacks it -/
section
variable {α : Type} [DecidableEq α]
def addTo (l : List α) (x : α) : List α := if x ∈ l then l else l ++ [x]
def addAll (l xs : List α) : List α := xs.foldl addTo l
theorem addTo_in {l : List α} {x : α} (h : x ∈ l) : addTo l x = l := if_pos h
theorem addTo_new {l : List α} {x : α} (h : x ∉ l) : addTo l x = l ++ [x] := if_neg h
theorem addTo_nodup {l : List α} (h : l.Nodup) (x : α) : (addTo l x).Nodup := by
  unfold addTo
  split
  · exact h
  · rename_i hx
    rw [List.nodup_append]
    exact ⟨h, by simp, by simp; exact fun a ha e => hx (e ▸ ha)⟩
theorem mem_addTo {l : List α} {x y : α} : y ∈ addTo l x ↔ y ∈ l ∨ y = x := by
  unfold addTo
  split
  · rename_i h
    exact ⟨.inl, fun h1 => h1.elim id (fun e => e ▸ h)⟩
  · simp
theorem addTo_prefix (l : List α) (x : α) : l <+: addTo l x := by
  unfold addTo
  split
  · exact List.prefix_refl _
  · exact List.prefix_append _ _
theorem addAll_nil (l : List α) : addAll l [] = l := rfl
theorem addAll_cons (l : List α) (x : α) (xs : List α) : addAll l (x :: xs) = addAll (addTo l x) xs := rfl
theorem addAll_snoc (l xs : List α) (x : α) : addAll l (xs ++ [x]) = addTo (addAll l xs) x := by simp [addAll]
theorem addAll_nodup : ∀ (xs : List α) (l : List α), l.Nodup → (addAll l xs).Nodup
  | [], _, h => h
  | x :: xs, l, h => addAll_nodup xs _ (addTo_nodup h x)
theorem mem_addAll : ∀ (xs l : List α) (y : α), y ∈ addAll l xs ↔ y ∈ l ∨ y ∈ xs
  | [], l, y => by simp [addAll]
  | x :: xs, l, y => by
    rw [addAll_cons, mem_addAll xs, mem_addTo, List.mem_cons]
    constructor
    · rintro ((h | h) | h)
      · exact .inl h
      · exact .inr (.inl h)
      · exact .inr (.inr h)
    · rintro (h | h | h)
      · exact .inl (.inl h)
      · exact .inl (.inr h)
      · exact .inr h
theorem addAll_prefix : ∀ (xs l : List α), l <+: addAll l xs
  | [], _ => List.prefix_refl _
  | x :: xs, l => (addTo_prefix l x).trans (addAll_prefix xs _)
theorem addAll_get {l xs : List α} {i : Nat} {s : α} (h : l[i]? = some s) : (addAll l xs)[i]? = some s := by
  obtain ⟨t, ht⟩ := addAll_prefix xs l
  have hi := (List.getElem?_eq_some_iff.1 h).1
  rw [← ht, List.getElem?_append_left hi]
  exact h
theorem addAll_of_sub : ∀ (xs l : List α), (∀ x ∈ xs, x ∈ l) → addAll l xs = l
  | [], _, _ => rfl
  | x :: xs, l, h => by
    rw [addAll_cons, addTo_in (h x (by simp))]
    exact addAll_of_sub xs l fun y hy => h y (by simp [hy])
theorem addAll_append (l xs ys : List α) : addAll l (xs ++ ys) = addAll (addAll l xs) ys := by simp [addAll]
/-- An element's first place. -/
def ix (l : List α) (x : α) : Nat := l.idxOf x
/-- The first place of an element stays while the list grows behind. -/
theorem idxOf_prefix {l m : List α} (h : l <+: m) {x : α} (hx : x ∈ l) : ix m x = ix l x := by
  obtain ⟨t, rfl⟩ := h
  rw [ix, List.idxOf_append, if_pos hx]
  rfl
theorem idxOf_lt {l : List α} {x : α} (h : x ∈ l) : ix l x < l.length := List.idxOf_lt_length_of_mem h
theorem get_idxOf {l : List α} {x : α} (h : x ∈ l) : l[ix l x]? = some x := by
  rw [List.getElem?_eq_getElem (idxOf_lt h)]
  exact congrArg some (List.getElem_idxOf (idxOf_lt h))
theorem idxOf_inj {l : List α} {x y : α} (hx : x ∈ l) (hy : y ∈ l) (h : ix l x = ix l y) : x = y := by
  have h1 := get_idxOf hx
  rw [h, get_idxOf hy] at h1
  exact (Option.some.inj h1).symm
theorem idxOf_get {l : List α} (hn : l.Nodup) {i : Nat} {x : α} (h : l[i]? = some x) : ix l x = i := by
  obtain ⟨hi, rfl⟩ := List.getElem?_eq_some_iff.1 h
  have h1 : l[i] ∈ l := List.getElem_mem _
  have h2 := get_idxOf h1
  obtain ⟨h3, h4⟩ := List.getElem?_eq_some_iff.1 h2
  have hp := List.pairwise_iff_getElem.1 hn
  rcases Nat.lt_trichotomy (ix l l[i]) i with h5 | h5 | h5
  · exact absurd h4 (hp _ _ h3 hi h5)
  · exact h5
  · exact absurd h4.symm (hp _ _ hi h3 h5)
/-- The different elements, as they first come. -/
def dist (keys : List α) : List α := addAll [] keys
theorem dist_nodup (keys : List α) : (dist keys).Nodup := addAll_nodup keys _ List.nodup_nil
theorem mem_dist {keys : List α} {x : α} : x ∈ dist keys ↔ x ∈ keys := by simp [dist, mem_addAll]
theorem dist_snoc (keys : List α) (x : α) : dist (keys ++ [x]) = addTo (dist keys) x := addAll_snoc _ _ _
theorem dist_prefix (keys ys : List α) : dist keys <+: dist (keys ++ ys) := by
  rw [dist, dist, addAll_append]
  exact addAll_prefix _ _
/-- Each key's number, by the order in which they first come. -/
def numb (keys : List α) : List Int := keys.map fun k => (ix (dist keys) k : Int)
theorem numb_len (keys : List α) : (numb keys).length = keys.length := by simp [numb]
theorem numb_get {keys : List α} {i : Nat} {k : α} (h : keys[i]? = some k) : (numb keys)[i]? = some (ix (dist keys) k : Int) := by simp [numb, h]
theorem numb_snoc (keys : List α) (k : α) : numb (keys ++ [k]) = numb keys ++ [(ix (addTo (dist keys) k) k : Int)] := by
  rw [numb, dist_snoc, List.map_append]
  congr 1
  apply List.map_congr_left
  intro x hx
  rw [idxOf_prefix (addTo_prefix _ _) (mem_dist.2 hx)]
theorem numb_new {keys : List α} {k : α} (h : k ∉ keys) : numb (keys ++ [k]) = numb keys ++ [((dist keys).length : Int)] := by
  rw [numb_snoc, addTo_new (fun h1 => h (mem_dist.1 h1)), ix, List.idxOf_append, if_neg (fun h1 => h (mem_dist.1 h1))]
  simp
theorem numb_old {keys : List α} {k : α} (h : k ∈ keys) : numb (keys ++ [k]) = numb keys ++ [(ix (dist keys) k : Int)] := by
  rw [numb_snoc, addTo_in (mem_dist.2 h)]
theorem numb_bd {keys : List α} {c : Int} (h : c ∈ numb keys) : 0 ≤ c ∧ c < (dist keys).length := by
  obtain ⟨k, hk, rfl⟩ := List.mem_map.1 h
  have := idxOf_lt (mem_dist.2 hk)
  omega
theorem numb_eq_iff {keys : List α} {i j : Nat} {k k' : α} (h : keys[i]? = some k) (h' : keys[j]? = some k') : (numb keys)[i]? = (numb keys)[j]? ↔ k = k' := by
  rw [numb_get h, numb_get h']
  constructor
  · intro e
    have e1 : ix (dist keys) k = ix (dist keys) k' := by injection e with e; omega
    exact idxOf_inj (mem_dist.2 (List.mem_of_getElem? h)) (mem_dist.2 (List.mem_of_getElem? h')) e1
  · rintro rfl; rfl
end
theorem mem_map_inj {α β : Type} {f : α → β} {l : List α} {x : α} (hf : ∀ a b, a ∈ l → f a = f b → b = x → a = b) : f x ∈ l.map f ↔ x ∈ l := by
  constructor
  · intro h
    obtain ⟨a, ha, e⟩ := List.mem_map.1 h
    exact (hf a x ha e rfl) ▸ ha
  · exact fun h => List.mem_map.2 ⟨x, h, rfl⟩
section
variable {α β : Type} [DecidableEq α] [DecidableEq β]
theorem addAll_map (f : α → β) (S : List α) (hf : ∀ a ∈ S, ∀ b ∈ S, f a = f b → a = b) : ∀ (xs l : List α), (∀ x ∈ l, x ∈ S) → (∀ x ∈ xs, x ∈ S) → addAll (l.map f) (xs.map f) = (addAll l xs).map f
  | [], _, _, _ => rfl
  | x :: xs, l, hl, hx => by
    have hxS := hx x (by simp)
    have hm : f x ∈ l.map f ↔ x ∈ l := mem_map_inj (fun a b ha e eb => by subst eb; exact hf a (hl a ha) b hxS e)
    have e1 : addTo (l.map f) (f x) = (addTo l x).map f := by
      by_cases h : x ∈ l
      · rw [addTo_in h, addTo_in (hm.2 h)]
      · rw [addTo_new h, addTo_new (fun h1 => h (hm.1 h1))]
        simp
    rw [List.map_cons, addAll_cons, e1, addAll_cons]
    exact addAll_map f S hf xs _ (fun y hy => by rcases mem_addTo.1 hy with h | rfl; exact hl y h; exact hxS) (fun y hy => hx y (by simp [hy]))
theorem dist_map (f : α → β) (keys : List α) (hf : ∀ a ∈ keys, ∀ b ∈ keys, f a = f b → a = b) : dist (keys.map f) = (dist keys).map f :=
  addAll_map f keys hf keys [] (by simp) (fun _ h => h)
theorem idxOf_map (f : α → β) : ∀ (l : List α) (x : α), (∀ a ∈ l, f a = f x → a = x) → ix (l.map f) (f x) = ix l x
  | [], _, _ => rfl
  | a :: l, x, h => by
    rw [ix, ix, List.map_cons, List.idxOf_cons, List.idxOf_cons]
    have ih := idxOf_map f l x (fun b hb => h b (by simp [hb]))
    by_cases e : a = x
    · subst e
      simp
    · have e2 : f a ≠ f x := fun e2 => e (h a (by simp) e2)
      have b1 : (f a == f x) = false := by simpa using e2
      have b2 : (a == x) = false := by simpa using e
      have ih' : List.idxOf (f x) (l.map f) = List.idxOf x l := ih
      rw [b1, b2, ih']
theorem numb_map (f : α → β) (keys : List α) (hf : ∀ a ∈ keys, ∀ b ∈ keys, f a = f b → a = b) : numb (keys.map f) = numb keys := by
  unfold numb
  rw [dist_map f keys hf, List.map_map]
  apply List.map_congr_left
  intro k hk
  show (ix ((dist keys).map f) (f k) : Int) = _
  rw [idxOf_map f _ k (fun a ha e => hf a (mem_dist.1 ha) k hk e)]
/-- Equal partitions have equal numbers. -/
theorem numb_same (keys : List α) (keys' : List β) (hl : keys.length = keys'.length) (h : ∀ (i j : Nat), i < keys.length → j < keys.length → (keys[i]? = keys[j]? ↔ keys'[i]? = keys'[j]?)) : numb keys = numb keys' := by
  cases keys' with
  | nil =>
    have : keys = [] := List.eq_nil_of_length_eq_zero (by simpa using hl)
    subst this; rfl
  | cons k0 ks0 =>
    obtain ⟨ks', hks⟩ : ∃ ks', ks' = k0 :: ks0 := ⟨_, rfl⟩
    rw [← hks] at hl h ⊢
    have e1 : ks' = keys.map (fun k => ks'.getD (ix keys k) k0) := by
      apply List.ext_getElem?
      intro i
      rw [List.getElem?_map]
      by_cases hi : i < keys.length
      · obtain ⟨k, hk⟩ : ∃ k, keys[i]? = some k := ⟨_, List.getElem?_eq_getElem hi⟩
        have hm := List.mem_of_getElem? hk
        have hj := idxOf_lt hm
        have h2 := (h (ix keys k) i hj hi).1 (by rw [get_idxOf hm, hk])
        rw [hk, Option.map_some, List.getD_eq_getElem?_getD, h2, List.getElem?_eq_getElem (by omega)]
        rfl
      · rw [List.getElem?_eq_none (by omega), List.getElem?_eq_none (by omega)]
        rfl
    have e2 : numb keys = numb (keys.map (fun k => ks'.getD (ix keys k) k0)) := (numb_map _ keys (fun a ha b hb e => by
      have ja := idxOf_lt ha
      have jb := idxOf_lt hb
      rw [List.getD_eq_getElem?_getD, List.getD_eq_getElem?_getD, List.getElem?_eq_getElem (show ix keys a < ks'.length by omega), List.getElem?_eq_getElem (show ix keys b < ks'.length by omega)] at e
      have h2 := (h (ix keys a) (ix keys b) ja jb).2 (by
        rw [List.getElem?_eq_getElem (show ix keys a < ks'.length by omega), List.getElem?_eq_getElem (show ix keys b < ks'.length by omega)]
        exact congrArg some e)
      rw [get_idxOf ha, get_idxOf hb] at h2
      exact Option.some.inj h2)).symm
    rw [← e1] at e2
    exact e2
end
end Go.Proofs.YtidfgfgokcflfaaGreat.Plain
/- Plain facts on words and morphisms as lists: which ones are valid, images, what several steps make of a letter, letters that vanish, fixed words. No conditions beyond those that each fact states. -/
namespace Go.Proofs.YtidfgfgokcflfaaGreat.Plain

/-- A word of the first n letters. -/
def IsWd (xs : List Int) (n : Int) : Prop := 1 ≤ n ∧ n ≤ 16 ∧ xs.length ≤ 400 ∧ ∀ x ∈ xs, 0 ≤ x ∧ x < n
instance (xs : List Int) (n : Int) : Decidable (IsWd xs n) := by unfold IsWd; infer_instance
def wordB (xs : List Int) (n : Int) : Bool := decide (IsWd xs n)
theorem wordB_yes {xs : List Int} {n : Int} (h : IsWd xs n) : wordB xs n = true := decide_eq_true h
theorem wordB_no {xs : List Int} {n : Int} (h : ¬ IsWd xs n) : wordB xs n = false := decide_eq_false h
theorem wordB_out {xs : List Int} {n : Int} (h : wordB xs n = true) : IsWd xs n := of_decide_eq_true h
theorem not_word_at {xs : List Int} {n : Int} {i : Nat} {x : Int} (hx : xs[i]? = some x) (h : x < 0 ∨ n ≤ x) : wordB xs n = false :=
  wordB_no fun hw => by have := hw.2.2.2 x (List.mem_of_getElem? hx); omega
theorem all_at {xs : List Int} {P : Int → Prop} (h : ∀ (i : Nat) (x : Int), xs[i]? = some x → P x) : ∀ x ∈ xs, P x := fun x hx => by
  obtain ⟨i, hi⟩ := List.getElem?_of_mem hx
  exact h i x hi
/-- A valid morphism. -/
def IsMor (m : List (List Int)) : Prop := 1 ≤ m.length ∧ m.length ≤ 16 ∧ ∀ r ∈ m, r.length ≤ 8 ∧ ∀ x ∈ r, 0 ≤ x ∧ x < (m.length : Int)
instance (m : List (List Int)) : Decidable (IsMor m) := by unfold IsMor; infer_instance
def morB (m : List (List Int)) : Bool := decide (IsMor m)
theorem morB_yes {m : List (List Int)} (h : IsMor m) : morB m = true := decide_eq_true h
theorem morB_no {m : List (List Int)} (h : ¬ IsMor m) : morB m = false := decide_eq_false h
theorem morB_out {m : List (List Int)} (h : morB m = true) : IsMor m := of_decide_eq_true h
def imgB (r : List Int) (n : Nat) : Bool := wordB r n && decide (r.length ≤ 8)
theorem not_mor_at {m : List (List Int)} {i : Nat} {r : List Int} (hr : m[i]? = some r) (h : wordB r m.length = false ∨ 8 < r.length) : morB m = false :=
  morB_no fun hm => by
    have h1 := hm.2.2 r (List.mem_of_getElem? hr)
    rcases h with h | h
    · have : wordB r m.length = true := wordB_yes ⟨by have := hm.1; omega, by have := hm.2.1; omega, by omega, h1.2⟩
      rw [this] at h; cases h
    · omega
theorem mor_of {m : List (List Int)} (h0 : 1 ≤ m.length) (h : ∀ (i : Nat) (r : List Int), m[i]? = some r → wordB r m.length = true ∧ r.length ≤ 8) : morB m = true := by
  have h16 : m.length ≤ 16 := by
    have := (wordB_out (h 0 _ (List.getElem?_eq_getElem h0)).1).2.1
    omega
  refine morB_yes ⟨h0, h16, fun r hr => ?_⟩
  obtain ⟨i, hi⟩ := List.getElem?_of_mem hr
  have := h i r hi
  exact ⟨this.2, (wordB_out this.1).2.2.2⟩
def IsUni (m : List (List Int)) (k : Int) : Prop := IsMor m ∧ ∀ r ∈ m, (r.length : Int) = k
instance (m : List (List Int)) (k : Int) : Decidable (IsUni m k) := by unfold IsUni; infer_instance
def uniB (m : List (List Int)) (k : Int) : Bool := decide (IsUni m k)
theorem uniB_at {m : List (List Int)} {k : Int} {i : Nat} {r : List Int} (hr : m[i]? = some r) (h : ¬ (r.length : Int) = k) : uniB m k = false :=
  decide_eq_false fun hu => h (hu.2 r (List.mem_of_getElem? hr))
theorem uniB_all {m : List (List Int)} {k : Int} (h : ∀ (i : Nat) (r : List Int), m[i]? = some r → (r.length : Int) = k) : uniB m k = morB m := by
  unfold uniB morB
  refine decide_eq_decide.2 ⟨fun h => h.1, fun hm => ⟨hm, fun r hr => ?_⟩⟩
  obtain ⟨i, hi⟩ := List.getElem?_of_mem hr
  exact h i r hi
theorem uniB_mor {m : List (List Int)} {k : Int} (h : morB m = false) : uniB m k = false := decide_eq_false fun hu => by
  have := morB_yes hu.1
  rw [this] at h; cases h

/-- The image of a letter, the images of all letters of a word, joined. -/
def img (m : List (List Int)) (x : Int) : List Int := m.getD x.toNat []
def appL (m : List (List Int)) (w : List Int) : List Int := w.flatMap (img m)
theorem img_at {m : List (List Int)} {n : Nat} {r : List Int} (h : m[n]? = some r) : img m n = r := by simp [img, List.getD, h]
theorem appL_nil (m : List (List Int)) : appL m [] = [] := rfl
theorem appL_append (m : List (List Int)) (u v : List Int) : appL m (u ++ v) = appL m u ++ appL m v := by simp [appL]
theorem appL_one (m : List (List Int)) (x : Int) : appL m [x] = img m x := by simp [appL]
theorem appL_cons (m : List (List Int)) (x : Int) (u : List Int) : appL m (x :: u) = img m x ++ appL m u := by simp [appL]
theorem appL_take_succ {m : List (List Int)} {w : List Int} {i : Nat} {x : Int} (h : w[i]? = some x) : appL m (w.take (i + 1)) = appL m (w.take i) ++ img m x := by
  obtain ⟨h1, h2⟩ := List.getElem?_eq_some_iff.1 h
  rw [List.take_succ_eq_append_getElem h1, appL_append, h2, appL_one]
theorem appL_take_le (m : List (List Int)) (w : List Int) (i : Nat) : (appL m (w.take i)).length ≤ (appL m w).length := by
  have : appL m w = appL m (w.take i) ++ appL m (w.drop i) := by rw [← appL_append, List.take_append_drop]
  rw [this, List.length_append]; omega
theorem IsMor.img {m : List (List Int)} (h : IsMor m) {x : Int} (h0 : 0 ≤ x) (h1 : x < m.length) : m[x.toNat]? = some (img m x) ∧ (img m x).length ≤ 8 ∧ ∀ y ∈ img m x, 0 ≤ y ∧ y < (m.length : Int) := by
  have hs : x.toNat < m.length := by omega
  have e : Plain.img m x = m[x.toNat] := by simp [Plain.img, List.getD, hs]
  have := h.2.2 m[x.toNat] (List.getElem_mem _)
  exact ⟨by rw [e]; exact List.getElem?_eq_getElem hs, by rw [e]; exact this.1, by rw [e]; exact this.2⟩
theorem IsMor.app_in {m : List (List Int)} (h : IsMor m) {w : List Int} (hw : ∀ x ∈ w, 0 ≤ x ∧ x < (m.length : Int)) : ∀ y ∈ appL m w, 0 ≤ y ∧ y < (m.length : Int) := fun y hy => by
  obtain ⟨x, hx, hyx⟩ := List.mem_flatMap.1 hy
  have := hw x hx
  exact (h.img this.1 this.2).2.2 y hyx
theorem app_len8 {m : List (List Int)} (h : IsMor m) : ∀ (w : List Int), (∀ x ∈ w, 0 ≤ x ∧ x < (m.length : Int)) → (appL m w).length ≤ 8 * w.length
  | [], _ => by simp [appL]
  | x :: w, hw => by
    have h1 := hw x (by simp)
    have h2 := (h.img h1.1 h1.2).2.1
    have h3 := app_len8 h w fun y hy => hw y (by simp [hy])
    rw [appL_cons, List.length_append, List.length_cons]
    omega
def appK (m : List (List Int)) (w : List Int) : Bool := morB m && wordB w m.length && decide ((appL m w).length ≤ 400)
def appV (m : List (List Int)) (w : List Int) : List Int := if appK m w = true then appL m w else []
theorem appK_out {m : List (List Int)} {w : List Int} (h : appK m w = true) : IsMor m ∧ IsWd w m.length ∧ (appL m w).length ≤ 400 := by
  simp only [appK, Bool.and_eq_true, decide_eq_true_eq] at h
  exact ⟨morB_out h.1.1, wordB_out h.1.2, h.2⟩
theorem appK_yes {m : List (List Int)} {w : List Int} (h : IsMor m) (hw : IsWd w m.length) (hl : (appL m w).length ≤ 400) : appK m w = true := by simp [appK, morB_yes h, wordB_yes hw, hl]
theorem appV_len (m : List (List Int)) (w : List Int) : (appV m w).length ≤ 400 := by
  unfold appV
  split
  · rename_i h
    exact (appK_out h).2.2
  · simp
theorem app_word {m : List (List Int)} {w : List Int} (h : appK m w = true) : wordB (appL m w) m.length = true := by
  obtain ⟨h1, h2, h3⟩ := appK_out h
  exact wordB_yes ⟨h2.1, h2.2.1, h3, h1.app_in h2.2.2.2⟩

/-- What k steps make of a letter, none where one of the words on the way is too long. -/
def itF (m : List (List Int)) (a : Int) : Nat → Option (List Int)
  | 0 => some [a]
  | k + 1 => match itF m a k with
    | none => none
    | some w => if appK m w = true then some (appL m w) else none
theorem itF_succ {m : List (List Int)} {a : Int} {k : Nat} {w : List Int} (h : itF m a k = some w) : itF m a (k + 1) = if appK m w = true then some (appL m w) else none := by
  show (match itF m a k with | none => none | some w => if appK m w = true then some (appL m w) else none) = _
  rw [h]
theorem itF_none {m : List (List Int)} {a : Int} {k : Nat} (h : itF m a k = none) : ∀ j : Nat, itF m a (k + j) = none
  | 0 => h
  | j + 1 => by
    show (match itF m a (k + j) with | none => none | some w => if appK m w = true then some (appL m w) else none) = _
    rw [itF_none h j]
theorem itF_word {m : List (List Int)} {a : Int} (hm : IsMor m) (ha : 0 ≤ a ∧ a < (m.length : Int)) : ∀ (k : Nat) (w : List Int), itF m a k = some w → IsWd w m.length
  | 0, w, h => by
    obtain rfl := Option.some.inj h
    refine ⟨by have := hm.1; omega, by have := hm.2.1; omega, by simp, fun x hx => ?_⟩
    obtain rfl : x = a := by simpa using hx
    exact ha
  | k + 1, w, h => by
    cases hk : itF m a k with
    | none => have := itF_none hk 1; rw [this] at h; cases h
    | some u =>
      rw [itF_succ hk] at h
      split at h
      · obtain rfl := Option.some.inj h
        rename_i h1
        exact wordB_out (app_word h1)
      · cases h
def letB (m : List (List Int)) (a : Int) : Bool := decide (0 ≤ a ∧ a < (m.length : Int))
def iterK (m : List (List Int)) (a n : Int) : Bool := morB m && letB m a && decide (0 ≤ n ∧ n ≤ 20) && (itF m a n.toNat).isSome
def iterV (m : List (List Int)) (a n : Int) : List Int := if iterK m a n = true then (itF m a n.toNat).getD [] else []
theorem iterV_len (m : List (List Int)) (a n : Int) : (iterV m a n).length ≤ 400 := by
  unfold iterV
  split
  · rename_i h
    simp only [iterK, Bool.and_eq_true, decide_eq_true_eq, letB] at h
    obtain ⟨⟨⟨h1, h2⟩, h3⟩, h4⟩ := h
    obtain ⟨w, hw⟩ := Option.isSome_iff_exists.1 h4
    rw [hw]
    exact (itF_word (morB_out h1) h2 _ w hw).2.2.1
  · simp

/-- Letters of which k steps leave nothing. -/
def van (m : List (List Int)) : Nat → Int → Bool
  | 0, _ => false
  | k + 1, x => (img m x).all (van m k)
theorem van_succ (m : List (List Int)) (k : Nat) (x : Int) : van m (k + 1) x = (img m x).all (van m k) := rfl
theorem van_mono {m : List (List Int)} : ∀ (k : Nat) (x : Int), van m k x = true → van m (k + 1) x = true
  | 0, x, h => by cases h
  | k + 1, x, h => by
    rw [van_succ, List.all_eq_true] at h ⊢
    exact fun y hy => van_mono k y (h y hy)
theorem van_le {m : List (List Int)} {k : Nat} {x : Int} (h : van m k x = true) : ∀ j : Nat, van m (k + j) x = true
  | 0 => h
  | j + 1 => van_mono _ _ (van_le h j)
theorem van_le' {m : List (List Int)} {k j : Nat} {x : Int} (h : van m k x = true) (hj : k ≤ j) : van m j x = true := by
  have := van_le h (j - k)
  rwa [show k + (j - k) = j from by omega] at this
/-- How many letters vanish in k steps. -/
def vcount (m : List (List Int)) (k : Nat) : Nat := ((List.range m.length).filter fun i : Nat => van m k i).length
theorem vcount_le (m : List (List Int)) (k : Nat) : vcount m k ≤ m.length := by
  have := List.length_filter_le (fun i : Nat => van m k i) (List.range m.length)
  simpa [vcount] using this
theorem van_still {m : List (List Int)} (hm : IsMor m) {k : Nat} (h : ∀ i : Nat, i < m.length → van m (k + 1) i = van m k i) : ∀ (j : Nat) (i : Nat), i < m.length → van m (k + j) i = van m k i
  | 0, i, hi => rfl
  | j + 1, i, hi => by
    rw [← h i hi]
    show (img m i).all (van m (k + j)) = (img m i).all (van m k)
    have him := hm.img (x := i) (by omega) (by omega)
    have : ∀ y ∈ img m i, van m (k + j) y = van m k y := fun y hy => by
      have h1 := him.2.2 y hy
      have h2 := van_still hm h j y.toNat (by omega)
      rwa [show ((y.toNat : Nat) : Int) = y from by omega] at h2
    rw [Bool.eq_iff_iff, List.all_eq_true, List.all_eq_true]
    exact ⟨fun h y hy => by rw [← this y hy]; exact h y hy, fun h y hy => by rw [this y hy]; exact h y hy⟩
theorem filter_lt {α : Type} (l : List α) (p q : α → Bool) (h : ∀ x ∈ l, p x = true → q x = true) {y : α} (hy : y ∈ l) (h1 : q y = true) (h2 : p y = false) : (l.filter p).length < (l.filter q).length := by
  induction l with
  | nil => cases hy
  | cons x l ih =>
    have hle : ∀ (l : List α), (∀ x ∈ l, p x = true → q x = true) → (l.filter p).length ≤ (l.filter q).length := fun l hl => by
      induction l with
      | nil => simp
      | cons x l ih =>
        have h3 := hl x (by simp)
        have h4 := ih fun z hz => hl z (by simp [hz])
        by_cases hp : p x = true
        · simp [hp, h3 hp, h4]
        · by_cases hq : q x = true
          · simp [hp, hq]; omega
          · simp [hp, hq, h4]
    have hl := hle l fun z hz => h z (by simp [hz])
    rcases List.mem_cons.1 hy with rfl | hy'
    · simp [h1, h2]; omega
    · have h3 := ih (fun z hz => h z (by simp [hz])) hy'
      have h4 := h x (by simp)
      by_cases hp : p x = true
      · simp [hp, h4 hp, h3]
      · by_cases hq : q x = true
        · simp [hp, hq]; omega
        · simp [hp, hq, h3]
theorem van_steps {m : List (List Int)} (hm : IsMor m) : ∀ k : Nat, k ≤ vcount m k ∨ ∃ j, j < k ∧ ∀ i : Nat, i < m.length → van m (j + 1) i = van m j i
  | 0 => .inl (Nat.zero_le _)
  | k + 1 => by
    rcases van_steps hm k with h | ⟨j, hj, h⟩
    · by_cases hs : ∀ i : Nat, i < m.length → van m (k + 1) i = van m k i
      · exact .inr ⟨k, Nat.lt_succ_self _, hs⟩
      · refine .inl ?_
        obtain ⟨i, hi⟩ : ∃ i : Nat, ¬ (i < m.length → van m (k + 1) i = van m k i) := Classical.not_forall.1 hs
        have hil : i < m.length := Classical.byContradiction fun h => hi fun h' => absurd h' h
        have hne : van m (k + 1) i ≠ van m k i := fun e => hi fun _ => e
        have h1 : van m k i = false := by
          cases hv : van m k i with
          | false => rfl
          | true => exact absurd ((van_mono k i hv).trans hv.symm) hne
        have h2 : van m (k + 1) i = true := by
          cases hv : van m (k + 1) i with
          | true => rfl
          | false => exact absurd (hv.trans h1.symm) hne
        have := filter_lt (List.range m.length) (fun i : Nat => van m k i) (fun i : Nat => van m (k + 1) i) (fun x _ hx => van_mono k x hx) (y := i) (List.mem_range.2 hil) h2 h1
        unfold vcount at h ⊢
        omega
    · exact .inr ⟨j, by omega, h⟩
/-- What vanishes at all vanishes in as many steps as there are letters. -/
theorem van_end {m : List (List Int)} (hm : IsMor m) {x : Int} (hx : 0 ≤ x ∧ x < (m.length : Int)) {j : Nat} (h : van m j x = true) : van m m.length x = true := by
  by_cases hj : j ≤ m.length
  · exact van_le' h hj
  · have e : ((x.toNat : Nat) : Int) = x := by omega
    obtain ⟨k, hk, hs⟩ : ∃ k, k < m.length + 1 ∧ ∀ i : Nat, i < m.length → van m (k + 1) i = van m k i := by
      rcases van_steps hm (m.length + 1) with h1 | h1
      · have := vcount_le m (m.length + 1); omega
      · exact h1
    have h2 := van_still hm hs (j - k) x.toNat (by omega)
    rw [show k + (j - k) = j from by omega, e] at h2
    rw [h2] at h
    exact van_le' h (by omega)
def allVan (m : List (List Int)) (k : Nat) (w : List Int) : Bool := w.all (van m k)
theorem allVan_zero (m : List (List Int)) (w : List Int) : allVan m 0 w = true ↔ w = [] := by
  unfold allVan
  cases w with
  | nil => simp
  | cons x w => simp [van]
theorem allVan_app (m : List (List Int)) (k : Nat) (w : List Int) : allVan m k (appL m w) = allVan m (k + 1) w := by
  unfold allVan appL
  rw [List.all_flatMap]
  rfl
theorem allVan_congr {m : List (List Int)} {k : Nat} {u w : List Int} (h : ∀ x, x ∈ u ↔ x ∈ w) : allVan m k u = allVan m k w := by
  unfold allVan
  rw [Bool.eq_iff_iff, List.all_eq_true, List.all_eq_true]
  exact ⟨fun h' x hx => h' x ((h x).2 hx), fun h' x hx => h' x ((h x).1 hx)⟩
theorem allVan_end {m : List (List Int)} (hm : IsMor m) {w : List Int} (hw : ∀ x ∈ w, 0 ≤ x ∧ x < (m.length : Int)) {j : Nat} (hj : m.length ≤ j) : allVan m j w = allVan m m.length w := by
  unfold allVan
  rw [Bool.eq_iff_iff, List.all_eq_true, List.all_eq_true]
  exact ⟨fun h x hx => van_end hm (hw x hx) (h x hx), fun h x hx => van_le' (h x hx) hj⟩
/-- The different letters after j steps, in the order in which they are found. -/
def rst (m : List (List Int)) (w : List Int) : Nat → List Int
  | 0 => w
  | j + 1 => dist (appL m (rst m w j))
theorem rst_in {m : List (List Int)} (hm : IsMor m) {w : List Int} (hw : ∀ x ∈ w, 0 ≤ x ∧ x < (m.length : Int)) : ∀ j : Nat, ∀ x ∈ rst m w j, 0 ≤ x ∧ x < (m.length : Int)
  | 0 => hw
  | j + 1 => fun x hx => hm.app_in (rst_in hm hw j) x (mem_dist.1 hx)
theorem rst_van (m : List (List Int)) (w : List Int) : ∀ (j k : Nat), allVan m k (rst m w j) = allVan m (k + j) w
  | 0, k => rfl
  | j + 1, k => by
    show allVan m k (dist (appL m (rst m w j))) = _
    rw [allVan_congr (u := dist (appL m (rst m w j))) (w := appL m (rst m w j)) (fun x => mem_dist), allVan_app, rst_van m w j (k + 1), show k + 1 + j = k + (j + 1) from by omega]
theorem rst_end {m : List (List Int)} (hm : IsMor m) {w : List Int} (hw : ∀ x ∈ w, 0 ≤ x ∧ x < (m.length : Int)) : decide (0 < (rst m w (m.length + 1)).length) = !allVan m m.length w := by
  rw [← allVan_end hm hw (j := m.length + 1) (by omega), show m.length + 1 = 0 + (m.length + 1) from by omega, ← rst_van m w (m.length + 1) 0, show 0 + (m.length + 1) = m.length + 1 from by omega]
  cases hr : rst m w (m.length + 1) with
  | nil => simp [allVan]
  | cons x l => simp [allVan, van]
/-- The letter a grows. -/
def growB (m : List (List Int)) (a : Int) : Bool := morB m && letB m a && decide (2 ≤ (img m a).length ∧ (img m a).getD 0 0 = a) && !allVan m m.length ((img m a).drop 1)

/-- How a fixed word is made: letter by letter the images are put behind it. -/
def fxL (m : List (List Int)) (a : Int) : Nat → List Int
  | 0 => img m a
  | i + 1 => fxL m a i ++ img m ((fxL m a i).getD (i + 1) 0)
/-- The word with a in front and y behind that, of which h takes every beginning to a longer one. -/
structure Grows (m : List (List Int)) (a : Int) : Prop where
  mor : IsMor m
  let_ : 0 ≤ a ∧ a < (m.length : Int)
  head : ∃ y, img m a = a :: y ∧ y ≠ [] ∧ ∀ j, allVan m j y = false
theorem grows_of {m : List (List Int)} {a : Int} (h : growB m a = true) : Grows m a := by
  simp only [growB, Bool.and_eq_true, decide_eq_true_eq, letB, Bool.not_eq_true'] at h
  obtain ⟨⟨⟨h1, h2⟩, h3, h4⟩, h5⟩ := h
  have hm := morB_out h1
  refine ⟨hm, h2, (img m a).drop 1, ?_, ?_, fun j => ?_⟩
  · cases hi : img m a with
    | nil => rw [hi] at h3; simp at h3
    | cons x y => rw [hi] at h4; simp at h4; simp [h4]
  · intro e
    have := congrArg List.length e
    simp at this; omega
  · cases hv : allVan m j ((img m a).drop 1) with
    | false => rfl
    | true =>
      have hw : ∀ x ∈ (img m a).drop 1, 0 ≤ x ∧ x < (m.length : Int) := fun x hx => (hm.img h2.1 h2.2).2.2 x (List.mem_of_mem_drop hx)
      have : allVan m m.length ((img m a).drop 1) = true := by
        unfold allVan at hv ⊢
        rw [List.all_eq_true] at hv ⊢
        exact fun x hx => van_end hm (hw x hx) (hv x hx)
      rw [this] at h5; cases h5
def appN (m : List (List Int)) : Nat → List Int → List Int
  | 0, w => w
  | k + 1, w => appN m k (appL m w)
theorem appN_nil_iff (m : List (List Int)) : ∀ (k : Nat) (w : List Int), appN m k w = [] ↔ allVan m k w = true
  | 0, w => (allVan_zero m w).symm
  | k + 1, w => by
    rw [← allVan_app]
    exact appN_nil_iff m k (appL m w)
theorem appN_append (m : List (List Int)) : ∀ (k : Nat) (u w : List Int), appN m k (u ++ w) = appN m k u ++ appN m k w
  | 0, u, w => rfl
  | k + 1, u, w => by show appN m k (appL m (u ++ w)) = _; rw [appL_append, appN_append m k]; rfl
theorem no_fixed {m : List (List Int)} {y : List Int} (h : ∀ j, allVan m j y = false) : ∀ (k : Nat) (x : List Int), (∃ j, x = appN m j y ++ appL m x) → k ≤ x.length := by
  intro k
  -- x = h^j(y) h(x): then h(x) = h^(j+1)(y) h(h(x)), shorter by one letter at least
  have step : ∀ (k j : Nat) (x : List Int), x = appN m j y ++ appL m x → k ≤ x.length := by
    intro k
    induction k with
    | zero => intro j x _; exact Nat.zero_le _
    | succ k ih =>
      intro j x hx
      have hne : appN m j y ≠ [] := fun e => by
        have := (appN_nil_iff m j y).1 e
        rw [h j] at this; cases this
      have hl := List.length_pos_iff.2 hne
      have hs : appN m (j + 1) y = appL m (appN m j y) := by
        have : ∀ (j : Nat) (u : List Int), appN m j (appL m u) = appL m (appN m j u) := fun j => by
          induction j with
          | zero => intro u; rfl
          | succ j ih2 => intro u; exact ih2 (appL m u)
        exact this j y
      have h2 : appL m x = appN m (j + 1) y ++ appL m (appL m x) := by
        have := congrArg (appL m) hx
        rw [appL_append, ← hs] at this
        exact this
      have h3 := ih (j + 1) (appL m x) h2
      have h4 := congrArg List.length hx
      rw [List.length_append] at h4
      omega
  rintro x ⟨j, hx⟩
  exact step k j x hx
theorem fx_len_mono (m : List (List Int)) (a : Int) (i : Nat) : (fxL m a i).length ≤ (fxL m a (i + 1)).length := by
  show _ ≤ (fxL m a i ++ _).length
  rw [List.length_append]; omega
theorem fx_prefix (m : List (List Int)) (a : Int) (i : Nat) : fxL m a i <+: fxL m a (i + 1) := ⟨_, rfl⟩
theorem Grows.fx {m : List (List Int)} {a : Int} (h : Grows m a) : ∀ i : Nat, i + 1 < (fxL m a i).length ∧ (∀ x ∈ fxL m a i, 0 ≤ x ∧ x < (m.length : Int)) ∧ fxL m a i = appL m ((fxL m a i).take (i + 1)) ∧ (fxL m a i)[0]? = some a := by
  obtain ⟨y, hy, hne, hv⟩ := h.head
  have key : ∀ i : Nat, (∀ x ∈ fxL m a i, 0 ≤ x ∧ x < (m.length : Int)) → fxL m a i = appL m ((fxL m a i).take (i + 1)) → (fxL m a i)[0]? = some a → i + 1 < (fxL m a i).length := by
    intro i _ h2 h3
    refine Classical.byContradiction fun hlt => ?_
    have hle : (fxL m a i).length ≤ i + 1 := by omega
    rw [List.take_of_length_le hle] at h2
    obtain ⟨x, hx⟩ : ∃ x, fxL m a i = a :: x := by
      cases hf : fxL m a i with
      | nil => rw [hf] at h3; cases h3
      | cons z x => rw [hf] at h3; simp at h3; exact ⟨x, by rw [h3]⟩
    rw [hx, appL_cons, hy] at h2
    have h4 : x = y ++ appL m x := by simpa using h2
    have := no_fixed hv (x.length + 1) x ⟨0, h4⟩
    omega
  intro i
  induction i with
  | zero =>
    have h1 : (∀ x ∈ fxL m a 0, 0 ≤ x ∧ x < (m.length : Int)) := (h.mor.img h.let_.1 h.let_.2).2.2
    have h3 : (fxL m a 0)[0]? = some a := by show (img m a)[0]? = _; rw [hy]; rfl
    have h2 : fxL m a 0 = appL m ((fxL m a 0).take (0 + 1)) := by
      show img m a = appL m ((img m a).take 1)
      rw [hy]
      show a :: y = appL m [a]
      rw [appL_one, hy]
    exact ⟨key 0 h1 h2 h3, h1, h2, h3⟩
  | succ i ih =>
    obtain ⟨h0, h1, h2, h3⟩ := ih
    have hx : (fxL m a i)[i + 1]? = some ((fxL m a i).getD (i + 1) 0) := by
      rw [List.getElem?_eq_getElem h0]; simp [List.getD, h0]
    have hxm := h1 _ (List.mem_of_getElem? hx)
    have g1 : ∀ x ∈ fxL m a (i + 1), 0 ≤ x ∧ x < (m.length : Int) := fun x hx' => by
      rcases List.mem_append.1 hx' with h4 | h4
      · exact h1 x h4
      · exact (h.mor.img hxm.1 hxm.2).2.2 x h4
    have g2 : fxL m a (i + 1) = appL m ((fxL m a (i + 1)).take (i + 1 + 1)) := by
      have e1 : (fxL m a (i + 1)).take (i + 1 + 1) = (fxL m a i).take (i + 1 + 1) := by
        show (fxL m a i ++ _).take _ = _
        exact List.take_append_of_le_length (by omega)
      rw [e1, appL_take_succ hx, ← h2]
      rfl
    have g3 : (fxL m a (i + 1))[0]? = some a := by
      show (fxL m a i ++ _)[0]? = _
      rw [List.getElem?_append_left (by omega)]
      exact h3
    exact ⟨key (i + 1) g1 g2 g3, g1, g2, g3⟩
theorem Grows.fx_next {m : List (List Int)} {a : Int} (h : Grows m a) (i : Nat) : ∃ (x : Nat) (r : List Int), (fxL m a i)[i + 1]? = some (x : Int) ∧ x < m.length ∧ m[x]? = some r ∧ r.length ≤ 8 ∧ fxL m a (i + 1) = fxL m a i ++ r := by
  obtain ⟨h0, h1, h2, h3⟩ := h.fx i
  have hx : (fxL m a i)[i + 1]? = some ((fxL m a i).getD (i + 1) 0) := by
    rw [List.getElem?_eq_getElem h0]; simp [List.getD, h0]
  have hxm := h1 _ (List.mem_of_getElem? hx)
  obtain ⟨h4, h5, _⟩ := h.mor.img hxm.1 hxm.2
  have e : ((((fxL m a i).getD (i + 1) 0).toNat : Nat) : Int) = (fxL m a i).getD (i + 1) 0 := by omega
  exact ⟨((fxL m a i).getD (i + 1) 0).toNat, _, by rw [e]; exact hx, by omega, h4, h5, rfl⟩
theorem Grows.fx_first {m : List (List Int)} {a : Int} (h : Grows m a) : ∃ x : Nat, (x : Int) = a ∧ x < m.length ∧ m[x]? = some (fxL m a 0) ∧ 2 ≤ (fxL m a 0).length ∧ (fxL m a 0).length ≤ 8 := by
  obtain ⟨h4, h5, _⟩ := h.mor.img h.let_.1 h.let_.2
  have := (h.fx 0).1
  exact ⟨a.toNat, by have := h.let_; omega, by have := h.let_; omega, h4, by omega, h5⟩
theorem fx_le {m : List (List Int)} {a : Int} (i : Nat) : ∀ j : Nat, fxL m a i <+: fxL m a (i + j)
  | 0 => List.prefix_rfl
  | j + 1 => (fx_le i j).trans (fx_prefix m a (i + j))
theorem fx_take {m : List (List Int)} {a : Int} {i j n : Nat} (hi : n ≤ (fxL m a i).length) (hj : n ≤ (fxL m a j).length) : (fxL m a i).take n = (fxL m a j).take n := by
  have : ∀ {i j : Nat}, i ≤ j → n ≤ (fxL m a i).length → (fxL m a i).take n = (fxL m a j).take n := fun {i j} hij h1 => by
    obtain ⟨t, ht⟩ := fx_le (m := m) (a := a) i (j - i)
    rw [show i + (j - i) = j from by omega] at ht
    rw [← ht, List.take_append_of_le_length h1]
  rcases Nat.le_total i j with h | h
  · exact this h hi
  · exact (this h hj).symm
def fixK (m : List (List Int)) (a n : Int) : Bool := growB m a && decide (0 ≤ n ∧ n ≤ 256)
def fixV (m : List (List Int)) (a n : Int) : List Int := if fixK m a n = true then (fxL m a n.toNat).take n.toNat else []
theorem fixV_len (m : List (List Int)) (a n : Int) : (fixV m a n).length ≤ 256 := by
  unfold fixV
  split
  · rename_i h
    simp only [fixK, Bool.and_eq_true, decide_eq_true_eq] at h
    rw [List.length_take]; omega
  · simp
/-- A morphism out of a sequence, a sequence out of a morphism. -/
def moR (b : Int) (rows : List (List Int)) (out : List Int) : List (List Int) := if steadyB b rows out = true then rows else []
def sqK (m : List (List Int)) (c : List Int) : Bool := morB m && steadyB ((m.getD 0 []).length : Int) m c
def sqB (m : List (List Int)) (c : List Int) : Int := if sqK m c = true then ((m.getD 0 []).length : Int) else 0
def sqR (m : List (List Int)) (c : List Int) : List (List Int) := if sqK m c = true then m else []
def sqO (m : List (List Int)) (c : List Int) : List Int := if sqK m c = true then c else []
end Go.Proofs.YtidfgfgokcflfaaGreat.Plain
/- Plain facts on the parts of a word, on those that are followed by two letters, on what lies between two places of a part. No conditions beyond those that each fact states. -/
namespace Go.Proofs.YtidfgfgokcflfaaGreat.Plain
/-- The parts of n letters, place by place. -/
def wins (xs : List Int) (n : Nat) : List (List Int) := (List.range (xs.length + 1 - n)).map fun i => (xs.drop i).take n
theorem wins_len (xs : List Int) (n : Nat) : (wins xs n).length = xs.length + 1 - n := by simp [wins]
theorem wins_take {xs : List Int} {n i : Nat} (h : i + n ≤ xs.length) : (wins xs n).take (i + 1) = (wins xs n).take i ++ [(xs.drop i).take n] := by
  rw [List.take_succ_eq_append_getElem (by rw [wins_len]; omega)]
  simp [wins]
theorem wins_all {xs : List Int} {n i : Nat} (h : i = xs.length + 1 - n) : (wins xs n).take i = wins xs n := List.take_of_length_le (by rw [wins_len]; omega)
theorem wins_row {xs : List Int} {n : Nat} {p : List Int} (h : p ∈ wins xs n) : p.length = n := by
  simp only [wins, List.mem_map, List.mem_range] at h
  obtain ⟨i, hi, rfl⟩ := h
  rw [List.length_take, List.length_drop]
  omega
def facB (xs : List Int) : Bool := wordB xs 16 && decide (xs.length ≤ 128)
def facK (xs : List Int) (n : Int) : Bool := facB xs && decide (0 ≤ n ∧ n ≤ 40)
def facV (xs : List Int) (n : Int) : List (List Int) := if facK xs n = true then sdl (wins xs n.toNat) else []
theorem facK_out {xs : List Int} {n : Int} (h : facK xs n = true) : wordB xs 16 = true ∧ xs.length ≤ 128 ∧ 0 ≤ n ∧ n ≤ 40 := by
  simp only [facK, facB, Bool.and_eq_true, decide_eq_true_eq] at h
  exact ⟨h.1.1, h.1.2, h.2.1, h.2.2⟩
theorem facB_yes {xs : List Int} (h1 : wordB xs 16 = true) (h2 : xs.length ≤ 128) : facB xs = true := by simp [facB, h1, h2]
theorem facK_yes {xs : List Int} {n : Int} (h1 : wordB xs 16 = true) (h2 : xs.length ≤ 128) (h3 : 0 ≤ n) (h4 : n ≤ 40) : facK xs n = true := by simp [facK, facB_yes h1 h2, h3, h4]
theorem facB_no1 {xs : List Int} (h : wordB xs 16 = false) : facB xs = false := by simp [facB, h]
theorem facB_no2 {xs : List Int} (h : ¬ xs.length ≤ 128) : facB xs = false := by simp [facB]; intros; omega
theorem facK_no {xs : List Int} {n : Int} (h : facB xs = false) : facK xs n = false := by simp [facK, h]
theorem facK_no3 {xs : List Int} {n : Int} (h : ¬ (0 ≤ n ∧ n ≤ 40)) : facK xs n = false := by simp only [facK, decide_eq_false h, Bool.and_false]
theorem facV_no {xs : List Int} {n : Int} (h : facK xs n = false) : facV xs n = [] := by simp [facV, h]
theorem facV_yes {xs : List Int} {n : Nat} (h : facK xs n = true) : facV xs n = sdl (wins xs n) := by simp [facV, h]
theorem facV_row {xs : List Int} {n : Int} {p : List Int} (h : p ∈ facV xs n) : (p.length : Int) = n := by
  unfold facV at h
  split at h
  · rename_i hk
    have := wins_row ((sdl_mem _ _).1 h)
    have := facK_out hk
    omega
  · cases h
theorem facV_len (xs : List Int) (n : Int) : (facV xs n).length ≤ 129 := by
  unfold facV
  split
  · rename_i hk
    have h1 := sdl_len (wins xs n.toNat)
    have h2 := wins_len xs n.toNat
    have h3 := facK_out hk
    omega
  · simp
theorem tot_le {rows : List (List Int)} {n : Nat} (h : ∀ r ∈ rows, r.length ≤ n) : tot rows ≤ rows.length * n := by
  induction rows with
  | nil => simp [tot]
  | cons r rows ih =>
    have h1 := ih fun x hx => h x (by simp [hx])
    have h2 := h r (by simp)
    have : tot (r :: rows) = r.length + tot rows := by simp [tot]
    rw [this, List.length_cons, Nat.add_mul]
    omega
theorem facV_size (xs : List Int) (n : Int) : tot (facV xs n) ≤ 5160 := by
  by_cases hk : facK xs n = true
  · have h1 := facK_out hk
    have h2 := tot_le (rows := facV xs n) (n := 40) fun r hr => by have := facV_row hr; omega
    have h3 := facV_len xs n
    omega
  · rw [facV_no (by simpa using hk)]
    simp [tot]
def cntV (xs : List Int) (n : Int) : Int := if facK xs n = true then (facV xs n).length else -1
theorem cntV_no {xs : List Int} {n : Int} (h : facK xs n = false) : cntV xs n = -1 := by simp [cntV, h]
theorem cntV_yes {xs : List Int} {n : Int} (h : facK xs n = true) : cntV xs n = (facV xs n).length := by simp [cntV, h]
/-- The different letters that stand m places behind the places of a list. -/
def addN (l : List Int) (x : Int) : List Int := if x ∈ l then l else l ++ [x]
def folT (xs : List Int) (m : Nat) (at_ : List Int) (k : Nat) : List Int := (at_.take k).foldl (fun l i => if h : (i.toNat + m) < xs.length then addN l xs[i.toNat + m] else l) []
def folls (xs : List Int) (m : Nat) (at_ : List Int) : List Int := folT xs m at_ at_.length
theorem folT_zero (xs : List Int) (m : Nat) (at_ : List Int) : folT xs m at_ 0 = [] := rfl
theorem folT_none {xs : List Int} {m : Nat} {at_ : List Int} {k : Nat} {i : Int} (h : at_[k]? = some i) (hn : xs.length ≤ i.toNat + m) : folT xs m at_ (k + 1) = folT xs m at_ k := by
  obtain ⟨h1, h2⟩ := List.getElem?_eq_some_iff.1 h
  unfold folT
  rw [List.take_succ_eq_append_getElem h1, List.foldl_append, h2]
  simp [show ¬ i.toNat + m < xs.length from by omega]
theorem folT_some {xs : List Int} {m : Nat} {at_ : List Int} {k : Nat} {i x : Int} (h : at_[k]? = some i) (hx : xs[i.toNat + m]? = some x) : folT xs m at_ (k + 1) = addN (folT xs m at_ k) x := by
  obtain ⟨h1, h2⟩ := List.getElem?_eq_some_iff.1 h
  obtain ⟨h3, h4⟩ := List.getElem?_eq_some_iff.1 hx
  unfold folT
  rw [List.take_succ_eq_append_getElem h1, List.foldl_append, h2]
  simp [h3, h4]
theorem addN_has {l : List Int} {x : Int} (h : x ∈ l) : addN l x = l := by simp [addN, h]
theorem addN_new {l : List Int} {x : Int} (h : ¬ x ∈ l) : addN l x = l ++ [x] := by simp [addN, h]
theorem addN_len (l : List Int) (x : Int) : (addN l x).length ≤ l.length + 1 := by
  unfold addN
  split <;> simp
theorem folT_len (xs : List Int) (m : Nat) (at_ : List Int) : ∀ k, (folT xs m at_ k).length ≤ k
  | 0 => by simp [folT]
  | k + 1 => by
    have ih := folT_len xs m at_ k
    cases h : at_[k]? with
    | none =>
      have h1 := List.getElem?_eq_none_iff.1 h
      have : folT xs m at_ (k + 1) = folT xs m at_ k := by
        unfold folT
        rw [List.take_of_length_le (by omega), List.take_of_length_le (by omega)]
      rw [this]; omega
    | some i =>
      by_cases hn : xs.length ≤ i.toNat + m
      · rw [folT_none h hn]; omega
      · rw [folT_some h (List.getElem?_eq_getElem (by omega))]
        have := addN_len (folT xs m at_ k) (xs[i.toNat + m]'(by omega))
        omega
theorem folT_all {xs : List Int} {m : Nat} {at_ : List Int} {k : Nat} (h : k = at_.length) : folT xs m at_ k = folls xs m at_ := by rw [h]; rfl
/-- Is a part followed by two letters at least. -/
def rsB (xs p : List Int) : Bool := decide (2 ≤ (folls xs p.length (occ xs p)).length)
def rsV (xs : List Int) (n : Int) : List (List Int) := (facV xs n).filter (rsB xs)
theorem rsV_size (xs : List Int) (n : Int) : tot (rsV xs n) ≤ 5160 := by
  by_cases hk : facK xs n = true
  · have h1 := facK_out hk
    have h2 := tot_le (rows := rsV xs n) (n := 40) fun r hr => by have := facV_row (List.mem_filter.1 hr).1; omega
    have h3 := facV_len xs n
    have h4 : (rsV xs n).length ≤ (facV xs n).length := List.length_filter_le _ _
    omega
  · rw [rsV, facV_no (by simpa using hk)]
    simp [tot]
theorem filter_take {α : Type} {p : α → Bool} {l : List α} {k : Nat} {x : α} (h : l[k]? = some x) : (l.take (k + 1)).filter p = (l.take k).filter p ++ if p x = true then [x] else [] := by
  obtain ⟨h1, rfl⟩ := List.getElem?_eq_some_iff.1 h
  rw [List.take_succ_eq_append_getElem h1, List.filter_append]
  congr 1
  by_cases hp : p l[k] = true <;> simp [hp]
/-- What lies between one place and the next. -/
def segT (xs at_ : List Int) (k : Nat) : List (List Int) := (List.range k).map fun j => (xs.drop (at_.getD j 0).toNat).take ((at_.getD (j + 1) 0).toNat - (at_.getD j 0).toNat)
def segs (xs at_ : List Int) : List (List Int) := segT xs at_ (at_.length - 1)
theorem segT_len (xs at_ : List Int) (k : Nat) : (segT xs at_ k).length = k := by simp [segT]
theorem segT_succ {xs at_ : List Int} {k a b : Nat} (ha : at_[k]? = some (a : Int)) (hb : at_[k + 1]? = some (b : Int)) : segT xs at_ (k + 1) = segT xs at_ k ++ [(xs.drop a).take (b - a)] := by
  simp only [segT, List.range_succ, List.map_append, List.map_cons, List.map_nil]
  simp [List.getD, ha, hb]
def retK (xs ys : List Int) : Bool := facB xs && decide (0 < ys.length)
def retV (xs ys : List Int) : List (List Int) := if retK xs ys = true then sdl (segs xs (occ xs ys)) else []
theorem retK_no1 {xs ys : List Int} (h : facB xs = false) : retK xs ys = false := by simp [retK, h]
theorem retK_no2 {xs ys : List Int} (h : ys.length = 0) : retK xs ys = false := by simp [retK, h]
theorem retV_no {xs ys : List Int} (h : retK xs ys = false) : retV xs ys = [] := by simp [retV, h]
theorem retV_yes {xs ys : List Int} (h : facB xs = true) (h2 : 0 < ys.length) : retV xs ys = sdl (segs xs (occ xs ys)) := by simp [retV, retK, h, h2]
theorem retV_size (xs ys : List Int) : tot (retV xs ys) ≤ 20000 := by
  unfold retV
  split
  · rename_i hk
    simp only [retK, facB, Bool.and_eq_true, decide_eq_true_eq] at hk
    have h2 := tot_le (rows := sdl (segs xs (occ xs ys))) (n := 128) fun r hr => by
      have := (sdl_mem _ _).1 hr
      simp only [segs, segT, List.mem_map, List.mem_range] at this
      obtain ⟨i, hi, rfl⟩ := this
      rw [List.length_take, List.length_drop]
      omega
    have h3 := sdl_len (segs xs (occ xs ys))
    have h4 := occ_len xs ys
    have h5 : (segs xs (occ xs ys)).length = (occ xs ys).length - 1 := segT_len _ _ _
    have h6 : (sdl (segs xs (occ xs ys))).length * 128 ≤ 129 * 128 := Nat.mul_le_mul_right _ (by omega)
    omega
  · simp [tot]
/-- How many parts there are of each length up to n. -/
def compT (xs : List Int) (k : Nat) : List Int := (List.range k).map fun j : Nat => cntV xs j
def compV (xs : List Int) (n : Int) : List Int := if facK xs n = true then compT xs (n.toNat + 1) else []
theorem compT_succ (xs : List Int) (k : Nat) : compT xs (k + 1) = compT xs k ++ [cntV xs k] := by simp [compT, List.range_succ]
theorem compT_len (xs : List Int) (k : Nat) : (compT xs k).length = k := by simp [compT]
theorem compV_len (xs : List Int) (n : Int) : (compV xs n).length ≤ 41 := by
  unfold compV
  split
  · rename_i h
    have := facK_out h
    rw [compT_len]
    omega
  · simp
end Go.Proofs.YtidfgfgokcflfaaGreat.Plain
