/- Contracts of the model's borders, periods and root of a word. No conditions beyond those that each states. -/
import Derived.Test.YtojmlhcgghaceaaBorVal
import Derived.Test.YtojmlhcgghaceaaCmp
import Derived.BigQuiet
import Derived.Deep.RegionHeld3
import Derived.Deep.DeepCutAuto
namespace Go.Proofs.Ytojmlhcgghaceaa
open Go.ChangeShapes Go.WideShapes Go.ChangeAt Go.RowKit
open Go.PlainAid Plain
set_option linter.unusedVariables false
namespace Fac
/-- The longest borders of the first 1, 2, .. letters. -/
def blT (u : List Int) (i : Nat) : List Int := (List.range i).map fun k => bd u (k + 1)
theorem blT_at (u : List Int) {i j : Nat} (h : j < i) : (blT u i)[j]? = some (bd u (j + 1)) := by simp [blT, h]
theorem blT_len (u : List Int) (i : Nat) : (blT u i).length = i := by simp [blT]
theorem blT_succ (u : List Int) (i : Nat) : blT u (i + 1) = blT u i ++ [bd u (i + 1)] := by simp [blT, List.range_succ]
theorem lies_cell {w : World} {a : Option Addr} {n c : Nat} {xs : List Int} {i : Nat} {x : Int} (h : Lies (Value.int .i64) w (.slice a n c) xs) (hx : xs[i]? = some x) : ∃ b off, a = some ⟨b, off, none⟩ ∧ w.cell? ⟨b, off + i, none⟩ = some (.int .i64 x) := by
  obtain ⟨_, a', c', hv, _, hc⟩ := h
  injection hv with e1 e2 e3
  subst e1
  exact hc i x hx
theorem lies_shape {w : World} {v : Value} {xs : List Int} (h : Lies (Value.int .i64) w v xs) : ∃ a c, v = .slice a xs.length c := by
  obtain ⟨_, a, c, rfl, _⟩ := h
  exact ⟨a, c, rfl⟩
set_option maxRecDepth 100000 in
set_option maxHeartbeats 2000000 in
theorem spec_l9 (v : Value) (u : List Int) (w : World) (h : Lies (Value.int .i64) w v u) (hs : u.length ≤ 4194304) :
    Calls Try.prog 68 #[v] w (Gives (Value.int .i64) 3 (blT u u.length) w) := by
  obtain ⟨i0, hi, hz0, hz1, hz2⟩ := info_parts Ints.infoI
  obtain ⟨pa, pc, rfl⟩ := lies_shape h
  have HU := Lib.hid h
  have HB : Hid (Below w.heap.size w (w.alloc (Obj.cells #[] 3))) := (Below.refl _ _).alloc (Nat.le_refl _) _
  have HO : Hid (Has (Value.int .i64) 3 (w.alloc (Obj.cells #[] 3)) w.heap.size (.slice (some ⟨w.heap.size, 0, none⟩) 0 0) []) := has_lit0 rfl (Nat.le_refl _)
  clear h
  go_enter Try.func68, Try.ntmps68
  go_wp2
  go_loopw [3, 4, 5] (fun o' k' i' wr => ∃ (i k : Nat) (vo : Value), i ≤ u.length ∧ k ≤ i ∧ k' = .int .i64 k ∧ i' = .int .i64 i ∧ vo = o' ∧ Hid (0 < i → (k : Int) = bd u i) ∧ Hid (Has (Value.int .i64) 3 wr w.heap.size vo (blT u i)) ∧ Hid (Below w.heap.size w wr)) (fun _ _ i' _ => u.length - (intOf i').toNat)
  case atStart => exact ⟨0, 0, _, Nat.zero_le _, Nat.le_refl _, rfl, rfl, rfl, fun h => by omega, HO, HB⟩
  case round =>
    obtain ⟨i, k, vo, hi', hki, rfl, rfl, rfl, HK, HOr, HBr⟩ := hrel
    obtain ⟨oa, oc, rfl, _⟩ := HOr.out.form
    by_cases hlt : i < u.length
    · obtain ⟨x, hx⟩ : ∃ x, u[i]? = some x := ⟨_, List.getElem?_eq_getElem hlt⟩
      have HS := Lib.hid (blT_succ u i)
      by_cases h0 : i = 0
      · subst h0
        obtain rfl : k = 0 := by omega
        have HG : Hid ((0 : Int) = bd u (0 + 1)) := by show _ = _; rw [bd_succ hx, bd_zero, fa_none]
        have HL := Lib.hid (blT_len u 0)
        clear hx
        go_wp2_with (refine append_one (enc := (Value.int .i64)) (e := 3) wr rfl _ _ 22 rfl w.heap.size i0 (.int .i64 0) 8 Try.underlying22 hi hz0 hz1 hz2 rfl (.slice oa (blT u 0).length oc) (blT u 0) rfl HOr.out (0 : Int) rfl (fun _ => rfl) (by have := HL.out; omega) (by have := HL.out; omega) (HBr.out).size ?_; intro v' w4 ho hg; have HO4 := Lib.hid ho; have HB4 := Lib.hid ((HOr.out).frame (HBr.out) (Nat.le_refl _) hg); clear hg ho)
        go_roundw
        case rel => exact ⟨1, 0, _, by omega, by omega, rfl, rfl, rfl, fun _ => HG.out, by show Has _ _ _ _ _ _; rw [HS.out, ← HG.out]; exact HO4, HB4⟩
        case measure => simp [intOf]; omega
      · have hd0 : ((i : Int) == 0) = false := by simpa using h0
        have hbg := bd_succ hx
        rw [← HK.out (by omega)] at hbg
        have HX := Lib.hid hx
        have HF := Lib.hid hbg
        have hkl := bd_ge u i
        rw [← HK.out (by omega)] at hkl
        have hkl2 : k < i := by omega
        obtain ⟨p, o, hpa, hc1⟩ := lies_cell HU.out hx
        have HC1 := Lib.hid hc1
        subst hpa
        have HL := Lib.hid (blT_len u i)
        have HBL : Hid (∀ j, j < i → (blT u i)[j]? = some (bd u (j + 1))) := fun j hj => blT_at u hj
        obtain ⟨L, hL⟩ : ∃ L, L = blT u i := ⟨_, rfl⟩
        rw [← hL] at HOr HL HS HBL ⊢
        clear hL
        clear hx hbg hc1 hkl HK
        have hne : 0 < i := by omega
        go_wp2
        obtain ⟨W6, hW6⟩ : ∃ W : World, W = wr := ⟨_, rfl⟩
        rw [← hW6] at HOr HBr ⊢
        clear hW6
        go_loopw [4] (fun k' wr => ∃ k : Nat, k < i ∧ k' = .int .i64 k ∧ Hid (bd u (i + 1) = fa u k x) ∧ Hid (Has (Value.int .i64) 3 wr w.heap.size (.slice oa L.length oc) L) ∧ Hid (Below w.heap.size w wr)) (fun k' _ => (intOf k').toNat)
        case atStart => exact ⟨k, by omega, rfl, HF, HOr, HBr⟩
        case round =>
          obtain ⟨k, hk, rfl, HF, HOs, HBs⟩ := hrel
          obtain ⟨y, hy⟩ : ∃ y, u[k]? = some y := ⟨_, List.getElem?_eq_getElem (by omega)⟩
          obtain ⟨_, _, hpa, hc2⟩ := lies_cell (HU.out.below HBs.out) hy
          cases hpa
          have hc1 := (HBs.out.cell (p := ⟨p, o + i, none⟩) (World.block_lt_of_cell? _ _ HC1.out)).trans HC1.out
          have HY := Lib.hid hy
          clear hy
          by_cases hxy : y = x
          · subst hxy
            have HG : Hid ((k : Int) + 1 = bd u (i + 1)) := by rw [HF.out, fa_hit HY.out]; rfl
            have hd1 : (y != y) = false := by simp
            have hd2 : (y == y) = true := by simp
            by_cases hk0 : k = 0
            · subst hk0
              rw [Nat.add_zero] at hc2
              have hn0 : 0 < u.length := by omega
              go_wp2_with fail
              go_quiet (fail)
              go_wp2_with fail
              go_quiet (fail)
              go_wp2_with (refine append_one (enc := (Value.int .i64)) (e := 3) _ rfl _ _ 22 rfl w.heap.size i0 (.int .i64 0) 8 Try.underlying22 hi hz0 hz1 hz2 rfl (.slice oa L.length oc) L rfl (HOs.out.below (below_drewN (Below.refl _ _) _)) ((1 : Int)) rfl (fun _ => rfl) (by have := HL.out; omega) (by have := HL.out; omega) ((below_drewN HBs.out _)).size ?_; intro v' w4 ho hg; have HO4 := Lib.hid ho; have HB4 := Lib.hid (((HOs.out.below (below_drewN (Below.refl _ _) _))).frame ((below_drewN HBs.out _)) (Nat.le_refl _) hg); clear hg ho)
              go_roundw
              case rel => exact ⟨i + 1, 1, _, by omega, by omega, by go_num, by go_num, rfl, fun _ => HG.out, by show Has _ _ _ _ _ _; rw [HS.out, ← HG.out]; exact HO4, HB4⟩
              case measure => simp [intOf]; omega
            · have hkd := decide_eq_true (show 0 < k by omega)
              go_wp2_with fail
              go_quiet (fail)
              go_wp2_with fail
              go_quiet (fail)
              go_wp2_with (refine append_one (enc := (Value.int .i64)) (e := 3) _ rfl _ _ 22 rfl w.heap.size i0 (.int .i64 0) 8 Try.underlying22 hi hz0 hz1 hz2 rfl (.slice oa L.length oc) L rfl (HOs.out.below (below_drewN (Below.refl _ _) _)) ((k : Int) + 1) rfl (fun _ => rfl) (by have := HL.out; omega) (by have := HL.out; omega) ((below_drewN HBs.out _)).size ?_; intro v' w4 ho hg; have HO4 := Lib.hid ho; have HB4 := Lib.hid (((HOs.out.below (below_drewN (Below.refl _ _) _))).frame ((below_drewN HBs.out _)) (Nat.le_refl _) hg); clear hg ho)
              go_roundw
              case rel => exact ⟨i + 1, k + 1, _, by omega, by omega, by go_num, by go_num, rfl, fun _ => HG.out, by show Has _ _ _ _ _ _; rw [HS.out, ← HG.out]; exact HO4, HB4⟩
              case measure => simp [intOf]; omega
          · have hd1 : (x != y) = true := by simp; exact fun e => hxy e.symm
            have hd2 : (x == y) = false := by simp; exact fun e => hxy e.symm
            have hmiss := fa_miss (u := u) (k := k) (c := x) (fun h => hxy (Option.some.inj (HY.out.symm.trans h)))
            clear hxy
            by_cases hk0 : k = 0
            · subst hk0
              rw [Nat.add_zero] at hc2
              have hn0 : 0 < u.length := by omega
              have HG : Hid ((0 : Int) = bd u (i + 1)) := by rw [HF.out, hmiss]; rfl
              go_wp2_with fail
              go_quiet (fail)
              go_wp2_with fail
              go_quiet (fail)
              go_wp2_with (refine append_one (enc := (Value.int .i64)) (e := 3) _ rfl _ _ 22 rfl w.heap.size i0 (.int .i64 0) 8 Try.underlying22 hi hz0 hz1 hz2 rfl (.slice oa L.length oc) L rfl (HOs.out.below (below_drewN (Below.refl _ _) _)) ((0 : Int)) rfl (fun _ => rfl) (by have := HL.out; omega) (by have := HL.out; omega) ((below_drewN HBs.out _)).size ?_; intro v' w4 ho hg; have HO4 := Lib.hid ho; have HB4 := Lib.hid (((HOs.out.below (below_drewN (Below.refl _ _) _))).frame ((below_drewN HBs.out _)) (Nat.le_refl _) hg); clear hg ho)
              go_roundw
              case rel => exact ⟨i + 1, 0, _, by omega, by omega, by go_num, by go_num, rfl, fun _ => HG.out, by show Has _ _ _ _ _ _; rw [HS.out, ← HG.out]; exact HO4, HB4⟩
              case measure => simp [intOf]; omega
            · have hkd := decide_eq_true (show 0 < k by omega)
              obtain ⟨m, hm⟩ : ∃ m : Nat, bd u k = m := ⟨(bd u k).toNat, by have := bd_pos u (n := k) (by omega); omega⟩
              have hmk : m < k := by have := bd_ge u k; omega
              rw [hm] at hmiss
              have HF2 : Hid (bd u (i + 1) = fa u m x) := by rw [HF.out]; exact hmiss
              have hat := HBL.out (k - 1) (by omega)
              rw [show k - 1 + 1 = k from by omega, hm] at hat
              have HAT := Lib.hid hat
              clear hmiss hm hat
              obtain ⟨q, r, hoa, hc3⟩ := lies_cell HOs.out.lies HAT.out
              have HOA := Lib.hid hoa
              subst hoa
              have hkl3 : k ≤ L.length := by have := HL.out; omega
              go_wp2_with fail
              go_quiet (fail)
              obtain ⟨j, rfl⟩ : ∃ j, k = j + 1 := ⟨k - 1, by omega⟩
              rw [Nat.add_sub_cancel] at hc3
              have e1 : ((j + 1 : Nat) : Int) - 1 = (j : Int) := by omega
              have hjl : j < L.length := by omega
              go_wp2
              go_roundw
              case rel => exact ⟨m, by omega, rfl, HF2, Lib.hid (HOs.out.below (below_drewN (Below.refl _ _) _)), Lib.hid (below_drewN HBs.out _)⟩
              case measure => simp [intOf]; omega
    · have HE : Hid (Has (Value.int .i64) 3 wr w.heap.size (.slice oa (blT u i).length oc) (blT u u.length)) := by
        have h := HOr.out
        rw [show i = u.length from by omega] at h ⊢
        exact h
      have HL := Lib.hid (blT_len u i)
      obtain rfl : i = u.length := by omega
      go_wp2
      go_ret
      exact ⟨_, rfl, HE.out, HBr.out⟩
end Fac
end Go.Proofs.Ytojmlhcgghaceaa
