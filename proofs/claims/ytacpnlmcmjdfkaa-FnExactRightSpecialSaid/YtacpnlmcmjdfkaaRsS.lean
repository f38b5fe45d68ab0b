/- Contracts of the model's RightSpecial and ReturnWords. No conditions beyond those that each states. -/
import Derived.Test.YtacpnlmcmjdfkaaFacS
import Derived.Test.YtacpnlmcmjdfkaaOccS
import Derived.Deep.RegionHeld3
import Derived.Deep.DeepCutAuto
namespace Go.Proofs.Ytacpnlmcmjdfkaa
open Go.ChangeShapes Go.WideShapes Go.ChangeAt Go.RowKit
open Go.PlainAid Plain
set_option linter.unusedVariables false
namespace Fac
open Seqs
theorem not_in {x : Int} {xs : List Int} (h : ∀ (j : Nat) (y : Int), xs[j]? = some y → ¬ y = x) : ¬ x ∈ xs := fun hm => by
  obtain ⟨j, hj⟩ := List.getElem?_of_mem hm
  exact h j x hj rfl
theorem spec_has (v : Value) (xs : List Int) (x : Int) (w : World) (h : Lies (Value.int .i64) w v xs) :
    Calls Try.prog 36 #[v, .int .i64 x] w fun e w' => e = .returned (.bool (decide (x ∈ xs))) ∧ w = w' := by
  obtain ⟨hl, a, ca, rfl, _, hca⟩ := h
  have HA := Lib.hid hca
  clear hca
  go_enter Try.func36, Try.ntmps36
  go_wp2
  go_loop [5] (fun i' => ∃ k : Nat, k ≤ xs.length ∧ i' = .int .i64 k ∧ Hid (∀ (j : Nat) (y : Int), j < k → xs[j]? = some y → ¬ y = x)) (fun i' => xs.length - (intOf i').toNat)
  case atStart => exact ⟨0, Nat.zero_le _, rfl, fun j y h => by omega⟩
  case round =>
    obtain ⟨k, hk, rfl, HI⟩ := hrel
    by_cases hlt : k < xs.length
    · obtain ⟨y, hy⟩ : ∃ y, xs[k]? = some y := ⟨_, List.getElem?_eq_getElem hlt⟩
      obtain ⟨p, o, rfl, hcl⟩ := HA.out k y hy
      have HY := Lib.hid hy
      clear hy
      by_cases he : y = x
      · have hd : (y == x) = true := by simpa using he
        have HE : Hid (true = decide (x ∈ xs)) := (decide_eq_true (he ▸ List.mem_of_getElem? HY.out)).symm
        clear he
        go_wp2
        go_ret
        exact ⟨ret_b HE.out, rfl⟩
      · have hd : (y == x) = false := by simpa using he
        have HN : Hid (∀ (j : Nat) (z : Int), j < k + 1 → xs[j]? = some z → ¬ z = x) := fun j z hj hz => by
          by_cases e : j = k
          · subst e
            obtain rfl := Option.some.inj (HY.out.symm.trans hz)
            exact he
          · exact HI.out j z (by omega) hz
        clear he
        go_wp2
        go_round
        case rel => exact ⟨k + 1, by omega, by go_num, HN⟩
        case measure => simp [intOf]; omega
    · have HE : Hid (false = decide (x ∈ xs)) := (decide_eq_false (not_in fun j y hj => HI.out j y (by have := (List.getElem?_eq_some_iff.1 hj).1; omega) hj)).symm
      go_wp2
      go_ret
      exact ⟨ret_b HE.out, rfl⟩
theorem rv_no {xs ys : List Int} {W : World} {e : Ending} {W' : World} (h : retK xs ys = false) (hg : GivesV [] W e W') : GivesV (retV xs ys) W e W' := by rw [retV_no h]; exact hg
theorem rv_yes {xs ys : List Int} {W : World} {e : Ending} {W' : World} (h : facB xs = true) (h2 : 0 < ys.length) (hg : GivesV (sdl (segs xs (occ xs ys))) W e W') : GivesV (retV xs ys) W e W' := by rw [retV_yes h h2]; exact hg
/-- Two places, one behind the other, in the word. -/
theorem occ_two {xs ys : List Int} {k : Nat} (h : k + 1 < (occ xs ys).length) : ∃ p q : Nat, (occ xs ys)[k]? = some (p : Int) ∧ (occ xs ys)[k + 1]? = some (q : Int) ∧ p ≤ q ∧ q ≤ xs.length := by
  obtain ⟨x, hx⟩ : ∃ x, (occ xs ys)[k]? = some x := ⟨_, List.getElem?_eq_getElem (by omega)⟩
  obtain ⟨y, hy⟩ : ∃ y, (occ xs ys)[k + 1]? = some y := ⟨_, List.getElem?_eq_getElem h⟩
  have h1 := occ_at hx
  have h2 := occ_at hy
  have h3 := occ_asc hx hy
  refine ⟨x.toNat, y.toNat, ?_, ?_, by omega, by omega⟩
  · rw [hx]; congr 1; omega
  · rw [hy]; congr 1; omega
set_option maxRecDepth 100000 in
set_option maxHeartbeats 4000000 in
theorem spec_ret (u v : Value) (xs ys : List Int) (w : World) (h1 : LiesC w u xs) (h2 : Lies (Value.int .i64) w v ys) (hs2 : ys.length ≤ 4194304) :
    Calls Try.prog 27 #[u, v] w (GivesV (retV xs ys) w) := by
  obtain ⟨a, ca, rfl, hcap⟩ := h1.form
  have HX := Lib.hid h1
  have HY := Lib.hid h2
  obtain ⟨_, b, cb, rfl, _, _⟩ := h2
  have HB : Hid (Below w.heap.size w (w.alloc (Obj.cells #[] 22))) := (Below.refl _ _).alloc (Nat.le_refl _) _
  have HO : Hid (Has id 22 (w.alloc (Obj.cells #[] 22)) w.heap.size (.slice (some ⟨w.heap.size, 0, none⟩) 0 0) []) := has_lit0 (enc := id) rfl (Nat.le_refl _)
  clear h1
  go_enter Try.func27, Try.ntmps27
  go_wp2_with fail
  obtain ⟨W, hW⟩ : ∃ W, W = w.alloc (Obj.cells #[] 22) := ⟨_, rfl⟩
  rw [← hW] at HB HO ⊢
  clear hW
  refine (Mor.spec_word _ xs 16 _ (HX.out.lies.below HB.out)).mono ?_
  rintro e W1 ⟨rfl, rfl⟩
  obtain ⟨c, hc⟩ : ∃ c, wordB xs 16 = c := ⟨_, rfl⟩
  rw [hc]
  have HC := Lib.hid hc
  clear hc
  cases c with
  | false =>
    go_wp2
    go_ret
    exact rv_no (retK_no1 (facB_no1 HC.out)) ⟨_, rfl, (RowsV.nil HO.out).own, HB.out⟩
  | true =>
    by_cases h128 : xs.length ≤ 128
    · have hd := decide_eq_false (show ¬ (xs.length : Int) > 128 by omega)
      by_cases hy : 0 < ys.length
      · have hd2 : ((ys.length : Int) == 0) = false := by simp; intro h; simp [h] at hy
        have HF := Lib.hid (facB_yes HC.out h128)
        go_wp2_with fail
        refine (spec_occ _ _ xs ys _ (HX.out.below HB.out) (HY.out.below HB.out) (by omega) hs2).mono ?_
        rintro e W2 ⟨vo, rfl, ho, b2⟩
        obtain ⟨oa, oc, rfl, _⟩ := ho.form
        have HO2 := Lib.hid (HO.out.below b2)
        have HB2 := Lib.hid (HB.out.trans (b2.mono HB.out.size))
        have HA := Lib.hid ho.lies
        have HAL := occ_len xs ys
        clear b2 ho hd hd2 HB HO
        go_wp2
        go_loopw [5, 7] (fun o' k' wr => ∃ (k : Nat) (vo : Value), k ≤ (occ xs ys).length - 1 ∧ k' = .int .i64 ((k : Int) + 1) ∧ vo = o' ∧ Hid (RowsV wr w.heap.size w.heap.size vo (sdl (segT xs (occ xs ys) k))) ∧ Hid (Below w.heap.size w wr) ∧ Hid (Below W2.heap.size W2 wr)) (fun _ k' _ => (occ xs ys).length + 1 - (intOf k').toNat)
        case atStart => exact ⟨0, _, Nat.zero_le _, rfl, rfl, RowsV.nil HO2.out, HB2, Below.refl _ _⟩
        case round =>
          obtain ⟨k, vo, hk, rfl, rfl, HOr, HBr, HGr⟩ := hrel
          by_cases hlt : k + 1 < (occ xs ys).length
          · obtain ⟨p, q, hp, hq, hpq, hqx⟩ := occ_two hlt
            obtain ⟨s1, s2, hoa, c1⟩ := lies_at (HA.out.below HGr.out) hp
            subst hoa
            obtain ⟨_, _, hoa, c2⟩ := lies_at (HA.out.below HGr.out) hq
            cases hoa
            obtain ⟨a1, d1, hsl, hcut⟩ := (HX.out.below HBr.out).slice (l := p) (h := q) hpq hqx (L := (p : Int)) (H := (q : Int)) rfl rfl
            have HCT := Lib.hid hcut
            have HT := Lib.hid (segT_succ (xs := xs) hp hq)
            have HS := Lib.hid (sdl_snoc (segT xs (occ xs ys) k) ((xs.drop p).take (q - p)))
            have hlen : (sdl (segT xs (occ xs ys) k)).length ≤ 10000 := by
              have h1 := sdl_len (segT xs (occ xs ys) k)
              rw [segT_len] at h1
              omega
            have HP := Lib.hid (put vo _ (sdl (segT xs (occ xs ys) k)) _ wr.drew w.heap.size w.heap.size (HOr.out.below (below_drew' _)) (HCT.out.lies.below (below_drew' _)) (HBr.out.trans ((below_drew' _).mono HBr.out.size)).size hlen (by rw [List.length_take, List.length_drop]; omega))
            have HW := Lib.hid (show Below w.heap.size w wr.drew from HBr.out.trans ((below_drew' _).mono HBr.out.size))
            have HG := Lib.hid (show Below W2.heap.size W2 wr.drew from HGr.out.trans ((below_drew' _).mono HGr.out.size))
            clear hcut hp hq hlen
            have hwr : IntKind.i64.wrap ((k : Int) + 1 - 1) = (k : Int) := by rw [IntKind.wrap_i64]; omega
            have hwr2 : IntKind.i64.wrap (k : Int) = (k : Int) := by rw [IntKind.wrap_i64]; omega
            have hlt5 : (k : Int) < ((occ xs ys).length : Int) := by omega
            have hlt1 : k < (occ xs ys).length := by omega
            have hlt2 : (k : Int) + 1 < ((occ xs ys).length : Int) := by omega
            have hlt3 : (0 : Int) ≤ (k : Int) + 1 := by omega
            have hlt4 : ((k : Int) + 1).toNat = k + 1 := by omega
            go_wp2
            go_region_held3 (fun w' => w'.cell? ⟨s1, s2 + k, none⟩ = some (.int .i64 (p : Int)) ∧ w'.cell? ⟨s1, s2 + (k + 1), none⟩ = some (.int .i64 (q : Int)))
              (first | exact ⟨c1, c2⟩ | exact ⟨(b5.cell (p := ⟨s1, s2 + k, none⟩) (World.block_lt_of_cell? _ _ c1)).trans c1, (b5.cell (p := ⟨s1, s2 + (k + 1), none⟩) (World.block_lt_of_cell? _ _ c2)).trans c2⟩)
              ((go_at_call 33; refine HP.out.mono ?_; rintro e W5 ⟨v5, rfl, ho5, b5⟩))
            all_goals
              rw [← HS.out, ← HT.out] at ho5
              have HO5 := Lib.hid (ho5.mono HW.out.size (Nat.le_refl _))
              have HB5 := Lib.hid (HW.out.trans (b5.mono HW.out.size))
              have HG5 := Lib.hid (HG.out.trans (b5.mono HG.out.size))
              clear ho5 b5 HP hsl c1 c2 hwr hwr2 hlt4
              go_wp2
              go_roundw
              case rel => exact ⟨k + 1, _, by omega, by go_num, rfl, HO5, HB5, HG5⟩
              case measure => simp [intOf]; omega
          · have HE : Hid (RowsV wr w.heap.size w.heap.size vo (sdl (segs xs (occ xs ys)))) := by
              have := HOr.out
              rw [show k = (occ xs ys).length - 1 from by omega] at this
              exact this
            go_wp2
            go_ret
            exact rv_yes HF.out hy ⟨_, rfl, HE.out.own, HBr.out⟩
      · have hd2 : ((ys.length : Int) == 0) = true := by simp; exact List.eq_nil_of_length_eq_zero (by omega)
        have HK := Lib.hid (retK_no2 (xs := xs) (ys := ys) (by omega))
        go_wp2
        go_ret
        exact rv_no HK.out ⟨_, rfl, (RowsV.nil HO.out).own, HB.out⟩
    · have hd := decide_eq_true (show (xs.length : Int) > 128 by omega)
      go_wp2
      go_ret
      exact rv_no (retK_no1 (facB_no2 h128)) ⟨_, rfl, (RowsV.nil HO.out).own, HB.out⟩
end Fac
end Go.Proofs.Ytacpnlmcmjdfkaa
