/- Contracts of the model's RightSpecial and ComplexityOf. No conditions beyond those that each states. -/
import Derived.Test.YtgbgcaaekpgapabRsS
namespace Go.Proofs.Ytgbgcaaekpgapab
open Go.ChangeShapes Go.WideShapes Go.ChangeAt Go.RowKit
open Go.PlainAid Plain
set_option linter.unusedVariables false
namespace Fac
open Seqs
theorem OwnV.rows {w : World} {lo hi base : Nat} {v : Value} {rows : List (List Int)} (h : OwnV w lo hi v rows) (hb : base ≤ lo) : RowsV w lo base v rows := by
  obtain ⟨us, h1, h2, h3, h4, h5⟩ := h
  exact ⟨us, h1, h4, fun i u r hu hr => (h5 i u r hu hr).has.mono hb⟩
theorem OwnV.lt' {w : World} {lo hi : Nat} {v : Value} {rows : List (List Int)} (h : OwnV w lo hi v rows) : ∀ k, v.ownBlock = some k → lo ≤ k := fun k hk => by
  obtain ⟨us, h1, _⟩ := h
  exact (h1.lt k hk).1
theorem rs_no {xs : List Int} {n : Int} (h : facK xs n = false) : rsV xs n = [] := by rw [rsV, facV_no h]; rfl
theorem gv_eq {l m : List (List Int)} {W : World} {e : Ending} {W' : World} (h : l = m) (hg : GivesV l W e W') : GivesV m W e W' := h ▸ hg
theorem occ_nat {xs ys : List Int} {k : Nat} (h : k < (occ xs ys).length) : ∃ p : Nat, (occ xs ys)[k]? = some (p : Int) ∧ p + ys.length ≤ xs.length := by
  obtain ⟨x, hx⟩ : ∃ x, (occ xs ys)[k]? = some x := ⟨_, List.getElem?_eq_getElem h⟩
  have h1 := occ_at hx
  refine ⟨x.toNat, ?_, by omega⟩
  rw [hx]; congr 1; omega
set_option maxRecDepth 100000 in
set_option maxHeartbeats 8000000 in
theorem spec_rs (u : Value) (xs : List Int) (n : Int) (w : World) (h : LiesC w u xs) :
    Calls Try.prog 26 #[u, .int .i64 n] w (GivesV (rsV xs n) w) := by
  obtain ⟨i0, hi, hz0, hz1, hz2⟩ := info_parts Ints.infoI
  obtain ⟨j0, hj, hy0, hy1, hy2⟩ := info_parts infoR'
  obtain ⟨a, ca, rfl, hcap⟩ := h.form
  have HX := Lib.hid h
  have HB : Hid (Below w.heap.size w (w.alloc (Obj.cells #[] 22))) := (Below.refl _ _).alloc (Nat.le_refl _) _
  have HO : Hid (Has id 22 (w.alloc (Obj.cells #[] 22)) w.heap.size (.slice (some ⟨w.heap.size, 0, none⟩) 0 0) []) := has_lit0 (enc := id) rfl (Nat.le_refl _)
  clear h
  obtain ⟨c, hc⟩ : ∃ c, facK xs n = c := ⟨_, rfl⟩
  have HF := Lib.hid (spec_fac _ xs n _ (HX.out.below HB.out))
  rw [hc] at HF
  have HC := Lib.hid hc
  clear hc
  cases c with
  | false =>
    rw [facV_no HC.out] at HF
    go_enter Try.func26, Try.ntmps26
    go_wp2_with fail
    refine HF.out.mono ?_
    rintro e W2 ⟨l, rfl, ho, b2⟩
    obtain ⟨us, h1, _, _, h2, _⟩ := ho
    obtain ⟨la, lc, rfl, _⟩ := h1.form
    obtain rfl : us = [] := List.eq_nil_of_length_eq_zero h2
    have HB2 := Lib.hid (HB.out.trans (b2.mono HB.out.size))
    have HO2 := Lib.hid (HO.out.below b2)
    clear h1 h2 b2 HF
    go_wp2
    go_loopw [5, 8] (fun o' i' wr => o' = .slice (some ⟨w.heap.size, 0, none⟩) 0 0 ∧ i' = .int .i64 0 ∧ wr = W2) (fun _ _ _ => 0)
    case atStart => exact ⟨rfl, rfl, rfl⟩
    case round =>
      obtain ⟨rfl, rfl, rfl⟩ := hrel
      go_wp2
      go_ret
      exact gv_eq (rs_no HC.out).symm ⟨_, rfl, (RowsV.nil HO2.out).own, HB2.out⟩
  | true =>
    have hK := facK_out HC.out
    obtain ⟨N, hN⟩ : ∃ N : Nat, n = N := ⟨n.toNat, by omega⟩
    subst hN
    have h128 := hK.2.1
    have hN40 : N ≤ 40 := by omega
    clear hK
    have HROW : Hid (∀ p ∈ facV xs N, p.length = N) := fun p hp => by have := facV_row hp; omega
    have hLl : (facV xs N).length ≤ 129 := facV_len _ _
    obtain ⟨L, hL⟩ : ∃ L, L = facV xs N := ⟨_, rfl⟩
    rw [← hL] at HF HROW hLl
    have HL := Lib.hid hL
    clear hL
    go_enter Try.func26, Try.ntmps26
    go_wp2_with fail
    refine HF.out.mono ?_
    rintro e W2 ⟨l, rfl, ho, b2⟩
    have hor := ho.rows (base := w.heap.size) HB.out.size
    obtain ⟨la, lc, rfl⟩ := hor.form
    have HLR := Lib.hid hor
    have HAP : Hid (Apart (.slice la L.length lc) (.slice (some ⟨w.heap.size, 0, none⟩) 0 0)) := by
      show Apart _ _
      cases hb : (Value.slice la L.length lc).ownBlock with
      | none => exact .inl hb
      | some k =>
        have h1 := ho.lt' k hb
        have h2 := HB.out.size
        exact .inr (by rw [hb]; simp [Value.ownBlock]; simp at h1; omega)
    have HB2 := Lib.hid (HB.out.trans (b2.mono HB.out.size))
    have HO2 := Lib.hid (HO.out.below b2)
    clear hor ho b2 HF
    go_wp2
    go_loopw [5, 8] (fun o' i' wr => ∃ (i : Nat) (vo : Value), i ≤ L.length ∧ i' = .int .i64 i ∧ vo = o' ∧ Hid (RowsV wr w.heap.size w.heap.size vo ((L.take i).filter (rsB xs))) ∧ Hid (Below w.heap.size w wr) ∧ Hid (RowsV wr w.heap.size w.heap.size (.slice la L.length lc) L) ∧ Hid (Apart (.slice la L.length lc) vo)) (fun _ i' _ => L.length - (intOf i').toNat)
    case atStart => exact ⟨0, _, Nat.zero_le _, rfl, rfl, RowsV.nil HO2.out, HB2, HLR.out.mono (by simp) (Nat.le_refl _), HAP⟩
    case round =>
      obtain ⟨i, vo, hi', rfl, rfl, HOr, HBr, HLr, HPr⟩ := hrel
      obtain ⟨W4, rfl⟩ : ∃ W : World, W = wr := ⟨_, rfl⟩
      by_cases hlt : i < L.length
      · obtain ⟨p, hp⟩ : ∃ p, L[i]? = some p := ⟨_, List.getElem?_eq_getElem hlt⟩
        have hpl : p.length = N := HROW.out p (List.mem_of_getElem? hp)
        have HPL := Lib.hid hpl
        obtain ⟨q, o, ua, uc, hla, hcell, hhas⟩ := HLr.out.row hp
        subst hla
        have hflen : ((L.take i).filter (rsB xs)).length ≤ 129 := by
          have h1 := List.length_filter_le (rsB xs) (L.take i)
          rw [List.length_take] at h1
          omega
        have HFT := Lib.hid (filter_take (p := rsB xs) hp)
        have HH := Lib.hid hhas
        have HCL := Lib.hid hcell
        -- the next world: a new empty slice
        have hb1 : Below W4.heap.size W4 (W4.alloc (Obj.cells #[] 3)) := (Below.refl _ _).alloc (Nat.le_refl _) _
        have HN1 : Hid (Has (Value.int .i64) 3 (W4.alloc (Obj.cells #[] 3)) W4.heap.size (.slice (some ⟨W4.heap.size, 0, none⟩) 0 0) []) := has_lit0 rfl (Nat.le_refl _)
        have HB1 := Lib.hid hb1
        have k1 : (W4.alloc (Obj.cells #[] 3)).cell? ⟨q, o + i, none⟩ = some (.slice ua p.length uc) := (hb1.cell (p := ⟨q, o + i, none⟩) (World.block_lt_of_cell? _ _ hcell)).trans hcell
        clear hp hpl hhas hcell hb1
        have HA := Lib.hid (spec_occ _ _ xs p (W4.alloc (Obj.cells #[] 3)) (HX.out.below (HBr.out.trans (HB1.out.mono HBr.out.size))) (HH.out.lies.below HB1.out) (by omega) (by have := HPL.out; omega))
        go_wp2_with fail
        refine HA.out.mono ?_
        rintro e W3 ⟨at_, rfl, hat, b3⟩
        obtain ⟨aa, ac, rfl, _⟩ := hat.form
        have HAT := Lib.hid hat
        have HPA : Hid (Apart (.slice aa (occ xs p).length ac) (.slice (some ⟨W4.heap.size, 0, none⟩) 0 0)) := by
          show Apart _ _
          cases hb : (Value.slice aa (occ xs p).length ac).ownBlock with
          | none => exact .inl hb
          | some k =>
            have h1 := (hat.lt k hb).1
            exact .inr (by rw [hb]; simp [Value.ownBlock]; simp at h1; omega)
        have HN3 := Lib.hid (HN1.out.below b3)
        have HB3 := Lib.hid (HB1.out.trans (b3.mono HB1.out.size))
        clear k1 HA HN1 HB1 hat b3
        have hAl := occ_len xs p
        go_wp2
        go_loopw [9, 11] (fun n' k' wr => ∃ (k : Nat) (vn : Value), k ≤ (occ xs p).length ∧ k' = .int .i64 k ∧ vn = n' ∧ Hid (Has (Value.int .i64) 3 wr W4.heap.size vn (folT xs N (occ xs p) k)) ∧ Hid (Below W4.heap.size W4 wr) ∧ Hid (Has (Value.int .i64) 3 wr W4.heap.size (.slice aa (occ xs p).length ac) (occ xs p)) ∧ Hid (Apart (.slice aa (occ xs p).length ac) vn)) (fun _ k' _ => (occ xs p).length - (intOf k').toNat)
        case atStart => exact ⟨0, _, Nat.zero_le _, rfl, rfl, HN3, HB3, HAT.out.mono (by simp), HPA⟩
        case round =>
          obtain ⟨k, vn, hk, rfl, rfl, HNq, HBq, HAq, HPq⟩ := hrel
          by_cases hkt : k < (occ xs p).length
          · obtain ⟨b, hb, hbx⟩ := occ_nat hkt
            obtain ⟨s1, s2, haa, c1⟩ := lies_at HAq.out.lies hb
            subst haa
            have hbx2 : b + N ≤ xs.length := by have := HPL.out; omega
            clear hbx
            by_cases hin : b + N < xs.length
            · obtain ⟨x, hx⟩ : ∃ x, xs[b + N]? = some x := ⟨_, List.getElem?_eq_getElem hin⟩
              obtain ⟨t1, t2, ha, c2⟩ := lies_at ((HX.out.lies.below HBr.out).below HBq.out) hx
              subst ha
              have HSM := Lib.hid (folT_some (m := N) hb (show xs[(b : Int).toNat + N]? = some x from by rw [Int.toNat_natCast]; exact hx))
              obtain ⟨na, nc, rfl, _⟩ := HNq.out.form
              have hfl := folT_len xs N (occ xs p) k
              obtain ⟨F, hF⟩ : ∃ F, F = folT xs N (occ xs p) k := ⟨_, rfl⟩
              rw [← hF] at HNq HSM hfl HPq ⊢
              clear hb hx hF
              have HH4 := Lib.hid (spec_has _ F x wr HNq.out.lies)
              by_cases hm : x ∈ F
              · rw [decide_eq_true hm] at HH4
                have HE := Lib.hid (HSM.out.trans (addN_has hm))
                clear hm
                go_wp2_with (go_at_call 39; refine HH4.out.mono ?_; rintro e w' ⟨rfl, rfl⟩)
                have HN5 : Hid (Has (Value.int .i64) 3 wr W4.heap.size (.slice na F.length nc) (folT xs N (occ xs p) (k + 1))) := by show Has _ _ _ _ _ _; rw [HE.out]; exact HNq.out
                go_roundw
                case rel => exact ⟨k + 1, _, by omega, by go_num, rfl, HN5, HBq, HAq, HPq⟩
                case measure => simp [intOf]; omega
              · rw [decide_eq_false hm] at HH4
                have HE := Lib.hid (HSM.out.trans (addN_new hm))
                clear hm
                go_upto_region 12 with (go_at_call 39; refine HH4.out.mono ?_; rintro e w' ⟨rfl, rfl⟩)
                go_wp2_with (refine append_one2 wr rfl _ _ 22 rfl W4.heap.size i0 Try.underlying22 hi hz0 hz1 hz2 (.slice na F.length nc) F rfl HNq.out x rfl (by omega) HBq.out.size ?_; intro v' w1 ho hg hbk; have HN5 := Lib.hid ho; have HB5 := Lib.hid (HNq.out.frame HBq.out (Nat.le_refl _) hg); have HA5 := Lib.hid (HAq.out.grown hg HPq.out); have HP5 := Lib.hid (HPq.out.step hbk fun k hk => (HAq.out.lt k hk).2); clear hg ho hbk)
                rw [← HE.out] at HN5
                go_roundw
                case rel => exact ⟨k + 1, _, by omega, by go_num, rfl, HN5, HB5, HA5, HP5⟩
                case measure => simp [intOf]; omega
            · have HE := Lib.hid (folT_none (xs := xs) (m := N) hb (by simp; omega))
              clear hb
              go_wp2
              rw [← HE.out] at HNq
              go_roundw
              case rel => exact ⟨k + 1, _, by omega, by go_num, rfl, HNq, HBq, HAq, HPq⟩
              case measure => simp [intOf]; omega
          · have HNA : Hid (Has (Value.int .i64) 3 wr W4.heap.size vn (folls xs N (occ xs p))) := by
              have := HNq.out
              rw [folT_all (by omega)] at this
              exact this
            obtain ⟨na, nc, rfl, _⟩ := HNA.out.form
            have HRS : Hid (rsB xs p = decide (2 ≤ (folls xs N (occ xs p)).length)) := by show _ = _; rw [rsB, HPL.out]
            obtain ⟨F, hF⟩ : ∃ F, F = folls xs N (occ xs p) := ⟨_, rfl⟩
            rw [← hF] at HNA HRS ⊢
            clear hF
            have HBw := Lib.hid (HBr.out.trans (HBq.out.mono HBr.out.size))
            have HLw := Lib.hid (HLr.out.below HBq.out)
            have HOw := Lib.hid (HOr.out.below HBq.out)
            have hsmF := HNA.out.small
            by_cases h2 : 2 ≤ F.length
            · have HRY := Lib.hid (HRS.out.trans (decide_eq_true h2))
              have HFY : Hid ((L.take (i + 1)).filter (rsB xs) = (L.take i).filter (rsB xs) ++ [p]) := by show _ = _; rw [HFT.out, if_pos HRY.out]
              have k1 := (HBq.out.cell (p := ⟨q, o + i, none⟩) (World.block_lt_of_cell? _ _ HCL.out)).trans HCL.out
              have HH5 := Lib.hid (HH.out.below HBq.out)
              have HLE := Lib.hid HBw.out.size
              obtain ⟨va, vc, hvo⟩ := HOr.out.form
              subst hvo
              have HFL := Lib.hid hflen
              clear hflen
              go_wp2_with (refine wpList_append_rowV2 rfl _ _ 27 rfl j0 Try.underlying27 hj hy0 hy1 hy2 _ rfl HOw.out _ p HH5.out _ rfl rfl (by have := HFL.out; omega) HLE.out ?_; intro v6 w6 ho6 hg6 hbk; have HO6 := Lib.hid ho6; have HB6 := Lib.hid (HOw.out.frame HBw.out (Nat.le_refl _) hg6); have HL6 := Lib.hid (HLw.out.grown' HOw.out hg6 HPr.out); have HP6 := Lib.hid (HPr.out.step hbk fun k hk => (HLw.out.lt k hk).2); clear ho6 hg6 hbk)
              rw [← HFY.out] at HO6
              go_roundw
              case rel => exact ⟨i + 1, _, by omega, by go_num, rfl, HO6, HB6, HL6, HP6⟩
              case measure => simp [intOf]; omega
            · have HRN := Lib.hid (HRS.out.trans (decide_eq_false h2))
              have HFN : Hid ((L.take (i + 1)).filter (rsB xs) = (L.take i).filter (rsB xs)) := by show _ = _; rw [HFT.out, if_neg (by rw [HRN.out]; simp), List.append_nil]
              rw [← HFN.out] at HOw
              go_wp2
              go_roundw
              case rel => exact ⟨i + 1, _, by omega, by go_num, rfl, HOw, HBw, HLw, HPr⟩
              case measure => simp [intOf]; omega
      · have HE : Hid (RowsV W4 w.heap.size w.heap.size vo (rsV xs N)) := by
          have := HOr.out
          rw [List.take_of_length_le (by omega), HL.out] at this
          exact this
        go_wp2
        go_ret
        exact ⟨_, rfl, HE.out.own, HBr.out⟩
end Fac
end Go.Proofs.Ytgbgcaaekpgapab
