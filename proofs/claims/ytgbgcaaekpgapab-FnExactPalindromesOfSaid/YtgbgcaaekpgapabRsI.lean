/- Contracts of the program's isRightSpecial and RightSpecial, and of the library's IndexFunc and DeleteFunc at its closure. No conditions beyond those that each states. -/
import Derived.Test.YtgbgcaaekpgapabFacI
namespace Go.Proofs.Ytgbgcaaekpgapab
open Go.ChangeShapes Go.WideShapes Go.ChangeAt Go.RowKit
open Go.PlainAid Plain
set_option linter.unusedVariables false
namespace Fac
open Seqs
theorem impl_has (v : Value) (xs : List Int) (x : Int) (w : World) (h : Lies (Value.int .i64) w v xs) :
    Calls Try.prog 51 #[v, .int .i64 x] w fun e w' => e = .returned (.bool (decide (x ∈ xs))) ∧ w = w' := by
  obtain ⟨hl, a, ca, rfl, _, hca⟩ := h
  rcases Nat.eq_zero_or_pos xs.length with h0 | h0
  · obtain rfl : xs = [] := List.eq_nil_of_length_eq_zero h0
    refine (Try.slices_Contains_int_empty a ca x w).mono fun e w' h => ⟨?_, h.2.symm⟩
    rw [h.1]
    simp
  · obtain ⟨b, off, rfl, _⟩ := hca 0 _ (List.getElem?_eq_getElem h0)
    refine (Try.slices_Contains_int b off xs.length ca xs x w (Nat.le_refl _) hl fun j hj => ?_).mono fun e w' h => ⟨?_, h.2.symm⟩
    · obtain ⟨b', o', he, hc⟩ := hca j _ (List.getElem?_eq_getElem hj)
      cases he
      rw [hc]
      simp [List.getD, hj]
    · rw [h.1, List.take_length]
      simp
theorem occ_nat' {xs ys : List Int} {k : Nat} (h : k < (occ xs ys).length) : ∃ p : Nat, (occ xs ys)[k]? = some (p : Int) ∧ p + ys.length ≤ xs.length := by
  obtain ⟨x, hx⟩ : ∃ x, (occ xs ys)[k]? = some x := ⟨_, List.getElem?_eq_getElem h⟩
  have h1 := occ_at hx
  refine ⟨x.toNat, ?_, by omega⟩
  rw [hx]; congr 1; omega
set_option maxRecDepth 100000 in
set_option maxHeartbeats 4000000 in
theorem rs_test (u v : Value) (xs p : List Int) (w : World) (h1 : Lies (Value.int .i64) w u xs) (h2 : Lies (Value.int .i64) w v p) (hs : xs.length ≤ 4194304) (hs2 : p.length ≤ 4194304) :
    Calls Try.prog 42 #[u, v] w fun e w' => e = .returned (.bool (rsB xs p)) ∧ Below w.heap.size w w' := by
  obtain ⟨i0, hi, hz0, hz1, hz2⟩ := info_parts Ints.infoI
  have HX := Lib.hid h1
  obtain ⟨_, a, ca, rfl, _, _⟩ := h1
  have HO := Lib.hid (impl_occ _ v xs p w HX.out h2 hs hs2)
  obtain ⟨_, b, cb, rfl, _, _⟩ := h2
  have HRB : Hid (rsB xs p = decide (2 ≤ (folls xs p.length (occ xs p)).length)) := rfl
  go_enter Try.func42, Try.ntmps42
  go_wp2_with fail
  refine HO.out.mono ?_
  rintro e W3 ⟨at_, rfl, hat, b3⟩
  obtain ⟨aa, ac, rfl, _⟩ := hat.form
  have HAT := Lib.hid hat.lies
  have HB3 := Lib.hid b3
  have hAl := occ_len xs p
  clear hat b3 HO
  go_wp2
  go_loopw [5, 13] (fun n' k' wr => ∃ (k : Nat) (vn : Value), k ≤ (occ xs p).length ∧ k' = .int .i64 k ∧ vn = n' ∧ Hid (Has (Value.int .i64) 3 wr W3.heap.size vn (folT xs p.length (occ xs p) k)) ∧ Hid (Below W3.heap.size W3 wr)) (fun _ k' _ => (occ xs p).length - (intOf k').toNat)
  case atStart => exact ⟨0, _, Nat.zero_le _, rfl, rfl, World.ownsRow_nil _ _ _ _, Below.refl _ _⟩
  case round =>
    obtain ⟨k, vn, hk, rfl, rfl, HNq, HGq⟩ := hrel
    have HBq := Lib.hid (HB3.out.trans (HGq.out.mono HB3.out.size))
    by_cases hkt : k < (occ xs p).length
    · obtain ⟨m, hb, hbx⟩ := occ_nat' hkt
      obtain ⟨s1, s2, haa, c1⟩ := lies_at (HAT.out.below HGq.out) hb
      subst haa
      by_cases hin : m + p.length < xs.length
      · obtain ⟨x, hx⟩ : ∃ x, xs[m + p.length]? = some x := ⟨_, List.getElem?_eq_getElem hin⟩
        obtain ⟨t1, t2, ha, c2⟩ := lies_at (HX.out.below HBq.out) hx
        subst ha
        have HSM := Lib.hid (folT_some (m := p.length) hb (show xs[(m : Int).toNat + p.length]? = some x from by rw [Int.toNat_natCast]; exact hx))
        obtain ⟨na, nc, rfl, _⟩ := HNq.out.form
        have hfl := folT_len xs p.length (occ xs p) k
        obtain ⟨F, hF⟩ : ∃ F, F = folT xs p.length (occ xs p) k := ⟨_, rfl⟩
        rw [← hF] at HNq HSM hfl ⊢
        clear hb hx hF
        have HH4 := Lib.hid (impl_has _ F x wr HNq.out.lies)
        by_cases hm : x ∈ F
        · rw [decide_eq_true hm] at HH4
          have HE := Lib.hid (HSM.out.trans (addN_has hm))
          clear hm
          go_wp2_with (go_at_call 51; refine HH4.out.mono ?_; rintro e w' ⟨rfl, rfl⟩)
          have HN5 : Hid (Has (Value.int .i64) 3 wr W3.heap.size (.slice na F.length nc) (folT xs p.length (occ xs p) (k + 1))) := by show Has _ _ _ _ _ _; rw [HE.out]; exact HNq.out
          go_roundw
          case rel => exact ⟨k + 1, _, by omega, by go_num, rfl, HN5, HGq⟩
          case measure => simp [intOf]; omega
        · rw [decide_eq_false hm] at HH4
          have HE := Lib.hid (HSM.out.trans (addN_new hm))
          clear hm
          go_upto_region 7 with (go_at_call 51; refine HH4.out.mono ?_; rintro e w' ⟨rfl, rfl⟩)
          go_wp2_with (refine append_one (enc := (Value.int .i64)) (e := 3) wr rfl _ _ 22 rfl W3.heap.size i0 (.int .i64 0) 8 Try.underlying22 hi hz0 hz1 hz2 rfl (.slice na F.length nc) F rfl HNq.out x rfl (fun _ => rfl) (by omega) (by omega) HGq.out.size ?_; intro v' w1 ho hg; have HN5 := Lib.hid ho; have HG5 := Lib.hid (HNq.out.frame HGq.out (Nat.le_refl _) hg); clear hg ho)
          rw [← HE.out] at HN5
          go_roundw
          case rel => exact ⟨k + 1, _, by omega, by go_num, rfl, HN5, HG5⟩
          case measure => simp [intOf]; omega
      · have HE := Lib.hid (folT_none (xs := xs) (m := p.length) hb (by simp; omega))
        clear hb
        go_wp2
        rw [← HE.out] at HNq
        go_roundw
        case rel => exact ⟨k + 1, _, by omega, by go_num, rfl, HNq, HGq⟩
        case measure => simp [intOf]; omega
    · have HNA : Hid (Has (Value.int .i64) 3 wr W3.heap.size vn (folls xs p.length (occ xs p))) := by
        have := HNq.out
        rw [folT_all (by omega)] at this
        exact this
      obtain ⟨na, nc, rfl, _⟩ := HNA.out.form
      obtain ⟨F, hF⟩ : ∃ F, F = folls xs p.length (occ xs p) := ⟨_, rfl⟩
      rw [← hF] at HNA HRB ⊢
      have hsmF := HNA.out.small
      have HRC : Hid (decide ((2 : Int) ≤ (F.length : Int)) = rsB xs p) := by show _ = _; rw [HRB.out]; exact decide_eq_decide.2 (by omega)
      clear hF
      go_wp2
      go_ret
      exact ⟨ret_b HRC.out, HBq.out⟩
/-- Slices of ints of the call's own, with their numbers, no two in one block. -/
structure FamP (w : World) (lo hi : Nat) (ps : List (Value × List Int)) : Prop where
  own : ∀ p ∈ ps, OwnI w lo hi p.1 p.2
  apart : ps.Pairwise fun p q => p.1.ownBlock = none ∨ p.1.ownBlock ≠ q.1.ownBlock
theorem FamP.below {w w' : World} {lo hi : Nat} {ps : List (Value × List Int)} (h : FamP w lo hi ps) (hb : Below w.heap.size w w') : FamP w' lo hi ps := ⟨fun p hp => (h.own p hp).below hb, h.apart⟩
theorem FamP.filter {w : World} {lo hi : Nat} {ps : List (Value × List Int)} (h : FamP w lo hi ps) (f : Value × List Int → Bool) : FamP w lo hi (ps.filter f) := ⟨fun p hp => h.own p (List.mem_filter.1 hp).1, h.apart.filter f⟩
theorem FamP.set {w : World} {lo hi g : Nat} {ps : List (Value × List Int)} (h : FamP w lo hi ps) (hg : ∀ p ∈ ps, p.1.ownBlock ≠ some g) (j : Nat) (x : Value) : FamP (w.setCell ⟨g, j, none⟩ x) lo hi ps := ⟨fun p hp => (h.own p hp).set (a := ⟨g, j, none⟩) (hg p hp) x, h.apart⟩
theorem FamP.grown {w w' : World} {lo hi g : Nat} {ps : List (Value × List Int)} (h : FamP w lo hi ps) (hg : ∀ p ∈ ps, p.1.ownBlock ≠ some g) (hw : w.grownBy w' (some g)) : FamP w' lo hi ps :=
  ⟨fun p hp => ⟨(h.own p hp).has.grown hw (by
    cases hb : p.1.ownBlock with
    | none => exact .inl rfl
    | some k => exact .inr (by rw [← hb]; exact hg p hp)), (h.own p hp).lt, Nat.le_trans (h.own p hp).le hw.size⟩, h.apart⟩
theorem FamP.rows {w : World} {lo hi : Nat} {ps : List (Value × List Int)} (h : FamP w lo hi ps) : OwnRows w lo hi (ps.map Prod.fst) (ps.map Prod.snd) := by
  refine ⟨by simp, fun i u r hu hr => ?_, fun i j u u' hu hu' hij => ?_⟩
  · rw [List.getElem?_map, Option.map_eq_some_iff] at hu hr
    obtain ⟨p, hp, rfl⟩ := hu
    obtain ⟨q, hq, rfl⟩ := hr
    obtain rfl := Option.some.inj (hp.symm.trans hq)
    exact h.own p (List.mem_of_getElem? hp)
  · rw [List.getElem?_map, Option.map_eq_some_iff] at hu hu'
    obtain ⟨p, hp, rfl⟩ := hu
    obtain ⟨q, hq, rfl⟩ := hu'
    obtain ⟨h1, rfl⟩ := List.getElem?_eq_some_iff.1 hp
    obtain ⟨h2, rfl⟩ := List.getElem?_eq_some_iff.1 hq
    rcases Nat.lt_or_gt_of_ne hij with hl | hl
    · exact List.pairwise_iff_getElem.1 h.apart i j h1 h2 hl
    · have := List.pairwise_iff_getElem.1 h.apart j i h2 h1 hl
      cases hb : (ps[i]).1.ownBlock with
      | none => exact .inl rfl
      | some k =>
        refine .inr fun e => ?_
        rcases this with h5 | h5
        · rw [h5] at e; cases e
        · exact h5 (by rw [← e, hb])
theorem FamP.of_rows {w : World} {lo hi : Nat} {us : List Value} {rows : List (List Int)} (h : OwnRows w lo hi us rows) : FamP w lo hi (us.zip rows) := by
  refine ⟨fun p hp => ?_, List.pairwise_iff_getElem.2 fun i j hi hj hij => ?_⟩
  · obtain ⟨i, hi⟩ := List.getElem?_of_mem hp
    rw [List.getElem?_zip_eq_some] at hi
    exact h.row i _ _ hi.1 hi.2
  · have h1 : i < us.length := by rw [List.length_zip] at hi; omega
    have h2 : j < us.length := by rw [List.length_zip] at hj; omega
    have := h.apart i j _ _ (List.getElem?_eq_getElem h1) (List.getElem?_eq_getElem h2) (by omega)
    simpa using this
/-- The closure of RightSpecial. -/
theorem closure (v u : Value) (xs p : List Int) (B : Nat) (w : World) (hB : w.cell? ⟨B, 0, none⟩ = some u) (h1 : Lies (Value.int .i64) w u xs) (h2 : Lies (Value.int .i64) w v p) (hs : xs.length ≤ 4194304) (hs2 : p.length ≤ 4194304) :
    Calls Try.prog 41 (#[v] ++ #[.pointer (some ⟨B, 0, none⟩)]) w fun e w' => e = .returned (.bool (!rsB xs p)) ∧ Below w.heap.size w w' := by
  have HT := Lib.hid (rs_test u v xs p w h1 h2 hs hs2)
  obtain ⟨_, a, ca, rfl, _, _⟩ := h1
  obtain ⟨_, b, cb, rfl, _, _⟩ := h2
  obtain ⟨r, hr⟩ : ∃ r, r = rsB xs p := ⟨_, rfl⟩
  rw [← hr] at HT ⊢
  clear hr
  go_enter Try.func41, Try.ntmps41
  go_wp2_with (go_at_call 42; refine HT.out.mono ?_; rintro e w' ⟨rfl, hb⟩)
  go_ret
  exact ⟨rfl, hb⟩
/-- What IndexFunc finds: the first of the slices that goes, or none. -/
def IdxR (ps : List (Value × List Int)) (xs : List Int) (r : Int) : Prop := (r = -1 ∧ ∀ p ∈ ps, rsB xs p.2 = true) ∨ ∃ i : Nat, r = i ∧ i < ps.length ∧ (∀ p ∈ ps.take i, rsB xs p.2 = true) ∧ ∀ p, ps[i]? = some p → rsB xs p.2 = false
def IdxE (ps : List (Value × List Int)) (xs : List Int) (w : World) (e : Ending) (w' : World) : Prop := ∃ r : Int, e = .returned (.int .i64 r) ∧ IdxR ps xs r ∧ Below w.heap.size w w'
theorem top_at {w : World} {lo n c : Nat} {a : Option Addr} {ps : List (Value × List Int)} {M : List Value} {i : Nat} {y : Value} (h : Has id 22 w lo (.slice a n c) M) (hy : M[i]? = some y) : ∃ g, a = some ⟨g, 0, none⟩ ∧ w.cell? ⟨g, i, none⟩ = some y := by
  obtain ⟨p, o, ha, hc⟩ := lies_at (enc := id) h.lies hy
  obtain ⟨a', c', hv, hg⟩ := h.form
  injection hv with e1 e2 e3
  obtain ⟨g, hg⟩ := hg (by have := (List.getElem?_eq_some_iff.1 hy).1; omega)
  rw [e1, hg] at ha
  injection ha with ha
  injection ha with h1 h2
  subst h1; subst h2
  rw [Nat.zero_add] at hc
  exact ⟨g, by rw [e1, hg], hc⟩
theorem idx (v u : Value) (xs : List Int) (B lo hi : Nat) (ps : List (Value × List Int)) (w : World) (hB : w.cell? ⟨B, 0, none⟩ = some u) (h1 : Lies (Value.int .i64) w u xs) (hv : Has id 22 w lo v (ps.map Prod.fst)) (hf : FamP w lo hi ps) (hs : xs.length ≤ 4194304) (hs2 : ∀ p ∈ ps, p.2.length ≤ 4194304) :
    Calls Try.prog 49 #[v, .func (.func 41) #[] #[.pointer (some ⟨B, 0, none⟩)]] w (IdxE ps xs w) := by
  have eg : ∀ args w, (callFunc 41 args).run Try.prog w = .ok (.enter 41 args) w := enters_of Try.func41 (by kernel_rfl) rfl
  obtain ⟨a, c, rfl, _⟩ := hv.form
  have HV := Lib.hid hv
  have HF := Lib.hid hf
  have HX := Lib.hid h1
  have HBX := Lib.hid hB
  have HS2 := Lib.hid hs2
  have hml : (ps.map Prod.fst).length = ps.length := List.length_map ..
  rw [hml] at HV ⊢
  have hsm : ps.length ≤ 9223372036854775807 := by have := HV.out.small; omega
  clear hv hf h1 hB hs2 hml
  go_enter Try.func49, Try.ntmps49
  go_wp2
  go_loopw [8] (fun i' wr => ∃ i : Nat, i ≤ ps.length ∧ i' = .int .i64 i ∧ Hid (∀ p ∈ ps.take i, rsB xs p.2 = true) ∧ Hid (Below w.heap.size w wr)) (fun i' _ => ps.length - (intOf i').toNat)
  case atStart => exact ⟨0, Nat.zero_le _, rfl, (fun p hp => by simp at hp), Below.refl _ _⟩
  case round =>
    obtain ⟨i, hi', rfl, HI, HBr⟩ := hrel
    by_cases hlt : i < ps.length
    · obtain ⟨p, hp⟩ : ∃ p, ps[i]? = some p := ⟨_, List.getElem?_eq_getElem hlt⟩
      obtain ⟨g, ha, c1⟩ := top_at (ps := ps) (HV.out.below HBr.out) (i := i) (y := p.1) (by rw [List.getElem?_map, hp]; rfl)
      subst ha
      have hpo := (HF.out.own p (List.mem_of_getElem? hp)).below HBr.out
      obtain ⟨va, vc, hpv⟩ := hpo.form
      have HC := Lib.hid (closure p.1 u xs p.2 B wr ((HBr.out.cell (p := ⟨B, 0, none⟩) (World.block_lt_of_cell? _ _ HBX.out)).trans HBX.out) (HX.out.below HBr.out) hpo.lies hs (HS2.out p (List.mem_of_getElem? hp)))
      rw [hpv] at c1 HC
      obtain ⟨r, hr⟩ : ∃ r, r = rsB xs p.2 := ⟨_, rfl⟩
      rw [← hr] at HC
      have HR := Lib.hid hr
      have HPP := Lib.hid hp
      clear hp hpo hpv hr
      cases r with
      | true =>
        have HN : Hid (∀ q ∈ ps.take (i + 1), rsB xs q.2 = true) := fun q hq => by
          rw [take_two HPP.out] at hq
          rcases List.mem_append.1 hq with h | h
          · exact HI.out q h
          · rw [List.mem_singleton.1 h]; exact HR.out.symm
        go_wp2_with (go_at_fn 41; refine HC.out.mono ?_; rintro e w5 ⟨rfl, b5⟩)
        go_roundw
        case rel => exact ⟨i + 1, by omega, by go_num, HN, HBr.out.trans (b5.mono HBr.out.size)⟩
        case measure => simp [intOf]; omega
      | false =>
        go_wp2_with (go_at_fn 41; refine HC.out.mono ?_; rintro e w5 ⟨rfl, b5⟩)
        go_ret
        exact ⟨_, rfl, .inr ⟨i, rfl, hlt, HI.out, fun q hq => by obtain rfl := Option.some.inj (HPP.out.symm.trans hq); exact HR.out.symm⟩, HBr.out.trans (b5.mono HBr.out.size)⟩
    · have HE : Hid (∀ p ∈ ps, rsB xs p.2 = true) := by
        have := HI.out
        rw [List.take_of_length_le (by omega)] at this
        exact this
      go_wp2
      go_ret
      exact ⟨_, rfl, .inl ⟨rfl, HE.out⟩, HBr.out⟩
end Fac
end Go.Proofs.Ytgbgcaaekpgapab
