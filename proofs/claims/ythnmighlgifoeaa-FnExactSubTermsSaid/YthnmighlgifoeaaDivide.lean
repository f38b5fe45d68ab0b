/- Contracts of the functions that divide the states of the program's sequence into classes. No conditions beyond those that each states. -/
import Derived.Test.YthnmighlgifoeaaKeys4
namespace Go.Proofs.Ythnmighlgifoeaa
open Go.ChangeShapes Go.WideShapes Go.ChangeAt Go.RowKit
open Go.PlainAid Plain
set_option linter.unusedVariables false
namespace Mins
open Seqs
/-- Every cell that was is still as it was. -/
def Kept (w w' : World) : Prop := ∀ p o x, w.cell? ⟨p, o, none⟩ = some x → w'.cell? ⟨p, o, none⟩ = some x
theorem Kept.lies {α : Type} {enc : α → Value} {w w' : World} {v : Value} {xs : List α} (h : Kept w w') (hl : Lies enc w v xs) : Lies enc w' v xs := by
  obtain ⟨h1, a, c, rfl, h2, h3⟩ := hl
  refine ⟨h1, a, c, rfl, h2, fun i x hx => ?_⟩
  obtain ⟨b, off, h4, h5⟩ := h3 i x hx
  exact ⟨b, off, h4, h _ _ _ h5⟩
theorem Kept.liesR {w w' : World} {v : Value} {rows : List (List Int)} (h : Kept w w') (hl : LiesR w v rows) : LiesR w' v rows := by
  obtain ⟨us, h1, h2, h3⟩ := hl
  exact ⟨us, h.lies h1, h2, fun i u r hu hr => h.lies (h3 i u r hu hr)⟩
theorem Kept.liesS {w w' : World} {v : Value} {b : Int} {rows : List (List Int)} {out : List Int} (h : Kept w w') (hl : LiesS w v b rows out) : LiesS w' v b rows out := by
  obtain ⟨vn, vo, h1, h2, h3⟩ := hl
  exact ⟨vn, vo, h1, h.liesR h2, h.lies h3⟩
theorem kept_map {κ : Type} {enc : κ → Value} {w w' : World} {mb : Nat} {keys : List κ} (hm : MapOf enc w mb keys) (hg : w.grownBy w' (some mb)) : Kept w w' := fun p o x hx => by
  obtain ⟨es, clock, hb, _⟩ := hm
  have hlt := World.block_lt_of_cell? w _ hx
  have hne : some p ≠ some mb := fun e => by
    injection e with e
    subst e
    simp [World.cell?, hb] at hx
  rw [← hx]
  exact World.cell?_of_block (hg.block p hlt hne)
theorem below_some {w w' : World} {r : Option Nat} (h : Below w.heap.size w w') : w.grownBy w' r := ⟨h.os, h.tape, h.output, h.size, fun k hk _ => h.block k hk⟩
theorem fill_set {l : List Int} {n i : Nat} (c : Int) (hl : l.length = i) (h : i < n) : ((l ++ List.replicate (n - i) 0).map (Value.int .i64)).set i (.int .i64 c) = ((l ++ [c]) ++ List.replicate (n - (i + 1)) 0).map (Value.int .i64) := by
  rw [show n - i = (n - (i + 1)) + 1 from by omega, List.replicate_succ, List.map_append, List.map_cons, set_mid _ _ _ _ i (by rw [List.length_map]; exact hl), List.append_assoc, List.map_append]
  rfl
theorem keysOf_len (rows : List (List Int)) (out cls : List Int) : (keysOf rows out cls).length = rows.length := by simp [keysOf]
theorem keysOf_get {rows : List (List Int)} {out cls : List Int} {i : Nat} (h : i < rows.length) : (keysOf rows out cls)[i]? = some (keyC rows out cls i) := by simp [keysOf, h]
theorem take_succ' {α : Type} {l : List α} {i : Nat} {x : α} (h : l[i]? = some x) : l.take (i + 1) = l.take i ++ [x] := by
  obtain ⟨hk, rfl⟩ := List.getElem?_eq_some_iff.1 h
  exact List.take_succ_eq_append_getElem hk
/-- The keys are good ones. -/
theorem keyC_ok {b : Int} {rows : List (List Int)} {out cls : List Int} (hv : IsSeq b rows out) (hc : ∀ x ∈ cls, 0 ≤ x ∧ x ≤ 1000) {s : Nat} (hs : s < rows.length) : OkK (b.toNat + 1) (keyC rows out cls s) := by
  have h1 : rows.getD s [] ∈ rows := by
    rw [List.getD_eq_getElem?_getD, List.getElem?_eq_getElem hs]
    exact List.getElem_mem _
  have h2 := (hv.2.2.2.2.2.1 _ h1).1
  refine ⟨by simp [keyC]; simp [List.getD_eq_getElem?_getD] at h2; omega, fun x hx => ?_⟩
  rw [keyC, List.mem_cons] at hx
  rcases hx with rfl | hx
  · have h3 := hv.2.2.2.2.1
    have h4 := hv.2.2.2.2.2.2 (out.getD s 0) (by
      rw [List.getD_eq_getElem?_getD, List.getElem?_eq_getElem (show s < out.length by omega)]
      exact List.getElem_mem _)
    omega
  · obtain ⟨y, _, rfl⟩ := List.mem_map.1 hx
    exact getD_bd hc _
theorem keysOf_ok {b : Int} {rows : List (List Int)} {out cls : List Int} (hv : IsSeq b rows out) (hc : ∀ x ∈ cls, 0 ≤ x ∧ x ≤ 1000) {i : Nat} : ∀ k ∈ dist ((keysOf rows out cls).take i), OkK (b.toNat + 1) k := fun k hk => by
  have h1 := List.mem_of_mem_take (mem_dist.1 hk)
  simp only [keysOf, List.mem_map, List.mem_range] at h1
  obtain ⟨s, hs, rfl⟩ := h1
  exact keyC_ok hv hc hs
theorem zeroI (w : World) : (zeroValue 3).run Try.prog w = .ok (.int .i64 0) w := by kernel_rfl
set_option maxHeartbeats 1000000 in
theorem divided_any (v : Value) (b : Int) (rows : List (List Int)) (out : List Int) (w : World) (h : LiesS w v b rows out) (hv : IsSeq b rows out) (u : Value) (cls : List Int) (hu : Lies (Value.int .i64) w u cls) (hl : cls.length = rows.length) (hc : ∀ x ∈ cls, 0 ≤ x ∧ x ≤ 1000) (mb : Nat) (hm : MapOf encK w mb []) :
    Calls Try.prog 99 #[v, u, .map (some mb)] w fun e w' => ∃ v', e = .returned v' ∧ Has (Value.int .i64) 3 w' w.heap.size v' (numb (keysOf rows out cls)) ∧ MapOf encK w' mb (dist (keysOf rows out cls)) ∧ w.grownBy w' (some mb) := by
  obtain ⟨i0, hi, hz0, hz1, hz2⟩ := info_parts Ints.infoI
  have HCLS := Lib.hid hu
  have HCB := Lib.hid hc
  have HM := Lib.hid hm
  have HS := Lib.hid h
  obtain ⟨an, cn, ao, co, rfl⟩ := h.form
  clear h
  have HB : Hid (Below w.heap.size w (w.alloc (Obj.cells #[Value.int .i64 b, Value.slice an rows.length cn, Value.slice ao out.length co] 27))) := (Below.refl _ _).alloc (Nat.le_refl _) _
  have HC := Lib.hid (Cells3.new w 27 (.int .i64 b) (.slice an rows.length cn) (.slice ao out.length co))
  have HV := Lib.hid hv
  have HL := Lib.hid hl
  have hn16 : cls.length ≤ 16 := by have := hv.2.2.2.1; omega
  have hnr : cls.length ≤ rows.length := by omega
  have hmb := hm.lt
  have HN5 : Hid (b.toNat + 1 ≤ 5) := by have := hv.1; have := hv.2.1; show _ ≤ _; omega
  obtain ⟨a, ca, rfl⟩ : ∃ a c, u = .slice a cls.length c := by
    obtain ⟨_, a, c, h1, _⟩ := hu
    exact ⟨a, c, h1⟩
  clear hu hv hl hc hm
  obtain ⟨K, hK⟩ : ∃ K, K = keysOf rows out cls := ⟨_, rfl⟩
  have HKE := Lib.hid hK
  have HKL : Hid (K.length = cls.length) := by show _ = _; rw [hK, keysOf_len]; exact HL.out.symm
  have HKG : Hid (∀ i < cls.length, K[i]? = some (keyC rows out cls i)) := fun i hi => by rw [hK]; exact keysOf_get (by omega)
  have HKO : Hid (∀ i, ∀ k ∈ dist (K.take i), OkK (b.toNat + 1) k) := fun i => by rw [hK]; exact keysOf_ok HV.out HCB.out
  have HGK := Lib.hid (goodK (b.toNat + 1) HN5.out)
  rw [← hK]
  clear hK
  have k0 := HC.out.c0
  have k1 := HC.out.c1
  have k2 := HC.out.c2
  go_enter Try.func99, Try.ntmps99
  go_wp2_with (at_make; refine wpList_make_full (w.alloc (Obj.cells #[Value.int .i64 b, Value.slice an rows.length cn, Value.slice ao out.length co] 27)) rfl _ _ 23 rfl (w.heap.size + 1) 3 i0 (.int .i64 0) 1 Try.underlying23 hi hz0 hz1 .i64 .i64 _ _ cls.length rfl rfl rfl rfl (by rw [hz2]; omega) (by unfold maxLen; omega) (by simp) ?_; intro w1 hown hgrow)
  have hO : Hid (w1.ownsRow (w.heap.size + 1) 3 1 (.slice (some ⟨w.heap.size + 1, 0, none⟩) cls.length cls.length) cls.length ((numb (K.take 0) ++ List.replicate (cls.length - 0) (0 : Int)).map (Value.int .i64))) := by
    show w1.ownsRow _ _ _ _ _ _
    rw [Ints.zero_made] at hown
    rw [size_alloc'] at hown
    simpa [numb] using hown
  have hM : Hid (MapOf encK w1 mb (dist (K.take 0))) := ((HM.out.below HB.out).below (below_of_grown hgrow))
  have hC := Lib.hid (HC.out.below (below_of_grown hgrow))
  have hG : Hid (w.grownBy w1 (some mb)) := below_some (HB.out.trans ((below_of_grown hgrow).mono HB.out.size))
  clear hown hgrow HC HB k0 k1 k2
  go_loopw [17] (fun i' wr => ∃ i : Nat, i ≤ cls.length ∧ i' = .int .i64 i ∧ Hid (wr.ownsRow (w.heap.size + 1) 3 1 (.slice (some ⟨w.heap.size + 1, 0, none⟩) cls.length cls.length) cls.length ((numb (K.take i) ++ List.replicate (cls.length - i) (0 : Int)).map (Value.int .i64))) ∧ Hid (MapOf encK wr mb (dist (K.take i))) ∧ Hid (Cells3 wr w.heap.size 27 (.int .i64 b) (.slice an rows.length cn) (.slice ao out.length co)) ∧ Hid (w.grownBy wr (some mb))) (fun i' _ => cls.length - (intOf i').toNat)
  case atStart => exact ⟨0, Nat.zero_le _, rfl, hO, hM, hC, hG⟩
  case round =>
    clear hO hM hC hG
    obtain ⟨i, hil, rfl, hO, hM, hC, hG⟩ := hrel
    by_cases hlt : i < cls.length
    case neg =>
      obtain rfl : i = cls.length := by omega
      have hE : K.take cls.length = K := by rw [← HKL.out]; exact List.take_length
      have HX : Hid (Has (Value.int .i64) 3 wr w.heap.size (.slice (some ⟨w.heap.size + 1, 0, none⟩) cls.length cls.length) (numb K)) := by
        have h1 := hO.out
        rw [hE, Nat.sub_self, List.replicate_zero, List.append_nil] at h1
        have h2 : Has (Value.int .i64) 3 wr (w.heap.size + 1) (.slice (some ⟨w.heap.size + 1, 0, none⟩) cls.length cls.length) (numb K) := by
          show wr.ownsRow _ _ _ _ _ _
          rw [numb_len, HKL.out]
          exact h1
        exact h2.mono (Nat.le_succ _)
      have HY : Hid (MapOf encK wr mb (dist K)) := by have h1 := hM.out; rw [hE] at h1; exact h1
      clear hE hO hM
      go_wp2
      go_ret
      exact ⟨_, rfl, HX.out, HY.out, hG.out⟩
    case pos =>
      obtain ⟨kk, hkk⟩ : ∃ k, k = keyC rows out cls i := ⟨_, rfl⟩
      have HKI : Hid (K[i]? = some kk) := by rw [hkk]; exact HKG.out i hlt
      have HOK : Hid (OkK (b.toNat + 1) kk) := by rw [hkk]; exact keyC_ok HV.out HCB.out (by omega)
      obtain ⟨v0, v1, v2, v3, v4, hek⟩ : ∃ v0 v1 v2 v3 v4 : Int, encK kk = .agg #[.int .i64 v0, .int .i64 v1, .int .i64 v2, .int .i64 v3, .int .i64 v4] := ⟨_, _, _, _, _, rfl⟩
      have HEK := Lib.hid hek
      have HLT := Lib.hid (take_succ' HKI.out)
      have HNL : Hid ((numb (K.take i)).length = i) := by show _ = _; rw [numb_len, List.length_take, HKL.out]; omega
      have HKP := Lib.hid (kept_map HM.out hG.out)
      have HCT := Lib.hid (key_of _ b rows out wr (HKP.out.liesS HS.out) HV.out _ cls (HKP.out.lies HCLS.out) HL.out i (by omega))
      rw [← hkk, hek] at HCT
      clear hkk hek
      have k0 := hC.out.c0
      have k1 := hC.out.c1
      have k2 := hC.out.c2
      have i1 : (i : Int) < (cls.length : Int) := by omega
      have i0' : (0 : Int) ≤ (i : Int) := Int.natCast_nonneg _
      go_wp2_with fail
      refine (HCT.out).mono ?_
      rintro e W1 ⟨rfl, b1⟩
      have HB2 := Lib.hid (b1.alloc b1.size (Obj.cells #[Value.int .i64 v0, Value.int .i64 v1, Value.int .i64 v2, Value.int .i64 v3, Value.int .i64 v4] 91))
      have HM2 := Lib.hid (hM.out.below HB2.out)
      have hC2 := Lib.hid (hC.out.below HB2.out)
      have HO2 := Lib.hid (World.ownsRow.kept hO.out (grown_of_below HB2.out) (.inr (by simp [Value.ownBlock])))
      have HG2 : Hid (w.grownBy (W1.alloc (Obj.cells #[Value.int .i64 v0, Value.int .i64 v1, Value.int .i64 v2, Value.int .i64 v3, Value.int .i64 v4] 91)) (some mb)) := grown_trans' hG.out (below_some HB2.out)
      clear hO hM hC hG b1 k0 k1 k2 HB2
      by_cases hin : kk ∈ K.take i
      · have HIN := Lib.hid (mem_dist.2 hin)
        have hnum := numb_old hin
        obtain ⟨c, hc⟩ : ∃ c : Nat, c = ix (dist (K.take i)) kk := ⟨_, rfl⟩
        rw [← hc] at hnum
        have HC := Lib.hid hc
        have HDI : Hid (dist (K.take (i + 1)) = dist (K.take i)) := by show _ = _; rw [HLT.out, dist_snoc, addTo_in HIN.out]
        have HST := fill_set (l := numb (K.take i)) (n := cls.length) (c : Int) HNL.out hlt
        rw [← hnum, ← HLT.out] at HST
        have q1 := HO2.out.cellAt i (by omega)
        have q2 := HO2.out.frozenAt i
        have hst := HO2.out.stored i (.int .i64 (c : Int))
        rw [HST] at hst
        have HS3 := Lib.hid hst
        rw [List.getElem?_map, List.getElem?_append_right (by rw [HNL.out]; exact Nat.le_refl _), List.getElem?_replicate, if_pos (by rw [HNL.out]; omega)] at q1
        clear hin hc hnum HST hst
        go_wp2_with ((at_lookup; refine wpList_look_yes _ rfl _ _ 86 rfl HGK.out Try.underlying86 rfl HM2.out (HKO.out i) (dist_nodup _) kk (by exact HEK.out.symm) HOK.out HIN.out ?_; rw [← HC.out]))
        go_roundw
        case rel => exact ⟨i + 1, by omega, by go_num, HS3.out.1, by show MapOf _ _ _ _; rw [HDI.out]; exact HM2.out.grown HS3.out.2 (fun e => by cases e; omega), hC2.out.grown HS3.out.2 (fun e => by have e2 : w.heap.size + 1 = w.heap.size := Option.some.inj e; omega), HG2.out.andThen HS3.out.2 (fun j hj => by cases hj; exact .inl (Nat.le_succ _))⟩
        case measure => simp [intOf]; omega
      · have HIN : Hid (kk ∉ dist (K.take i)) := fun h => hin (mem_dist.1 h)
        have hnum := numb_new hin
        obtain ⟨c, hc⟩ : ∃ c : Nat, c = (dist (K.take i)).length := ⟨_, rfl⟩
        rw [← hc] at hnum
        have HC := Lib.hid hc
        have HDI : Hid (dist (K.take (i + 1)) = dist (K.take i) ++ [kk]) := by show _ = _; rw [HLT.out, dist_snoc, addTo_new HIN.out]
        have HST := fill_set (l := numb (K.take i)) (n := cls.length) (c : Int) HNL.out hlt
        rw [← hnum, ← HLT.out] at HST
        have HST2 := Lib.hid HST
        clear hin hc hnum HST
        go_wp2_with (first | (at_lookup; refine wpList_look_no _ rfl _ _ 86 rfl HGK.out Try.underlying86 (zeroI _) rfl HM2.out (HKO.out i) (dist_nodup _) kk (by exact HEK.out.symm) HOK.out HIN.out ?_) | (at_len; refine wpList_maplen _ rfl _ 86 rfl Try.underlying86 rfl HM2.out ?_; rw [← HC.out]) | (at_mapUpdate; refine wpList_store_new _ rfl _ _ _ 86 rfl HGK.out Try.underlying86 rfl HM2.out (HKO.out i) (dist_nodup _) kk (by exact HEK.out.symm) (by rw [← HC.out]; rfl) HOK.out HIN.out ?_; intro w3 hm3 hg3; have hO3 := World.ownsRow.kept HO2.out hg3 (.inr (by simp [Value.ownBlock]; omega)); have q1 := hO3.cellAt i (by omega); have q2 := hO3.frozenAt i; have hst := hO3.stored i (.int .i64 (c : Int)); rw [HST2.out] at hst; have HS3 := Lib.hid hst; rw [List.getElem?_map, List.getElem?_append_right (by rw [HNL.out]; exact Nat.le_refl _), List.getElem?_replicate, if_pos (by rw [HNL.out]; omega)] at q1; clear hst hO3))
        go_roundw
        case rel => exact ⟨i + 1, by omega, by go_num, HS3.out.1, by show MapOf _ _ _ _; rw [HDI.out]; exact hm3.grown HS3.out.2 (fun e => by cases e; omega), (hC2.out.grown hg3 (fun e => by cases e; omega)).grown HS3.out.2 (fun e => by have e2 : w.heap.size + 1 = w.heap.size := Option.some.inj e; omega), (grown_trans' HG2.out hg3).andThen HS3.out.2 (fun j hj => by cases hj; exact .inl (Nat.le_succ _))⟩
        case measure => simp [intOf]; omega
theorem clsR_bd {b : Int} {rows : List (List Int)} {out : List Int} (hv : IsSeq b rows out) (k : Nat) : ∀ x ∈ clsR rows out k, 0 ≤ x ∧ x ≤ 1000 := fun x hx => by
  have h1 := numb_bd hx
  have h2 := cntR_le rows out k
  have h3 := hv.2.2.2.1
  have h4 : (dist (keysR rows out k)).length = cntR rows out k := rfl
  omega
set_option maxHeartbeats 1000000 in
theorem classes_any (v : Value) (b : Int) (rows : List (List Int)) (out : List Int) (w : World) (h : LiesS w v b rows out) (hv : IsSeq b rows out) :
    Calls Try.prog 94 #[v] w (fun e w' => ∃ vc mb, e = .returned (.tuple #[vc, .map (some mb)]) ∧ Has (Value.int .i64) 3 w' w.heap.size vc (classes rows out) ∧ MapOf encK w' mb (keysQ rows out) ∧ w.heap.size ≤ mb ∧ Below w.heap.size w w') := by
  obtain ⟨i0, hi, hz0, hz1, hz2⟩ := info_parts Ints.infoI
  have HS := Lib.hid h
  obtain ⟨an, cn, ao, co, rfl⟩ := h.form
  clear h
  have HB : Hid (Below w.heap.size w (w.alloc (Obj.cells #[Value.int .i64 b, Value.slice an rows.length cn, Value.slice ao out.length co] 27))) := (Below.refl _ _).alloc (Nat.le_refl _) _
  have HC := Lib.hid (Cells3.new w 27 (.int .i64 b) (.slice an rows.length cn) (.slice ao out.length co))
  have HV := Lib.hid hv
  have HA := Lib.hid hv.auto
  have hn16 : rows.length ≤ 16 := hv.2.2.2.1
  clear hv
  have k0 := HC.out.c0
  have k1 := HC.out.c1
  have k2 := HC.out.c2
  have hmm := @run_makeMap Try.prog
  go_enter Try.func94, Try.ntmps94
  go_wp2_with (at_make; refine wpList_make_full (w.alloc (Obj.cells #[Value.int .i64 b, Value.slice an rows.length cn, Value.slice ao out.length co] 27)) rfl _ _ 23 rfl (w.heap.size + 1) 3 i0 (.int .i64 0) 1 Try.underlying23 hi hz0 hz1 .i64 .i64 _ _ rows.length rfl rfl rfl rfl (by rw [hz2]; omega) (by unfold maxLen; omega) (by simp) ?_; intro w1 hown hgrow)
  have hG := below_of_grown hgrow
  have hs1 : w.heap.size + 2 ≤ w1.heap.size := by
    have h1 := World.ownsRow.lt hown (w.heap.size + 1) (by rw [size_alloc']; rfl)
    omega
  have hO : Hid (Has (Value.int .i64) 3 (w1.alloc (.map #[] 0)) (w.heap.size + 1) (.slice (some ⟨w.heap.size + 1, 0, none⟩) rows.length rows.length) (clsR rows out 0)) := by
    rw [Ints.zero_made, size_alloc'] at hown
    have h1 : Has (Value.int .i64) 3 w1 (w.heap.size + 1) (.slice (some ⟨w.heap.size + 1, 0, none⟩) rows.length rows.length) (clsR rows out 0) := by
      rw [clsR_zero]
      show w1.ownsRow _ _ _ _ _ _
      simpa using hown
    exact h1.below ((Below.refl _ _).alloc (Nat.le_refl _) _)
  have hB : Hid (Below w.heap.size w (w1.alloc (.map #[] 0))) := (HB.out.trans (hG.mono HB.out.size)).alloc (by omega) _
  have hC := Lib.hid ((HC.out.below hG).alloc (.map #[] 0))
  have hM : Hid (MapOf encK (w1.alloc (.map #[] 0)) w1.heap.size []) := MapOf.made w1
  obtain ⟨mb, hmb⟩ : ∃ mb, mb = w1.heap.size := ⟨_, rfl⟩
  obtain ⟨W0, hW0⟩ : ∃ W, W = w1.alloc (.map #[] 0) := ⟨_, rfl⟩
  rw [← hW0, ← hmb] at hM
  rw [← hW0] at hO hB hC
  rw [← hW0, ← hmb]
  rw [← hmb] at hs1
  clear hW0 hmb hown hgrow hG HB HC k0 k1 k2 hmm
  go_loopw [4, 6] (fun c' n' wr => ∃ k c : Nat, Hid (c = cntR rows out k) ∧ n' = .int .i64 c ∧ Hid (∀ j < k, cntR rows out (j + 1) ≠ cntR rows out j) ∧ Hid (Has (Value.int .i64) 3 wr (w.heap.size + 1) c' (clsR rows out k)) ∧ Hid (∃ ks, MapOf encK wr mb ks) ∧ Hid (Cells3 wr w.heap.size 27 (.int .i64 b) (.slice an rows.length cn) (.slice ao out.length co)) ∧ Hid (Below w.heap.size w wr)) (fun _ n' _ => 17 - (intOf n').toNat)
  case atStart => exact ⟨0, 1, (cntR_zero out HA.out.closed.1).symm, rfl, fun j hj => by omega, hO, ⟨_, hM⟩, hC, hB⟩
  case round =>
    clear hO hB hC hM
    obtain ⟨k, c0, hc0, rfl, hne, hO, hM, hC, hB⟩ := hrel
    obtain ⟨ks, hks⟩ := hM.out
    obtain ⟨a1, ca1, rfl, _⟩ := hO.out.form
    obtain ⟨c1, hc1⟩ : ∃ c, c = cntR rows out (k + 1) := ⟨_, rfl⟩
    have HC1 := Lib.hid hc1
    have HD1 : Hid ((dist (keysOf rows out (clsR rows out k))).length = c1) := by rw [hc1]; rfl
    have hcl : c0 ≤ c1 ∧ c1 ≤ 16 := by
      have h1 := cnt_up HA.out k
      have h2 := cntR_le rows out (k + 1)
      have h3 := hc0.out
      omega
    have HKS := Lib.hid hks
    clear hks hc1 hM
    have k0 := hC.out.c0
    have k1 := hC.out.c1
    have k2 := hC.out.c2
    go_wp2_with (refine wpList_clear _ rfl _ 86 rfl Try.underlying86 rfl HKS.out ?_; intro w2 hm2 hg2; have HKP := Lib.hid (kept_map HKS.out hg2); have hC2 := hC.out.grown hg2 (fun e => by cases e; omega); have j0 := hC2.c0; have j1 := hC2.c1; have j2 := hC2.c2)
    have HB2 := Lib.hid (hB.out.grown hg2 hB.out.size (fun k hk => by cases hk; omega))
    have HM2 := Lib.hid hm2
    have HC2 := Lib.hid hC2
    refine (divided_any _ b rows out w2 (HKP.out.liesS (HS.out.below hB.out)) HV.out _ (clsR rows out k) (HKP.out.lies hO.out.lies) (clsR_len _ _ _) (clsR_bd HV.out k) mb HM2.out).mono ?_
    rintro e w3 ⟨v', rfl, hv', hm3, hg3⟩
    have HB3 := Lib.hid (HB2.out.grown hg3 HB2.out.size (fun k hk => by cases hk; omega))
    have HC3 := Lib.hid (HC2.out.grown hg3 (fun e => by cases e; omega))
    have HM3 := Lib.hid hm3
    have HO3 : Hid (Has (Value.int .i64) 3 w3 w2.heap.size v' (clsR rows out (k + 1))) := hv'
    have HS2 : Hid (w.heap.size + 1 ≤ w2.heap.size) := by
      have h1 := HC2.out.lt
      show _ ≤ _
      omega
    clear hm2 hg2 hC2 j0 j1 j2 k0 k1 k2 hv' hm3 hg3 hB hC hO HB2 HC2 HM2 HKS HKP
    by_cases he : c1 = c0
    · have hd : ((c1 : Int) == (c0 : Int)) = true := by rw [he]; simp
      have HE := Lib.hid (show cntR rows out (k + 1) = cntR rows out k by rw [← HC1.out, ← hc0.out, he])
      have HKL : Hid (k ≤ rows.length + 1) := by
        have h1 := stops_le HA.out k hne.out
        show _ ≤ _
        omega
      have HF := Lib.hid (classes_at HA.out HKL.out HE.out)
      have HQ := Lib.hid (keysQ_at HA.out HKL.out HE.out)
      have HX : Hid (Has (Value.int .i64) 3 w3 w.heap.size v' (classes rows out)) := by
        have h1 := HO3.out
        rw [HF.out.1] at h1
        exact h1.mono (by have := HS2.out; omega)
      have HY : Hid (MapOf encK w3 mb (keysQ rows out)) := by
        have h1 := HM3.out
        rw [← HQ.out]
        exact h1
      clear he
      go_wp2_with (at_len; refine wpList_maplen _ rfl _ 86 rfl Try.underlying86 rfl HM3.out ?_; rw [HD1.out])
      go_ret2
      exact ⟨_, _, rfl, HX.out, HY.out, by omega, HB3.out⟩
    · have hd : ((c1 : Int) == (c0 : Int)) = false := by simp; omega
      have HNE : Hid (∀ j < k + 1, cntR rows out (j + 1) ≠ cntR rows out j) := fun j hj => by
        by_cases e : j = k
        · subst e
          rw [← HC1.out, ← hc0.out]
          exact he
        · exact hne.out j (by omega)
      have HO4 := Lib.hid (HO3.out.mono HS2.out)
      have hlt : c0 < c1 := by omega
      clear he
      go_wp2_with (at_len; refine wpList_maplen _ rfl _ 86 rfl Try.underlying86 rfl HM3.out ?_; rw [HD1.out])
      go_roundw
      case rel => exact ⟨k + 1, c1, HC1, rfl, HNE, HO4, ⟨_, HM3.out⟩, HC3, HB3⟩
      case measure => simp [intOf]; omega
theorem class_len {b : Int} {rows : List (List Int)} {out : List Int} : (classV b rows out).length ≤ 16 := by
  unfold classV
  split
  · rename_i h
    have hv := seqB_out h
    rw [classes_len]
    exact hv.2.2.2.1
  · simp
end Mins
end Go.Proofs.Ythnmighlgifoeaa
