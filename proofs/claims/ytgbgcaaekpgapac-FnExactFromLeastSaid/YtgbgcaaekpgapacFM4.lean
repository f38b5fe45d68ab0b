/- Several texts of this proof, one behind the other: each says ahead of it what it shows and under which conditions. -/
import Derived.Test.YtgbgcaaekpgapacFM3
import Derived.Test.YtgbgcaaekpgapacFM2
import Derived.Deep.RegionHeld3
import Derived.Test.YtgbgcaaekpgapacFM1
import Derived.Deep.DeepCutAuto
/- Contracts of the functions that divide the states of the program's sequence into classes. No conditions beyond those that each states. -/
namespace Go.Proofs.Ytgbgcaaekpgapac
open Go.ChangeShapes Go.WideShapes Go.ChangeAt Go.RowKit
open Go.PlainAid Plain
set_option linter.unusedVariables false
namespace Mins
open Seqs
/-- Every cell that was is still as it was. -/
def Kept (w w' : World) : Prop := ∀ p o x, w.cell? ⟨p, o, none⟩ = some x → w'.cell? ⟨p, o, none⟩ = some x
theorem Kept.lies {α : Type} {enc : α → Value} {w w' : World} {v : Value} {xs : List α} (h : Kept w w') (hl : Lies enc w v xs) : Lies enc w' v xs := by
  obtain ⟨h1, a, c, rfl, h2, h3⟩ := hl
  refine ⟨h1, a, c, rfl, h2, fun i x hx => ?_⟩
  obtain ⟨b, off, h4, h5⟩ := h3 i x hx
  exact ⟨b, off, h4, h _ _ _ h5⟩
theorem Kept.liesR {w w' : World} {v : Value} {rows : List (List Int)} (h : Kept w w') (hl : LiesR w v rows) : LiesR w' v rows := by
  obtain ⟨us, h1, h2, h3⟩ := hl
  exact ⟨us, h.lies h1, h2, fun i u r hu hr => h.lies (h3 i u r hu hr)⟩
theorem Kept.liesS {w w' : World} {v : Value} {b : Int} {rows : List (List Int)} {out : List Int} (h : Kept w w') (hl : LiesS w v b rows out) : LiesS w' v b rows out := by
  obtain ⟨vn, vo, h1, h2, h3⟩ := hl
  exact ⟨vn, vo, h1, h.liesR h2, h.lies h3⟩
theorem kept_map {κ : Type} {enc : κ → Value} {w w' : World} {mb : Nat} {keys : List κ} (hm : MapOf enc w mb keys) (hg : w.grownBy w' (some mb)) : Kept w w' := fun p o x hx => by
  obtain ⟨es, clock, hb, _⟩ := hm
  have hlt := World.block_lt_of_cell? w _ hx
  have hne : some p ≠ some mb := fun e => by
    injection e with e
    subst e
    simp [World.cell?, hb] at hx
  rw [← hx]
  exact World.cell?_of_block (hg.block p hlt hne)
theorem below_some {w w' : World} {r : Option Nat} (h : Below w.heap.size w w') : w.grownBy w' r := ⟨h.os, h.tape, h.output, h.size, fun k hk _ => h.block k hk⟩
theorem fill_set {l : List Int} {n i : Nat} (c : Int) (hl : l.length = i) (h : i < n) : ((l ++ List.replicate (n - i) 0).map (Value.int .i64)).set i (.int .i64 c) = ((l ++ [c]) ++ List.replicate (n - (i + 1)) 0).map (Value.int .i64) := by
  rw [show n - i = (n - (i + 1)) + 1 from by omega, List.replicate_succ, List.map_append, List.map_cons, set_mid _ _ _ _ i (by rw [List.length_map]; exact hl), List.append_assoc, List.map_append]
  rfl
theorem keysOf_len (rows : List (List Int)) (out cls : List Int) : (keysOf rows out cls).length = rows.length := by simp [keysOf]
theorem keysOf_get {rows : List (List Int)} {out cls : List Int} {i : Nat} (h : i < rows.length) : (keysOf rows out cls)[i]? = some (keyC rows out cls i) := by simp [keysOf, h]
theorem take_succ' {α : Type} {l : List α} {i : Nat} {x : α} (h : l[i]? = some x) : l.take (i + 1) = l.take i ++ [x] := by
  obtain ⟨hk, rfl⟩ := List.getElem?_eq_some_iff.1 h
  exact List.take_succ_eq_append_getElem hk
/-- The keys are good ones. -/
theorem keyC_ok {b : Int} {rows : List (List Int)} {out cls : List Int} (hv : IsSeq b rows out) (hc : ∀ x ∈ cls, 0 ≤ x ∧ x ≤ 1000) {s : Nat} (hs : s < rows.length) : OkK (b.toNat + 1) (keyC rows out cls s) := by
  have h1 : rows.getD s [] ∈ rows := by
    rw [List.getD_eq_getElem?_getD, List.getElem?_eq_getElem hs]
    exact List.getElem_mem _
  have h2 := (hv.2.2.2.2.2.1 _ h1).1
  refine ⟨by simp [keyC]; simp [List.getD_eq_getElem?_getD] at h2; omega, fun x hx => ?_⟩
  rw [keyC, List.mem_cons] at hx
  rcases hx with rfl | hx
  · have h3 := hv.2.2.2.2.1
    have h4 := hv.2.2.2.2.2.2 (out.getD s 0) (by
      rw [List.getD_eq_getElem?_getD, List.getElem?_eq_getElem (show s < out.length by omega)]
      exact List.getElem_mem _)
    omega
  · obtain ⟨y, _, rfl⟩ := List.mem_map.1 hx
    exact getD_bd hc _
theorem keysOf_ok {b : Int} {rows : List (List Int)} {out cls : List Int} (hv : IsSeq b rows out) (hc : ∀ x ∈ cls, 0 ≤ x ∧ x ≤ 1000) {i : Nat} : ∀ k ∈ dist ((keysOf rows out cls).take i), OkK (b.toNat + 1) k := fun k hk => by
  have h1 := List.mem_of_mem_take (mem_dist.1 hk)
  simp only [keysOf, List.mem_map, List.mem_range] at h1
  obtain ⟨s, hs, rfl⟩ := h1
  exact keyC_ok hv hc hs
theorem zeroI (w : World) : (zeroValue 3).run Try.prog w = .ok (.int .i64 0) w := by kernel_rfl
set_option maxHeartbeats 1000000 in
theorem divided_any (v : Value) (b : Int) (rows : List (List Int)) (out : List Int) (w : World) (h : LiesS w v b rows out) (hv : IsSeq b rows out) (u : Value) (cls : List Int) (hu : Lies (Value.int .i64) w u cls) (hl : cls.length = rows.length) (hc : ∀ x ∈ cls, 0 ≤ x ∧ x ≤ 1000) (mb : Nat) (hm : MapOf encK w mb []) :
    Calls Try.prog 60 #[v, u, .map (some mb)] w fun e w' => ∃ v', e = .returned v' ∧ Has (Value.int .i64) 3 w' w.heap.size v' (numb (keysOf rows out cls)) ∧ MapOf encK w' mb (dist (keysOf rows out cls)) ∧ w.grownBy w' (some mb) := by
  obtain ⟨i0, hi, hz0, hz1, hz2⟩ := info_parts Ints.infoI
  have HCLS := Lib.hid hu
  have HCB := Lib.hid hc
  have HM := Lib.hid hm
  have HS := Lib.hid h
  obtain ⟨an, cn, ao, co, rfl⟩ := h.form
  clear h
  have HB : Hid (Below w.heap.size w (w.alloc (Obj.cells #[Value.int .i64 b, Value.slice an rows.length cn, Value.slice ao out.length co] 30))) := (Below.refl _ _).alloc (Nat.le_refl _) _
  have HC := Lib.hid (Cells3.new w 30 (.int .i64 b) (.slice an rows.length cn) (.slice ao out.length co))
  have HV := Lib.hid hv
  have HL := Lib.hid hl
  have hn16 : cls.length ≤ 16 := by have := hv.2.2.2.1; omega
  have hnr : cls.length ≤ rows.length := by omega
  have hmb := hm.lt
  have HN5 : Hid (b.toNat + 1 ≤ 5) := by have := hv.1; have := hv.2.1; show _ ≤ _; omega
  obtain ⟨a, ca, rfl⟩ : ∃ a c, u = .slice a cls.length c := by
    obtain ⟨_, a, c, h1, _⟩ := hu
    exact ⟨a, c, h1⟩
  clear hu hv hl hc hm
  obtain ⟨K, hK⟩ : ∃ K, K = keysOf rows out cls := ⟨_, rfl⟩
  have HKE := Lib.hid hK
  have HKL : Hid (K.length = cls.length) := by show _ = _; rw [hK, keysOf_len]; exact HL.out.symm
  have HKG : Hid (∀ i < cls.length, K[i]? = some (keyC rows out cls i)) := fun i hi => by rw [hK]; exact keysOf_get (by omega)
  have HKO : Hid (∀ i, ∀ k ∈ dist (K.take i), OkK (b.toNat + 1) k) := fun i => by rw [hK]; exact keysOf_ok HV.out HCB.out
  have HGK := Lib.hid (goodK (b.toNat + 1) HN5.out)
  rw [← hK]
  clear hK
  have k0 := HC.out.c0
  have k1 := HC.out.c1
  have k2 := HC.out.c2
  go_enter Try.func60, Try.ntmps60
  go_wp2_with (at_make; refine wpList_make_full (w.alloc (Obj.cells #[Value.int .i64 b, Value.slice an rows.length cn, Value.slice ao out.length co] 30)) rfl _ _ 23 rfl (w.heap.size + 1) 3 i0 (.int .i64 0) 1 Try.underlying23 hi hz0 hz1 .i64 .i64 _ _ cls.length rfl rfl rfl rfl (by rw [hz2]; omega) (by unfold maxLen; omega) (by simp) ?_; intro w1 hown hgrow)
  have hO : Hid (w1.ownsRow (w.heap.size + 1) 3 1 (.slice (some ⟨w.heap.size + 1, 0, none⟩) cls.length cls.length) cls.length ((numb (K.take 0) ++ List.replicate (cls.length - 0) (0 : Int)).map (Value.int .i64))) := by
    show w1.ownsRow _ _ _ _ _ _
    rw [Ints.zero_made] at hown
    rw [size_alloc'] at hown
    simpa [numb] using hown
  have hM : Hid (MapOf encK w1 mb (dist (K.take 0))) := ((HM.out.below HB.out).below (below_of_grown hgrow))
  have hC := Lib.hid (HC.out.below (below_of_grown hgrow))
  have hG : Hid (w.grownBy w1 (some mb)) := below_some (HB.out.trans ((below_of_grown hgrow).mono HB.out.size))
  clear hown hgrow HC HB k0 k1 k2
  go_loopw [17] (fun i' wr => ∃ i : Nat, i ≤ cls.length ∧ i' = .int .i64 i ∧ Hid (wr.ownsRow (w.heap.size + 1) 3 1 (.slice (some ⟨w.heap.size + 1, 0, none⟩) cls.length cls.length) cls.length ((numb (K.take i) ++ List.replicate (cls.length - i) (0 : Int)).map (Value.int .i64))) ∧ Hid (MapOf encK wr mb (dist (K.take i))) ∧ Hid (Cells3 wr w.heap.size 30 (.int .i64 b) (.slice an rows.length cn) (.slice ao out.length co)) ∧ Hid (w.grownBy wr (some mb))) (fun i' _ => cls.length - (intOf i').toNat)
  case atStart => exact ⟨0, Nat.zero_le _, rfl, hO, hM, hC, hG⟩
  case round =>
    clear hO hM hC hG
    obtain ⟨i, hil, rfl, hO, hM, hC, hG⟩ := hrel
    by_cases hlt : i < cls.length
    case neg =>
      obtain rfl : i = cls.length := by omega
      have hE : K.take cls.length = K := by rw [← HKL.out]; exact List.take_length
      have HX : Hid (Has (Value.int .i64) 3 wr w.heap.size (.slice (some ⟨w.heap.size + 1, 0, none⟩) cls.length cls.length) (numb K)) := by
        have h1 := hO.out
        rw [hE, Nat.sub_self, List.replicate_zero, List.append_nil] at h1
        have h2 : Has (Value.int .i64) 3 wr (w.heap.size + 1) (.slice (some ⟨w.heap.size + 1, 0, none⟩) cls.length cls.length) (numb K) := by
          show wr.ownsRow _ _ _ _ _ _
          rw [numb_len, HKL.out]
          exact h1
        exact h2.mono (Nat.le_succ _)
      have HY : Hid (MapOf encK wr mb (dist K)) := by have h1 := hM.out; rw [hE] at h1; exact h1
      clear hE hO hM
      go_wp2
      go_ret
      exact ⟨_, rfl, HX.out, HY.out, hG.out⟩
    case pos =>
      obtain ⟨kk, hkk⟩ : ∃ k, k = keyC rows out cls i := ⟨_, rfl⟩
      have HKI : Hid (K[i]? = some kk) := by rw [hkk]; exact HKG.out i hlt
      have HOK : Hid (OkK (b.toNat + 1) kk) := by rw [hkk]; exact keyC_ok HV.out HCB.out (by omega)
      obtain ⟨v0, v1, v2, v3, v4, hek⟩ : ∃ v0 v1 v2 v3 v4 : Int, encK kk = .agg #[.int .i64 v0, .int .i64 v1, .int .i64 v2, .int .i64 v3, .int .i64 v4] := ⟨_, _, _, _, _, rfl⟩
      have HEK := Lib.hid hek
      have HLT := Lib.hid (take_succ' HKI.out)
      have HNL : Hid ((numb (K.take i)).length = i) := by show _ = _; rw [numb_len, List.length_take, HKL.out]; omega
      have HKP := Lib.hid (kept_map HM.out hG.out)
      have HCT := Lib.hid (key_of _ b rows out wr (HKP.out.liesS HS.out) HV.out _ cls (HKP.out.lies HCLS.out) HL.out i (by omega))
      rw [← hkk, hek] at HCT
      clear hkk hek
      have k0 := hC.out.c0
      have k1 := hC.out.c1
      have k2 := hC.out.c2
      have i1 : (i : Int) < (cls.length : Int) := by omega
      have i0' : (0 : Int) ≤ (i : Int) := Int.natCast_nonneg _
      go_wp2_with fail
      refine (HCT.out).mono ?_
      rintro e W1 ⟨rfl, b1⟩
      have HB2 := Lib.hid (b1.alloc b1.size (Obj.cells #[Value.int .i64 v0, Value.int .i64 v1, Value.int .i64 v2, Value.int .i64 v3, Value.int .i64 v4] 64))
      have HM2 := Lib.hid (hM.out.below HB2.out)
      have hC2 := Lib.hid (hC.out.below HB2.out)
      have HO2 := Lib.hid (World.ownsRow.kept hO.out (grown_of_below HB2.out) (.inr (by simp [Value.ownBlock])))
      have HG2 : Hid (w.grownBy (W1.alloc (Obj.cells #[Value.int .i64 v0, Value.int .i64 v1, Value.int .i64 v2, Value.int .i64 v3, Value.int .i64 v4] 64)) (some mb)) := grown_trans' hG.out (below_some HB2.out)
      clear hO hM hC hG b1 k0 k1 k2 HB2
      by_cases hin : kk ∈ K.take i
      · have HIN := Lib.hid (mem_dist.2 hin)
        have hnum := numb_old hin
        obtain ⟨c, hc⟩ : ∃ c : Nat, c = ix (dist (K.take i)) kk := ⟨_, rfl⟩
        rw [← hc] at hnum
        have HC := Lib.hid hc
        have HDI : Hid (dist (K.take (i + 1)) = dist (K.take i)) := by show _ = _; rw [HLT.out, dist_snoc, addTo_in HIN.out]
        have HST := fill_set (l := numb (K.take i)) (n := cls.length) (c : Int) HNL.out hlt
        rw [← hnum, ← HLT.out] at HST
        have q1 := HO2.out.cellAt i (by omega)
        have q2 := HO2.out.frozenAt i
        have hst := HO2.out.stored i (.int .i64 (c : Int))
        rw [HST] at hst
        have HS3 := Lib.hid hst
        rw [List.getElem?_map, List.getElem?_append_right (by rw [HNL.out]; exact Nat.le_refl _), List.getElem?_replicate, if_pos (by rw [HNL.out]; omega)] at q1
        clear hin hc hnum HST hst
        go_wp2_with ((at_lookup; refine wpList_look_yes _ rfl _ _ 59 rfl HGK.out Try.underlying59 rfl HM2.out (HKO.out i) (dist_nodup _) kk (by exact HEK.out.symm) HOK.out HIN.out ?_; rw [← HC.out]))
        go_roundw
        case rel => exact ⟨i + 1, by omega, by go_num, HS3.out.1, by show MapOf _ _ _ _; rw [HDI.out]; exact HM2.out.grown HS3.out.2 (fun e => by cases e; omega), hC2.out.grown HS3.out.2 (fun e => by have e2 : w.heap.size + 1 = w.heap.size := Option.some.inj e; omega), HG2.out.andThen HS3.out.2 (fun j hj => by cases hj; exact .inl (Nat.le_succ _))⟩
        case measure => simp [intOf]; omega
      · have HIN : Hid (kk ∉ dist (K.take i)) := fun h => hin (mem_dist.1 h)
        have hnum := numb_new hin
        obtain ⟨c, hc⟩ : ∃ c : Nat, c = (dist (K.take i)).length := ⟨_, rfl⟩
        rw [← hc] at hnum
        have HC := Lib.hid hc
        have HDI : Hid (dist (K.take (i + 1)) = dist (K.take i) ++ [kk]) := by show _ = _; rw [HLT.out, dist_snoc, addTo_new HIN.out]
        have HST := fill_set (l := numb (K.take i)) (n := cls.length) (c : Int) HNL.out hlt
        rw [← hnum, ← HLT.out] at HST
        have HST2 := Lib.hid HST
        clear hin hc hnum HST
        go_wp2_with (first | (at_lookup; refine wpList_look_no _ rfl _ _ 59 rfl HGK.out Try.underlying59 (zeroI _) rfl HM2.out (HKO.out i) (dist_nodup _) kk (by exact HEK.out.symm) HOK.out HIN.out ?_) | (at_len; refine wpList_maplen _ rfl _ 59 rfl Try.underlying59 rfl HM2.out ?_; rw [← HC.out]) | (at_mapUpdate; refine wpList_store_new _ rfl _ _ _ 59 rfl HGK.out Try.underlying59 rfl HM2.out (HKO.out i) (dist_nodup _) kk (by exact HEK.out.symm) (by rw [← HC.out]; rfl) HOK.out HIN.out ?_; intro w3 hm3 hg3; have hO3 := World.ownsRow.kept HO2.out hg3 (.inr (by simp [Value.ownBlock]; omega)); have q1 := hO3.cellAt i (by omega); have q2 := hO3.frozenAt i; have hst := hO3.stored i (.int .i64 (c : Int)); rw [HST2.out] at hst; have HS3 := Lib.hid hst; rw [List.getElem?_map, List.getElem?_append_right (by rw [HNL.out]; exact Nat.le_refl _), List.getElem?_replicate, if_pos (by rw [HNL.out]; omega)] at q1; clear hst hO3))
        go_roundw
        case rel => exact ⟨i + 1, by omega, by go_num, HS3.out.1, by show MapOf _ _ _ _; rw [HDI.out]; exact hm3.grown HS3.out.2 (fun e => by cases e; omega), (hC2.out.grown hg3 (fun e => by cases e; omega)).grown HS3.out.2 (fun e => by have e2 : w.heap.size + 1 = w.heap.size := Option.some.inj e; omega), (grown_trans' HG2.out hg3).andThen HS3.out.2 (fun j hj => by cases hj; exact .inl (Nat.le_succ _))⟩
        case measure => simp [intOf]; omega
theorem clsR_bd {b : Int} {rows : List (List Int)} {out : List Int} (hv : IsSeq b rows out) (k : Nat) : ∀ x ∈ clsR rows out k, 0 ≤ x ∧ x ≤ 1000 := fun x hx => by
  have h1 := numb_bd hx
  have h2 := cntR_le rows out k
  have h3 := hv.2.2.2.1
  have h4 : (dist (keysR rows out k)).length = cntR rows out k := rfl
  omega
set_option maxHeartbeats 1000000 in
theorem classes_any (v : Value) (b : Int) (rows : List (List Int)) (out : List Int) (w : World) (h : LiesS w v b rows out) (hv : IsSeq b rows out) :
    Calls Try.prog 52 #[v] w (fun e w' => ∃ vc mb, e = .returned (.tuple #[vc, .map (some mb)]) ∧ Has (Value.int .i64) 3 w' w.heap.size vc (classes rows out) ∧ MapOf encK w' mb (keysQ rows out) ∧ w.heap.size ≤ mb ∧ Below w.heap.size w w') := by
  obtain ⟨i0, hi, hz0, hz1, hz2⟩ := info_parts Ints.infoI
  have HS := Lib.hid h
  obtain ⟨an, cn, ao, co, rfl⟩ := h.form
  clear h
  have HB : Hid (Below w.heap.size w (w.alloc (Obj.cells #[Value.int .i64 b, Value.slice an rows.length cn, Value.slice ao out.length co] 30))) := (Below.refl _ _).alloc (Nat.le_refl _) _
  have HC := Lib.hid (Cells3.new w 30 (.int .i64 b) (.slice an rows.length cn) (.slice ao out.length co))
  have HV := Lib.hid hv
  have HA := Lib.hid hv.auto
  have hn16 : rows.length ≤ 16 := hv.2.2.2.1
  clear hv
  have k0 := HC.out.c0
  have k1 := HC.out.c1
  have k2 := HC.out.c2
  have hmm := @run_makeMap Try.prog
  go_enter Try.func52, Try.ntmps52
  go_wp2_with (at_make; refine wpList_make_full (w.alloc (Obj.cells #[Value.int .i64 b, Value.slice an rows.length cn, Value.slice ao out.length co] 30)) rfl _ _ 23 rfl (w.heap.size + 1) 3 i0 (.int .i64 0) 1 Try.underlying23 hi hz0 hz1 .i64 .i64 _ _ rows.length rfl rfl rfl rfl (by rw [hz2]; omega) (by unfold maxLen; omega) (by simp) ?_; intro w1 hown hgrow)
  have hG := below_of_grown hgrow
  have hs1 : w.heap.size + 2 ≤ w1.heap.size := by
    have h1 := World.ownsRow.lt hown (w.heap.size + 1) (by rw [size_alloc']; rfl)
    omega
  have hO : Hid (Has (Value.int .i64) 3 (w1.alloc (.map #[] 0)) (w.heap.size + 1) (.slice (some ⟨w.heap.size + 1, 0, none⟩) rows.length rows.length) (clsR rows out 0)) := by
    rw [Ints.zero_made, size_alloc'] at hown
    have h1 : Has (Value.int .i64) 3 w1 (w.heap.size + 1) (.slice (some ⟨w.heap.size + 1, 0, none⟩) rows.length rows.length) (clsR rows out 0) := by
      rw [clsR_zero]
      show w1.ownsRow _ _ _ _ _ _
      simpa using hown
    exact h1.below ((Below.refl _ _).alloc (Nat.le_refl _) _)
  have hB : Hid (Below w.heap.size w (w1.alloc (.map #[] 0))) := (HB.out.trans (hG.mono HB.out.size)).alloc (by omega) _
  have hC := Lib.hid ((HC.out.below hG).alloc (.map #[] 0))
  have hM : Hid (MapOf encK (w1.alloc (.map #[] 0)) w1.heap.size []) := MapOf.made w1
  obtain ⟨mb, hmb⟩ : ∃ mb, mb = w1.heap.size := ⟨_, rfl⟩
  obtain ⟨W0, hW0⟩ : ∃ W, W = w1.alloc (.map #[] 0) := ⟨_, rfl⟩
  rw [← hW0, ← hmb] at hM
  rw [← hW0] at hO hB hC
  rw [← hW0, ← hmb]
  rw [← hmb] at hs1
  clear hW0 hmb hown hgrow hG HB HC k0 k1 k2 hmm
  go_loopw [4, 6] (fun c' n' wr => ∃ k c : Nat, Hid (c = cntR rows out k) ∧ n' = .int .i64 c ∧ Hid (∀ j < k, cntR rows out (j + 1) ≠ cntR rows out j) ∧ Hid (Has (Value.int .i64) 3 wr (w.heap.size + 1) c' (clsR rows out k)) ∧ Hid (∃ ks, MapOf encK wr mb ks) ∧ Hid (Cells3 wr w.heap.size 30 (.int .i64 b) (.slice an rows.length cn) (.slice ao out.length co)) ∧ Hid (Below w.heap.size w wr)) (fun _ n' _ => 17 - (intOf n').toNat)
  case atStart => exact ⟨0, 1, (cntR_zero out HA.out.closed.1).symm, rfl, fun j hj => by omega, hO, ⟨_, hM⟩, hC, hB⟩
  case round =>
    clear hO hB hC hM
    obtain ⟨k, c0, hc0, rfl, hne, hO, hM, hC, hB⟩ := hrel
    obtain ⟨ks, hks⟩ := hM.out
    obtain ⟨a1, ca1, rfl, _⟩ := hO.out.form
    obtain ⟨c1, hc1⟩ : ∃ c, c = cntR rows out (k + 1) := ⟨_, rfl⟩
    have HC1 := Lib.hid hc1
    have HD1 : Hid ((dist (keysOf rows out (clsR rows out k))).length = c1) := by rw [hc1]; rfl
    have hcl : c0 ≤ c1 ∧ c1 ≤ 16 := by
      have h1 := cnt_up HA.out k
      have h2 := cntR_le rows out (k + 1)
      have h3 := hc0.out
      omega
    have HKS := Lib.hid hks
    clear hks hc1 hM
    have k0 := hC.out.c0
    have k1 := hC.out.c1
    have k2 := hC.out.c2
    go_wp2_with (refine wpList_clear _ rfl _ 59 rfl Try.underlying59 rfl HKS.out ?_; intro w2 hm2 hg2; have HKP := Lib.hid (kept_map HKS.out hg2); have hC2 := hC.out.grown hg2 (fun e => by cases e; omega); have j0 := hC2.c0; have j1 := hC2.c1; have j2 := hC2.c2)
    have HB2 := Lib.hid (hB.out.grown hg2 hB.out.size (fun k hk => by cases hk; omega))
    have HM2 := Lib.hid hm2
    have HC2 := Lib.hid hC2
    refine (divided_any _ b rows out w2 (HKP.out.liesS (HS.out.below hB.out)) HV.out _ (clsR rows out k) (HKP.out.lies hO.out.lies) (clsR_len _ _ _) (clsR_bd HV.out k) mb HM2.out).mono ?_
    rintro e w3 ⟨v', rfl, hv', hm3, hg3⟩
    have HB3 := Lib.hid (HB2.out.grown hg3 HB2.out.size (fun k hk => by cases hk; omega))
    have HC3 := Lib.hid (HC2.out.grown hg3 (fun e => by cases e; omega))
    have HM3 := Lib.hid hm3
    have HO3 : Hid (Has (Value.int .i64) 3 w3 w2.heap.size v' (clsR rows out (k + 1))) := hv'
    have HS2 : Hid (w.heap.size + 1 ≤ w2.heap.size) := by
      have h1 := HC2.out.lt
      show _ ≤ _
      omega
    clear hm2 hg2 hC2 j0 j1 j2 k0 k1 k2 hv' hm3 hg3 hB hC hO HB2 HC2 HM2 HKS HKP
    by_cases he : c1 = c0
    · have hd : ((c1 : Int) == (c0 : Int)) = true := by rw [he]; simp
      have HE := Lib.hid (show cntR rows out (k + 1) = cntR rows out k by rw [← HC1.out, ← hc0.out, he])
      have HKL : Hid (k ≤ rows.length + 1) := by
        have h1 := stops_le HA.out k hne.out
        show _ ≤ _
        omega
      have HF := Lib.hid (classes_at HA.out HKL.out HE.out)
      have HQ := Lib.hid (keysQ_at HA.out HKL.out HE.out)
      have HX : Hid (Has (Value.int .i64) 3 w3 w.heap.size v' (classes rows out)) := by
        have h1 := HO3.out
        rw [HF.out.1] at h1
        exact h1.mono (by have := HS2.out; omega)
      have HY : Hid (MapOf encK w3 mb (keysQ rows out)) := by
        have h1 := HM3.out
        rw [← HQ.out]
        exact h1
      clear he
      go_wp2_with (at_len; refine wpList_maplen _ rfl _ 59 rfl Try.underlying59 rfl HM3.out ?_; rw [HD1.out])
      go_ret2
      exact ⟨_, _, rfl, HX.out, HY.out, by omega, HB3.out⟩
    · have hd : ((c1 : Int) == (c0 : Int)) = false := by simp; omega
      have HNE : Hid (∀ j < k + 1, cntR rows out (j + 1) ≠ cntR rows out j) := fun j hj => by
        by_cases e : j = k
        · subst e
          rw [← HC1.out, ← hc0.out]
          exact he
        · exact hne.out j (by omega)
      have HO4 := Lib.hid (HO3.out.mono HS2.out)
      have hlt : c0 < c1 := by omega
      clear he
      go_wp2_with (at_len; refine wpList_maplen _ rfl _ 59 rfl Try.underlying59 rfl HM3.out ?_; rw [HD1.out])
      go_roundw
      case rel => exact ⟨k + 1, c1, HC1, rfl, HNE, HO4, ⟨_, HM3.out⟩, HC3, HB3⟩
      case measure => simp [intOf]; omega
theorem class_len {b : Int} {rows : List (List Int)} {out : List Int} : (classV b rows out).length ≤ 16 := by
  unfold classV
  split
  · rename_i h
    have hv := seqB_out h
    rw [classes_len]
    exact hv.2.2.2.1
  · simp
end Mins
end Go.Proofs.Ytgbgcaaekpgapac
/- Blocks that are known whole, apart by their types; such a block as a slice of the call's own. No conditions beyond those that each fact states. -/
namespace Go.Proofs.Ytgbgcaaekpgapac.Plain
open Go.RowKit
set_option linter.unusedVariables false
/-- Two blocks of different types are two. -/
theorem CellsN.ne {w : World} {b b' : Nat} {t t' : TypeId} {l l' : List Value} (h : CellsN w b t l) (h' : CellsN w b' t' l') (hne : t ≠ t') : b ≠ b' := fun e => by
  subst e
  have h1 := h.row
  rw [h'.row] at h1
  simp at h1
  exact hne h1.2.symm
theorem CellsN.ne3 {w : World} {b b' : Nat} {t t' : TypeId} {l : List Value} {x y z : Value} (h : CellsN w b t l) (h' : Cells3 w b' t' x y z) (hne : t ≠ t') : b ≠ b' := fun e => by
  subst e
  have h1 := h.row
  rw [h'.row] at h1
  simp at h1
  exact hne h1.2.symm
theorem CellsN.ne_has {w : World} {b base : Nat} {t t' : TypeId} {l : List Value} {α : Type} {enc : α → Value} {v : Value} {xs : List α} (h : CellsN w b t l) (h' : Has enc t' w base v xs) (hne : t ≠ t') : v.ownBlock ≠ some b := by
  rcases h'.2 with ⟨rfl, _⟩ | ⟨g, cap, cur, rfl, _, hg, _⟩
  · intro h; cases h
  · intro e
    have e1 : g = b := by simpa [Value.ownBlock] using e
    subst e1
    have h1 := h.row
    rw [hg] at h1
    simp at h1
    exact hne h1.2.symm
/-- A block that is known whole, as a slice of the call's own. -/
theorem CellsN.has {w : World} {g n base : Nat} {e : TypeId} {α : Type} {enc : α → Value} {xs : List α} (h : CellsN w g e (xs.map enc)) (hn : xs.length = n) (hb : base ≤ g) (hm : n ≤ 1000000) : Has enc e w base (.slice (some ⟨g, 0, none⟩) n n) xs := by
  subst hn
  refine ⟨by simp, .inr ⟨g, xs.length, (xs.map enc).toArray, rfl, hb, h.row, Nat.le_refl _, by unfold maxLen; omega, by simp, by rw [Nat.mul_one]; show (xs.map enc).take xs.length = _; rw [List.take_of_length_le (by simp)]⟩⟩
end Go.Proofs.Ytgbgcaaekpgapac.Plain
/- Contract of the function that merges the states of a class. No conditions beyond those that each states. -/
namespace Go.Proofs.Ytgbgcaaekpgapac
open Go.ChangeShapes Go.WideShapes Go.ChangeAt Go.RowKit
open Go.PlainAid Plain
set_option linter.unusedVariables false
namespace Mins
open Seqs
/-- A sequence in the making: what has come so far stands in its place; the rows' blocks lie from lo to hi. -/
structure Filled (w : World) (base lo g1 g2 : Nat) (rows : List (List Int)) (out : List Int) (dn : Nat → Bool) (us os : List Value) (hi : Nat) : Prop where
  c1 : CellsN w g1 23 us
  c2 : CellsN w g2 3 os
  l1 : us.length = rows.length
  l2 : os.length = rows.length
  l3 : out.length = rows.length
  b1 : base ≤ g1
  b2 : base ≤ g2
  lo1 : g1 < lo
  lo2 : g2 < lo
  hi1 : lo ≤ hi
  hi2 : hi ≤ w.heap.size
  row : ∀ (i : Nat) (u : Value) (r : List Int), dn i = true → us[i]? = some u → rows[i]? = some r → OwnI w lo hi u r
  apart : ∀ (i j : Nat) (u u' : Value), dn i = true → dn j = true → us[i]? = some u → us[j]? = some u' → i ≠ j → u.ownBlock = none ∨ u.ownBlock ≠ u'.ownBlock
  out : ∀ (i : Nat) (o : Int), dn i = true → out[i]? = some o → os[i]? = some (.int .i64 o)
section
variable {w w' : World} {base lo g1 g2 hi : Nat} {rows : List (List Int)} {out : List Int} {dn : Nat → Bool} {us os : List Value}
theorem Filled.below (h : Filled w base lo g1 g2 rows out dn us os hi) (hb : Below w.heap.size w w') : Filled w' base lo g1 g2 rows out dn us os hi :=
  ⟨h.c1.below hb, h.c2.below hb, h.l1, h.l2, h.l3, h.b1, h.b2, h.lo1, h.lo2, h.hi1, Nat.le_trans h.hi2 hb.size, fun i u r a b c => (h.row i u r a b c).below hb, h.apart, h.out⟩
/-- A world that differs in a block of another kind. -/
theorem Filled.other {r : Nat} (h : Filled w base lo g1 g2 rows out dn us os hi) (hg : w.grownBy w' (some r)) (hr : ∀ cs t fz, w.heap[r]? ≠ some (.cells cs t fz)) : Filled w' base lo g1 g2 rows out dn us os hi := by
  have n1 : some r ≠ some g1 := fun e => by injection e with e; subst e; exact hr _ _ _ h.c1.row
  have n2 : some r ≠ some g2 := fun e => by injection e with e; subst e; exact hr _ _ _ h.c2.row
  refine ⟨h.c1.grown hg n1, h.c2.grown hg n2, h.l1, h.l2, h.l3, h.b1, h.b2, h.lo1, h.lo2, h.hi1, Nat.le_trans h.hi2 hg.size, fun i u x a b c => ?_, h.apart, h.out⟩
  have hI := h.row i u x a b c
  refine ⟨hI.has.grown hg ?_, hI.lt, Nat.le_trans hI.le hg.size⟩
  rcases hI.has.2 with ⟨rfl, _⟩ | ⟨g, cap, cur, rfl, _, hgr, _⟩
  · exact .inl rfl
  · exact .inr fun e => by
      have e1 : g = r := by simpa [Value.ownBlock] using e
      subst e1
      exact hr _ _ _ hgr
/-- A row and a term are put in their place. -/
theorem Filled.put (h : Filled w base lo g1 g2 rows out dn us os hi) {i : Nat} (hi' : i < rows.length) {u : Value} {r : List Int} {o : Int} (hr : rows[i]? = some r) (ho : out[i]? = some o) (hu : OwnI w hi w.heap.size u r) :
    Filled ((w.setCell ⟨g1, i, none⟩ u).setCell ⟨g2, i, none⟩ (.int .i64 o)) base lo g1 g2 rows out (fun j => dn j || j == i) (us.set i u) (os.set i (.int .i64 o)) w.heap.size := by
  have h12 : g1 ≠ g2 := h.c1.ne h.c2 (by decide)
  have hl1 := h.l1
  have hl2 := h.l2
  have hold : ∀ (j : Nat) (x : Value) (y : List Int), dn j = true → us[j]? = some x → rows[j]? = some y → OwnI ((w.setCell ⟨g1, i, none⟩ u).setCell ⟨g2, i, none⟩ (.int .i64 o)) lo hi x y := fun j x y a b c => by
    have hI := h.row j x y a b c
    have e1 : x.ownBlock ≠ some g1 := fun e => by have := hI.range _ e; have := h.lo1; omega
    have e2 : x.ownBlock ≠ some g2 := fun e => by have := hI.range _ e; have := h.lo2; omega
    exact (hI.set (a := ⟨g1, i, none⟩) e1 u).set (a := ⟨g2, i, none⟩) e2 _
  have e1 : u.ownBlock ≠ some g1 := fun e => by have := hu.range _ e; have := h.lo1; have := h.hi1; omega
  have e2 : u.ownBlock ≠ some g2 := fun e => by have := hu.range _ e; have := h.lo2; have := h.hi1; omega
  have hnew : OwnI ((w.setCell ⟨g1, i, none⟩ u).setCell ⟨g2, i, none⟩ (.int .i64 o)) hi w.heap.size u r := (hu.set (a := ⟨g1, i, none⟩) e1 u).set (a := ⟨g2, i, none⟩) e2 _
  have hsz : ((w.setCell ⟨g1, i, none⟩ u).setCell ⟨g2, i, none⟩ (.int .i64 o)).heap.size = w.heap.size := by simp [World.setCell]
  have who : ∀ (j : Nat) (x : Value), (dn j || j == i) = true → (us.set i u)[j]? = some x → (j = i ∧ x = u) ∨ (j ≠ i ∧ dn j = true ∧ us[j]? = some x) := fun j x a b => by
    by_cases e : j = i
    · subst e
      rw [List.getElem?_set_self (by omega)] at b
      exact .inl ⟨rfl, (Option.some.inj b).symm⟩
    · rw [List.getElem?_set_ne (Ne.symm e)] at b
      have : (j == i) = false := by simpa using e
      rw [this, Bool.or_false] at a
      exact .inr ⟨e, a, b⟩
  refine ⟨(h.c1.set i u).other (Ne.symm h12) _, (h.c2.other h12 u).set i _, by simp [hl1], by simp [hl2], h.l3, h.b1, h.b2, h.lo1, h.lo2, Nat.le_trans h.hi1 h.hi2, by rw [hsz]; exact Nat.le_refl _, fun j x y a b c => ?_, fun j k x x' a a' b b' hjk => ?_, fun j x a b => ?_⟩
  · rcases who j x a b with ⟨rfl, rfl⟩ | ⟨e, a', b'⟩
    · rw [hr] at c
      cases c
      exact hnew.mono h.hi1 (Nat.le_refl _) (by rw [hsz]; exact Nat.le_refl _)
    · exact (hold j x y a' b' c).mono (Nat.le_refl _) h.hi2 (by rw [hsz]; exact Nat.le_refl _)
  · have blk : ∀ (j : Nat) (x : Value), dn j = true → us[j]? = some x → ∀ n, x.ownBlock = some n → n < hi := fun j x a b n hn => by
      have hj := (List.getElem?_eq_some_iff.1 b).1
      exact (h.row j x _ a b (List.getElem?_eq_getElem (by omega))).lt n hn
    rcases who j x a b with ⟨rfl, rfl⟩ | ⟨e, a1, b1⟩ <;> rcases who k x' a' b' with ⟨rfl, rfl⟩ | ⟨f, a2, b2⟩
    · exact absurd rfl hjk
    · cases hx : x.ownBlock with
      | none => exact .inl rfl
      | some n =>
        refine .inr fun e => ?_
        have := (hu.range n hx).1
        have := blk k x' a2 b2 n e.symm
        omega
    · cases hx : x.ownBlock with
      | none => exact .inl rfl
      | some n =>
        refine .inr fun e => ?_
        have := (hu.range n e.symm).1
        have := blk j x a1 b1 n hx
        omega
    · exact h.apart j k x x' a1 a2 b1 b2 hjk
  · by_cases e : j = i
    · subst e
      rw [ho] at b
      cases b
      rw [List.getElem?_set_self (by omega)]
    · have h1 : (j == i) = false := by simpa using e
      rw [h1, Bool.or_false] at a
      rw [List.getElem?_set_ne (Ne.symm e)]
      exact h.out j x a b
/-- All has come. -/
theorem Filled.whole {b : Int} (h : Filled w base lo g1 g2 rows out dn us os hi) (hd : ∀ i < rows.length, dn i = true) (hn : rows.length ≤ 1000000) :
    OwnS w base w.heap.size (.agg #[.int .i64 b, .slice (some ⟨g1, 0, none⟩) rows.length rows.length, .slice (some ⟨g2, 0, none⟩) rows.length rows.length]) b rows out := by
  have hos : os = out.map (Value.int .i64) := by
    refine List.ext_getElem? fun i => ?_
    have hl2 := h.l2
    have hl3 := h.l3
    by_cases hi' : i < rows.length
    · obtain ⟨o, ho⟩ : ∃ o, out[i]? = some o := ⟨_, List.getElem?_eq_getElem (by omega)⟩
      rw [h.out i o (hd i hi') ho, List.getElem?_map, ho]
      rfl
    · rw [List.getElem?_eq_none (by omega), List.getElem?_eq_none (by simp; omega)]
  have c2 := h.c2
  rw [hos] at c2
  have c1 : CellsN w g1 23 (us.map id) := by rw [List.map_id]; exact h.c1
  have t1 : Has id 23 w base (.slice (some ⟨g1, 0, none⟩) rows.length rows.length) us := c1.has (enc := id) h.l1 h.b1 hn
  have t2 : Has (Value.int .i64) 3 w base (.slice (some ⟨g2, 0, none⟩) rows.length rows.length) out := c2.has (enc := Value.int .i64) h.l3 h.b2 hn
  have hlo : base ≤ lo := Nat.le_of_lt (Nat.lt_of_le_of_lt h.b1 h.lo1)
  have hR : OwnRows w lo hi us rows := by
    refine ⟨h.l1, fun i u r hu hr => h.row i u r (hd i (List.getElem?_eq_some_iff.1 hr).1) hu hr, fun i j u u' hu hu' hij => ?_⟩
    have hl1 := h.l1
    have h1 := (List.getElem?_eq_some_iff.1 hu).1
    have h2 := (List.getElem?_eq_some_iff.1 hu').1
    exact h.apart i j u u' (hd i (by omega)) (hd j (by omega)) hu hu' hij
  refine ⟨_, _, us, rfl, ⟨t1, fun k hk => (t1.lt k hk).2, Nat.le_refl _, (hR.lower hlo).mono h.hi2 (Nat.le_refl _)⟩, ?_⟩
  have hO : OwnI w base lo (.slice (some ⟨g2, 0, none⟩) rows.length rows.length) out := ⟨t2, fun k hk => by
    have : g2 = k := by simpa [Value.ownBlock] using hk
    have := h.lo2
    omega, Nat.le_trans h.hi1 h.hi2⟩
  exact hR.snoc_apart hO (.inr (Nat.le_refl _)) hlo (Nat.le_refl _) h.hi2 (Nat.le_trans h.hi1 h.hi2) (Nat.le_refl _)
end
theorem made_nils (n : Nat) : madeCells (Value.slice none 0 0).cells (n * 1) = (List.replicate n (Value.slice none 0 0)).toArray := by
  apply Array.toList_inj.1
  rw [show (Value.slice none 0 0).cells = #[Value.slice none 0 0] from rfl, toList_madeCells_one, Nat.mul_one]
theorem made_ints (n : Nat) : madeCells (Value.int .i64 0).cells (n * 1) = (List.replicate n (Value.int .i64 0)).toArray := by
  apply Array.toList_inj.1
  rw [show (Value.int .i64 0).cells = #[Value.int .i64 0] from rfl, toList_madeCells_one, Nat.mul_one]
theorem run_make_rows (n : Nat) (hn : n ≤ 1000) (W : World) : (Instr.makeSlice 22 (.int .i64 (n : Int)) (.int .i64 (n : Int))).run Try.prog W = .ok (.slice (some ⟨W.heap.size, 0, none⟩) n n) (W.alloc (.cells (List.replicate n (Value.slice none 0 0)).toArray 23)) := by
  obtain ⟨i0, hi, hz0, hz1, hz2⟩ := info_parts infoR
  have h := run_make (P := Try.prog) W 22 23 i0 (.slice none 0 0) Try.underlying22 hi hz0 .i64 .i64 n n (by omega) (Int.le_refl _) (by rw [hz2]; omega) (by omega)
  simp only [Int.toNat_natCast] at h
  rw [h, hz1, made_nils]
theorem run_make_ints (n : Nat) (hn : n ≤ 1000) (W : World) : (Instr.makeSlice 23 (.int .i64 (n : Int)) (.int .i64 (n : Int))).run Try.prog W = .ok (.slice (some ⟨W.heap.size, 0, none⟩) n n) (W.alloc (.cells (List.replicate n (Value.int .i64 0)).toArray 3)) := by
  obtain ⟨i0, hi, hz0, hz1, hz2⟩ := info_parts Ints.infoI
  have h := run_make (P := Try.prog) W 23 3 i0 (.int .i64 0) Try.underlying23 hi hz0 .i64 .i64 n n (by omega) (Int.le_refl _) (by rw [hz2]; omega) (by omega)
  simp only [Int.toNat_natCast] at h
  rw [h, hz1, made_ints]
theorem merge_held {W w' : World} {B mb K : Nat} {x : Value} {ks : List (List Int)} (hc : W.cell? ⟨B, 0, none⟩ = some x) (hm : MapOf encK W mb ks) (hk : K = ks.length) (hb : Below W.heap.size W w') :
    w'.cell? ⟨B, 0, none⟩ = some x ∧ ∀ ty, (Builtin.len_ #[59] ty #[.map (some mb)]).run Try.prog w' = .ok (.int .i64 (K : Int)) w' :=
  ⟨old_cell hb hc, fun ty => by rw [hk]; exact (hm.below hb).len_ Try.underlying59 ty⟩
theorem cn_rep {w : World} {b n : Nat} {t : TypeId} {x : Value} (h : b = w.heap.size) : CellsN (w.alloc (.cells (Array.replicate n x) t)) b t (List.replicate n x) := by
  subst h
  have h1 := CellsN.new w t (List.replicate n x)
  have h2 : (List.replicate n x).toArray = Array.replicate n x := by simp
  rw [h2] at h1
  exact h1
theorem merge_meet {wx W1 : World} {s : Value} {p g1 g2 K : Nat} {bn : Int} (hs : s = .pointer (some ⟨p, 0, none⟩)) (h1 : Cells3 wx p 30 (.int .i64 bn) (.slice (some ⟨g1, 0, none⟩) K K) (.slice (some ⟨g2, 0, none⟩) K K))
    (h2 : CellsN wx g1 23 (List.replicate K (.slice none 0 0))) (h3 : CellsN wx g2 3 (List.replicate K (.int .i64 0))) (h4 : W1.heap.size ≤ p ∧ W1.heap.size ≤ g1 ∧ W1.heap.size ≤ g2) (h5 : Below W1.heap.size W1 wx) :
    ∃ p g1 g2 : Nat, s = .pointer (some ⟨p, 0, none⟩) ∧ Hid (Cells3 wx p 30 (.int .i64 bn) (.slice (some ⟨g1, 0, none⟩) K K) (.slice (some ⟨g2, 0, none⟩) K K)) ∧ Hid (CellsN wx g1 23 (List.replicate K (.slice none 0 0))) ∧ Hid (CellsN wx g2 3 (List.replicate K (.int .i64 0))) ∧ Hid (W1.heap.size ≤ p ∧ W1.heap.size ≤ g1 ∧ W1.heap.size ≤ g2) ∧ Hid (Below W1.heap.size W1 wx) :=
  ⟨p, g1, g2, hs, h1, h2, h3, h4, h5⟩
theorem RangeOf.left_eq {κ : Type} {enc : κ → Value} {w : World} {b r : Nat} {keys : List κ} {dn : Nat → Bool} {cnt : Nat} (h : RangeOf enc w b r keys dn cnt) : w.rangeLeft b r = cnt := by
  obtain ⟨es, clock, since, seen, c0, hb, H, hr, hold, rfl, _⟩ := h
  simp [World.rangeLeft, hb, hr]
theorem two_cells' {w w' : World} {a0 b0 a1 b1 : Nat} {u0 u1 : Value} (hb : Below w.heap.size w w') (h0 : w.cell? ⟨a0, b0, none⟩ = some u0) (h1 : w.cell? ⟨a1, b1, none⟩ = some u1) :
    w'.cell? ⟨a0, b0, none⟩ = some u0 ∧ w'.cell? ⟨a1, b1, none⟩ = some u1 := ⟨old_cell hb h0, old_cell hb h1⟩
theorem grown_set {w : World} {a : Addr} (v : Value) : w.grownBy (w.setCell a v) (some a.block) :=
  ⟨rfl, rfl, rfl, by simp [World.setCell], fun k _ hk => by
    have : a.block ≠ k := fun e => hk (by rw [e])
    simp [World.setCell, Array.getElem?_modify, this]⟩
/-- slices.Clone of a part of a key. -/
theorem clone_row {w : World} {kb : Nat} {l : List Value} (h : CellsN w kb 64 l) (r : List Int) (n : Nat) (hr : r.length = n) (h4 : n ≤ 4) (hl : ∀ (j : Nat) (x : Int), r[j]? = some x → l[1 + j]? = some (.int .i64 x)) :
    Calls Try.prog 53 #[.slice (some ⟨kb, 1, none⟩) n 4] w fun e w' => ∃ v', e = .returned v' ∧ Has (Value.int .i64) 3 w' w.heap.size v' r ∧ Below w.heap.size w w' := by
  subst hr
  refine (Try.slices_Clone_int kb 1 r.length 4 r w (Nat.le_refl _) (by omega) (fun j hj => ?_)).mono fun e w' ⟨v', he, ho, _, hb⟩ => ⟨v', he, ?_, hb⟩
  · have h1 : r[j]? = some r[j] := List.getElem?_eq_getElem hj
    rw [h.at_ (hl j _ h1), List.getD_eq_getElem?_getD, h1]
    rfl
  · show w'.ownsRow _ _ _ _ _ _
    rw [List.take_length] at ho
    exact ho
set_option maxHeartbeats 2000000 in
theorem merged_any (v : Value) (b : Int) (rows : List (List Int)) (out : List Int) (w : World) (h : LiesS w v b rows out) (hv : IsSeq b rows out) :
    Calls Try.prog 42 #[v] w (GivesS b (rowsQ rows out) (outQ rows out) w) := by
  have HS := Lib.hid h
  obtain ⟨an, cn, ao, co, rfl⟩ := h.form
  clear h
  have HB : Hid (Below w.heap.size w (w.alloc (Obj.cells #[Value.int .i64 b, Value.slice an rows.length cn, Value.slice ao out.length co] 30))) := (Below.refl _ _).alloc (Nat.le_refl _) _
  have HC := Lib.hid (Cells3.new w 30 (.int .i64 b) (.slice an rows.length cn) (.slice ao out.length co))
  have HV := Lib.hid hv
  obtain ⟨bn, rfl⟩ : ∃ bn : Nat, b = (bn : Int) := ⟨b.toNat, by have := hv.1; omega⟩
  have hb2 : 2 ≤ bn := by have := hv.1; omega
  have hb4 : bn ≤ 4 := by have := hv.2.1; omega
  have hn16 : rows.length ≤ 16 := hv.2.2.2.1
  clear hv
  have HB1 := Lib.hid (HB.out.alloc (by simp) (Obj.cells #[Value.int .i64 0, Value.slice none 0 0, Value.slice none 0 0] 30))
  have HC1 := Lib.hid (HC.out.alloc (Obj.cells #[Value.int .i64 0, Value.slice none 0 0, Value.slice none 0 0] 30))
  have hZ := Cells3.new (w.alloc (Obj.cells #[Value.int .i64 (bn : Int), Value.slice an rows.length cn, Value.slice ao out.length co] 30)) 30 (.int .i64 0) (.slice none 0 0) (.slice none 0 0)
  rw [size_alloc'] at hZ
  have HZ1 := Lib.hid hZ
  have k0 := HC1.out.c0
  have k1 := HC1.out.c1
  have k2 := HC1.out.c2
  clear hZ HB HC
  go_enter Try.func42, Try.ntmps42
  go_wp2_with fail
  refine (classes_any _ _ rows out _ (HS.out.below HB1.out) HV.out).mono ?_
  rintro e W1 ⟨vc, mb, rfl, hvc, hm, hmb, b1⟩
  have HB2 := Lib.hid (HB1.out.trans (b1.mono HB1.out.size))
  have HC2 := Lib.hid (HC1.out.below b1)
  have HZ2 := Lib.hid (HZ1.out.below b1)
  have HS2 : Hid (w.heap.size + 2 ≤ W1.heap.size) := by have := HZ2.out.lt; show _ ≤ _; omega
  obtain ⟨ks, hks⟩ : ∃ ks, ks = keysQ rows out := ⟨_, rfl⟩
  have HKS := Lib.hid hks
  rw [← hks] at hm
  have HM := Lib.hid hm
  have hkl : ks.length ≤ 16 := by rw [hks]; have := keysQ_len rows out; omega
  obtain ⟨K, hK⟩ : ∃ K, K = ks.length := ⟨_, rfl⟩
  have HK := Lib.hid hK
  rw [← hK] at hkl
  have hL : Hid (∀ ty, (Builtin.len_ #[59] ty #[.map (some mb)]).run Try.prog W1 = .ok (.int .i64 (K : Int)) W1) := fun ty => by rw [hK]; exact hm.len_ Try.underlying59 ty
  have hmR := run_make_rows K (by omega)
  have hmI := run_make_ints K (by omega)
  clear hvc hm b1 hks hK HB1 HC1 HZ1 k0 k1 k2
  have k0 := HC2.out.c0
  have k1 := HC2.out.c1
  have k2 := HC2.out.c2
  go_wp2_with fail
  go_cut [5] (fun s wx => ∃ p g1 g2 : Nat, s = .pointer (some ⟨p, 0, none⟩) ∧ Hid (Cells3 wx p 30 (.int .i64 (bn : Int)) (.slice (some ⟨g1, 0, none⟩) K K) (.slice (some ⟨g2, 0, none⟩) K K)) ∧ Hid (CellsN wx g1 23 (List.replicate K (.slice none 0 0))) ∧ Hid (CellsN wx g2 3 (List.replicate K (.int .i64 0))) ∧ Hid (W1.heap.size ≤ p ∧ W1.heap.size ≤ g1 ∧ W1.heap.size ≤ g2) ∧ Hid (Below W1.heap.size W1 wx))
  case first =>
    go_region_held3 (fun w' => w'.cell? ⟨w.heap.size, 0, none⟩ = some (.int .i64 (bn : Int)) ∧ ∀ ty, (Builtin.len_ #[59] ty #[.map (some mb)]).run Try.prog w' = .ok (.int .i64 (K : Int)) w')
      ((refine merge_held HC2.out.c0 HM.out HK.out ?_; repeat (first | with_reducible exact Below.refl _ _ | with_reducible apply Below.drew | with_reducible apply below_allocs)))
      (fail)
    all_goals
      go_wp2_with fail
      go_meet
      apply merge_meet (hs := rfl)
      case h1 => repeat (first | with_reducible apply c3_drew | ((with_reducible refine c3_new' ?_) <;> (first | rfl | (simp; done) | omega)) | with_reducible apply Cells3.alloc)
      case h2 => repeat (first | with_reducible apply CellsN.drew | ((with_reducible refine cn_rep ?_) <;> (first | rfl | (simp; done) | omega)) | with_reducible apply CellsN.alloc)
      case h3 => repeat (first | with_reducible apply CellsN.drew | ((with_reducible refine cn_rep ?_) <;> (first | rfl | (simp; done) | omega)) | with_reducible apply CellsN.alloc)
      case h4 => refine ⟨?_, ?_, ?_⟩ <;> (first | exact Nat.le_refl _ | (simp; done) | omega)
      case h5 => repeat (first | with_reducible exact Below.refl _ _ | with_reducible apply Below.drew | with_reducible apply below_allocs)
  case rest =>
    obtain ⟨p, g1, g2, rfl, hM3, hG1, hG2, hge, hB⟩ := hcut
    obtain ⟨W2, rfl⟩ : ∃ W, W = wc := ⟨_, rfl⟩
    have hB2 := Lib.hid (HB2.out.trans (hB.out.mono HB2.out.size))
    have hC2 := Lib.hid (HC2.out.below hB.out)
    have hZ2 := Lib.hid (HZ2.out.below hB.out)
    have hMP := Lib.hid (HM.out.below hB.out)
    have HG := Lib.hid (show g1 < W2.heap.size ∧ g2 < W2.heap.size from ⟨hG1.out.lt, hG2.out.lt⟩)
    have HRL : Hid ((rowsQ rows out).length = K ∧ (outQ rows out).length = K) := by show _ ∧ _; rw [HK.out, HKS.out]; simp [rowsQ, outQ]
    have HKOK : Hid (∀ i x, ks[i]? = some x → OkK (bn + 1) x ∧ (rowsQ rows out)[i]? = some x.tail ∧ (outQ rows out)[i]? = some (x.headD 0)) := fun i x hx => by
      rw [HKS.out] at hx
      obtain ⟨s, hs, hxs⟩ := keysQ_mem (List.mem_of_getElem? hx)
      refine ⟨?_, by rw [rowsQ, List.getElem?_map, hx]; rfl, by rw [outQ, List.getElem?_map, hx]; rfl⟩
      rw [hxs]
      have h1 := keyC_ok HV.out (cls := classes rows out) (fun y hy => by
        have h2 := clsR_bd HV.out (rows.length + 1) y hy
        exact h2) hs
      rw [Int.toNat_natCast] at h1
      exact h1
    clear HB2 HC2 HZ2 HM hL hmR hmI k0 k1 k2 hB
    go_wp2_with (at_range; refine wpList_range_k _ rfl _ 59 rfl Try.underlying59 rfl hMP.out ?_; intro w3 hrg hg3 hsz3)
    go_frame
    have hb3 := below_of_grown hg3
    have hF3 : Hid (Filled w3 W1.heap.size w3.heap.size g1 g2 (rowsQ rows out) (outQ rows out) (fun _ => false) (List.replicate K (.slice none 0 0)) (List.replicate K (.int .i64 0)) w3.heap.size) :=
      ⟨hG1.out.below hb3, hG2.out.below hb3, by rw [List.length_replicate, HRL.out.1], by rw [List.length_replicate, HRL.out.1], by rw [HRL.out.1, HRL.out.2], hge.out.2.1, hge.out.2.2, by have := HG.out.1; omega, by have := HG.out.2; omega, Nat.le_refl _, Nat.le_refl _, fun i u r h => by simp at h, fun i j u u' h => by simp at h, fun i o h => by simp at h⟩
    have hM4 := Lib.hid (hM3.out.below hb3)
    have hC4 := Lib.hid (hC2.out.below hb3)
    have hZ4 := Lib.hid (hZ2.out.below hb3)
    have hB4 := Lib.hid (hB2.out.trans (hb3.mono hB2.out.size))
    have hrg' := Lib.hid hrg
    have HRB := Lib.hid hB2.out.size
    obtain ⟨r, hr⟩ : ∃ r, r = W2.heap.size := ⟨_, rfl⟩
    rw [← hr] at hrg' HRB ⊢
    obtain ⟨L, hL⟩ : ∃ L, L = w3.heap.size := ⟨_, rfl⟩
    rw [← hL] at hF3
    have HZW : Hid (w.heap.size + 2 ≤ W1.heap.size) := HS2
    clear hrg hg3 hsz3 hb3 hM3 hC2 hZ2 hB2 hr hL hG1 hG2 hMP
    obtain ⟨ky, hky⟩ : ∃ x : Nat, x = 0 := ⟨0, rfl⟩
    clear hky ky
    go_loopw [7] (fun _ wr => ∃ (dn : Nat → Bool) (cnt : Nat) (us os : List Value) (hi : Nat), Hid (RangeOf encK wr mb r ks dn cnt) ∧ Hid (Filled wr W1.heap.size L g1 g2 (rowsQ rows out) (outQ rows out) dn us os hi) ∧ Hid (Cells3 wr p 30 (.int .i64 (bn : Int)) (.slice (some ⟨g1, 0, none⟩) K K) (.slice (some ⟨g2, 0, none⟩) K K)) ∧ Hid (Cells3 wr w.heap.size 30 (.int .i64 (bn : Int)) (.slice an rows.length cn) (.slice ao out.length co)) ∧ Hid (Cells3 wr (w.heap.size + 1) 30 (.int .i64 0) (.slice none 0 0) (.slice none 0 0)) ∧ Hid (Below w.heap.size w wr)) (fun _ wr => wr.rangeLeft mb r)
    case atStart => exact ⟨_, _, _, _, _, hrg', hF3, hM4, hC4, hZ4, hB4⟩
    case round =>
      clear hrg' hF3 hM4 hC4 hZ4 hB4
      obtain ⟨dn, cnt, us, os, hi, hRG, hF, hM, hC, hZ, hB⟩ := hrel
      have HLE := Lib.hid (RangeOf.left_eq hRG.out)
      go_wp2_with (at_next; refine wpList_next_k _ rfl _ rfl rfl hRG.out ?_ ?_)
      · intro h0 hall
        have HALL : Hid (∀ i < (rowsQ rows out).length, dn i = true) := fun i hi => hall i (by rw [HRL.out.1, HK.out] at hi; exact hi)
        have HW := Lib.hid (hF.out.whole (b := (bn : Int)) HALL.out (by rw [HRL.out.1]; omega))
        rw [HRL.out.1] at HW
        clear h0 hall
        have m0 := hM.out.c0
        have m1 := hM.out.c1
        have m2 := hM.out.c2
        have z0 := hZ.out.c0
        have z1 := hZ.out.c1
        have z2 := hZ.out.c2
        have z3 := hZ.out.f
        go_wp2
        have hZ3 := (((hZ.out.set0 (.int .i64 (bn : Int))).set1 (.slice (some ⟨g1, 0, none⟩) K K)).set2 (.slice (some ⟨g2, 0, none⟩) K K))
        have n0 := hZ3.c0
        have n1 := hZ3.c1
        have n2 := hZ3.c2
        refine bodyPost_ret (v := .agg #[.int .i64 (bn : Int), .slice (some ⟨g1, 0, none⟩) K K, .slice (some ⟨g2, 0, none⟩) K K]) (by simp [results, Try.results42, go_sem, n0, n1, n2]) rfl ⟨_, rfl, ?_, ?_⟩
        · have T0 : Plain.Touch w.heap.size (w.heap.size + 2) wr (((wr.setCell ⟨w.heap.size + 1, 0, none⟩ (.int .i64 (bn : Int))).setCell ⟨w.heap.size + 1, 1, none⟩ (.slice (some ⟨g1, 0, none⟩) K K)).setCell ⟨w.heap.size + 1, 2, none⟩ (.slice (some ⟨g2, 0, none⟩) K K)) :=
            ((Plain.Touch.of_set _ (by show _ ≤ _ + 1; omega) (by show _ + 1 < _; omega)).trans (Plain.Touch.of_set _ (by show _ ≤ _ + 1; omega) (by show _ + 1 < _; omega))).trans (Plain.Touch.of_set _ (by show _ ≤ _ + 1; omega) (by show _ + 1 < _; omega))
          have := (HW.out.touch T0 (.inr HZW.out)).lower (show w.heap.size ≤ W1.heap.size by have := HZW.out; omega)
          simpa only [size_setCell'] using this
        · exact ((hB.out.setCell (by show _ ≤ _ + 1; omega) _).setCell (by show _ ≤ _ + 1; omega) _).setCell (by show _ ≤ _ + 1; omega) _
      · intro i x w1 cnt1 hx hdi hrg1 hlt hg1' hsz1 hen
        obtain ⟨hxo, hxr, hxq⟩ := HKOK.out i x hx
        obtain ⟨o, y, rfl⟩ : ∃ o y, x = o :: y := by
          cases x with
          | nil => have := hxo.1; simp at this
          | cons o y => exact ⟨o, y, rfl⟩
        have hyl : y.length = bn := by have := hxo.1; simp at this; omega
        have hik : i < K := by rw [HK.out]; exact (List.getElem?_eq_some_iff.1 hx).1
        obtain ⟨v1, v2, v3, v4, hek⟩ : ∃ v1 v2 v3 v4 : Int, encK (o :: y) = .agg #[.int .i64 o, .int .i64 v1, .int .i64 v2, .int .i64 v3, .int .i64 v4] ∧ ∀ (j : Nat) (z : Int), y[j]? = some z → [Value.int .i64 o, .int .i64 v1, .int .i64 v2, .int .i64 v3, .int .i64 v4][1 + j]? = some (.int .i64 z) := by
          refine ⟨_, _, _, _, rfl, fun j z hz => ?_⟩
          have hj := (List.getElem?_eq_some_iff.1 hz).1
          have h1 : (o :: y).getD (1 + j) 0 = z := by rw [Nat.add_comm, List.getD_eq_getElem?_getD, List.getElem?_cons_succ, hz]; rfl
          have : j = 0 ∨ j = 1 ∨ j = 2 ∨ j = 3 := by omega
          rcases this with rfl | rfl | rfl | rfl <;> (simp only [List.getElem?_cons_succ, List.getElem?_cons_zero]; rw [← h1])
        rw [hek.1] at hen ⊢
        have HEK := Lib.hid hek.2
        have HYL := Lib.hid hyl
        have HXR := Lib.hid hxr
        have HXQ := Lib.hid hxq
        have HRG1 := Lib.hid hrg1
        have HLT := Lib.hid hlt
        have nr : ∀ {g : Nat} {cs : Array Value} {t : TypeId} {fz : Nat × Nat}, wr.heap[g]? = some (.cells cs t fz) → g ≠ r := fun h => (hRG.out.ne_cells h).2
        have hF1 := Lib.hid (hF.out.other hg1' (fun cs t fz h => nr h rfl))
        have hM1 := Lib.hid (hM.out.grown hg1' (fun e => nr hM.out.row (Option.some.inj e).symm))
        have hC1 := Lib.hid (hC.out.grown hg1' (fun e => nr hC.out.row (Option.some.inj e).symm))
        have hZ1 := Lib.hid (hZ.out.grown hg1' (fun e => nr hZ.out.row (Option.some.inj e).symm))
        have hrb : w.heap.size ≤ r := HRB.out
        have hB1 := Lib.hid (hB.out.grown hg1' hB.out.size (fun k hk => by cases hk; exact hrb))
        have hBk : Below w1.heap.size w1 (w1.alloc (Obj.cells #[Value.int .i64 o, Value.int .i64 v1, Value.int .i64 v2, Value.int .i64 v3, Value.int .i64 v4] 64)) := (Below.refl _ _).alloc (Nat.le_refl _) _
        have hKC : CellsN (w1.alloc (Obj.cells #[Value.int .i64 o, Value.int .i64 v1, Value.int .i64 v2, Value.int .i64 v3, Value.int .i64 v4] 64)) w1.heap.size 64 [Value.int .i64 o, Value.int .i64 v1, Value.int .i64 v2, Value.int .i64 v3, Value.int .i64 v4] := CellsN.new w1 64 _
        have HKC := Lib.hid hKC
        have HRG2 := Lib.hid (HRG1.out.below hBk)
        have hF2 := Lib.hid (hF1.out.below hBk)
        have hM2 := Lib.hid (hM1.out.below hBk)
        have hC2 := Lib.hid (hC1.out.below hBk)
        have hZ2 := Lib.hid (hZ1.out.below hBk)
        have hB2 := Lib.hid (hB1.out.trans (hBk.mono hB1.out.size))
        have HW1 : Hid (∃ kb, kb = w1.heap.size) := ⟨_, rfl⟩
        have hMk := hM2.out.c1
        have hik0 : (i : Int) < (K : Int) := by omega
        have hii0 : (0 : Int) ≤ (i : Int) := Int.natCast_nonneg _
        have hbn0 : (0 : Int) ≤ (bn : Int) := Int.natCast_nonneg _
        have hbn4 : (bn : Int) ≤ 4 := by omega
        obtain ⟨z, hz⟩ : ∃ z, us[i]? = some z := ⟨_, List.getElem?_eq_getElem (by have := hF.out.l1; have := HRL.out.1; omega)⟩
        have HUZ := Lib.hid hz
        clear hx hxo hxr hxq hek hyl hrg1 hlt hg1' hsz1 hBk hKC nr hz hF hM hC hZ hB hF1 hM1 hC1 hZ1 hB1 HRG1 hRG
        go_wp2_with fail
        obtain ⟨kb, hkb⟩ : ∃ kb, kb = w1.heap.size := ⟨_, rfl⟩
        obtain ⟨W5, hW5⟩ : ∃ W, W = w1.alloc (Obj.cells #[Value.int .i64 o, Value.int .i64 v1, Value.int .i64 v2, Value.int .i64 v3, Value.int .i64 v4] 64) := ⟨_, rfl⟩
        rw [← hW5] at HKC HRG2 hF2 hM2 hC2 hZ2 hB2 hMk ⊢
        rw [← hkb] at HKC ⊢
        clear hW5 hkb HW1
        have HCL := Lib.hid (fun (W : World) (hW : Below W5.heap.size W5 W) => clone_row (HKC.out.below hW) y bn HYL.out hb4 HEK.out)
        have c0 := hC2.out.c0
        have HNE := Lib.hid (show g1 ≠ p ∧ g1 ≠ w.heap.size from ⟨hF2.out.c1.ne3 hM2.out (by decide), hF2.out.c1.ne3 hC2.out (by decide)⟩)
        go_region_held3 (fun w' => w'.cell? ⟨p, 1, none⟩ = some (.slice (some ⟨g1, 0, none⟩) K K) ∧ w'.cell? ⟨w.heap.size, 0, none⟩ = some (.int .i64 (bn : Int)))
          (first | exact two_cells' ((below_drew' W5).trans bcl) hMk c0 | exact ⟨((hM2.out.below ((below_drew' W5).trans bcl)).other (a := ⟨g1, i, none⟩) HNE.out.1 _).c1, ((hC2.out.below ((below_drew' W5).trans bcl)).other (a := ⟨g1, i, none⟩) HNE.out.2 _).c0⟩ | (refine two_cells' ?_ hMk c0; repeat (first | with_reducible exact Below.refl _ _ | with_reducible apply Below.drew)))
          ((go_at_call 53; refine (HCL.out _ (by repeat (first | with_reducible exact Below.refl _ _ | with_reducible apply Below.drew))).mono ?_; rintro e wc ⟨vcl, rfl, hcl, bcl⟩; obtain ⟨va, vp, rfl, _⟩ := hcl.form; have hFc := hF2.out.below ((below_drew' W5).trans bcl); have q1 := hFc.c1.at_ HUZ.out; have q2 := hFc.c1.f i))
        all_goals
          have hb5 := (below_drew' W5).trans bcl
          have hu : OwnI wc hi wc.heap.size (.slice va y.length vp) y := ⟨hcl.mono hF2.out.hi2, fun k hk => (hcl.lt k hk).2, Nat.le_refl _⟩
          have HP := Lib.hid (hFc.put (by rw [HRL.out.1]; exact hik) HXR.out HXQ.out hu)
          have g12 : g1 ≠ g2 := hFc.c1.ne hFc.c2 (by decide)
          have gk1 : g1 ≠ kb := hF2.out.c1.ne HKC.out (by decide)
          have gp1 : g1 ≠ p := HNE.out.1
          have gp2 : g2 ≠ p := hF2.out.c2.ne3 hM2.out (by decide)
          have gc1 : g1 ≠ w.heap.size := HNE.out.2
          have gc2 : g2 ≠ w.heap.size := hF2.out.c2.ne3 hC2.out (by decide)
          have gz1 : g1 ≠ w.heap.size + 1 := hF2.out.c1.ne3 hZ2.out (by decide)
          have gz2 : g2 ≠ w.heap.size + 1 := hF2.out.c2.ne3 hZ2.out (by decide)
          have gb1 : w.heap.size ≤ g1 := by have := hFc.b1; have := HZW.out; omega
          have gb2 : w.heap.size ≤ g2 := by have := hFc.b2; have := HZW.out; omega
          have hR5 := HRG2.out.below hb5
          have gm1 := hR5.ne_cells hFc.c1.row
          have gm2 := hR5.ne_cells hFc.c2.row
          have hR6 := (hR5.grown (grown_set (a := ⟨g1, i, none⟩) (.slice va y.length vp)) (fun e => gm1.1 (Option.some.inj e)) (fun e => gm1.2 (Option.some.inj e))).grown (grown_set (a := ⟨g2, i, none⟩) (.int .i64 o)) (fun e => gm2.1 (Option.some.inj e)) (fun e => gm2.2 (Option.some.inj e))
          have HR6 := Lib.hid hR6
          have hM5 := (hM2.out.below hb5).other (a := ⟨g1, i, none⟩) gp1 (.slice va y.length vp)
          have hC5 := (hC2.out.below hb5).other (a := ⟨g1, i, none⟩) gc1 (.slice va y.length vp)
          have hZ5 := (hZ2.out.below hb5).other (a := ⟨g1, i, none⟩) gz1 (.slice va y.length vp)
          have hK5 := (HKC.out.below hb5).other (a := ⟨g1, i, none⟩) gk1 (.slice va y.length vp)
          have hO5 := hFc.c2.other (a := ⟨g1, i, none⟩) g12 (.slice va y.length vp)
          obtain ⟨zo, hzo⟩ : ∃ z, os[i]? = some z := ⟨_, List.getElem?_eq_getElem (by have := hFc.l2; have := HRL.out.1; omega)⟩
          have j2 := hM5.c2
          have jk := hK5.at_ (i := 0) rfl
          have jo := hO5.at_ hzo
          have jf := hO5.f i
          have HM6 := Lib.hid (hM5.other (a := ⟨g2, i, none⟩) gp2 (.int .i64 o))
          have HC6 := Lib.hid (hC5.other (a := ⟨g2, i, none⟩) gc2 (.int .i64 o))
          have HZ6 := Lib.hid (hZ5.other (a := ⟨g2, i, none⟩) gz2 (.int .i64 o))
          have HB6 : Hid (Below w.heap.size w ((wc.setCell ⟨g1, i, none⟩ (.slice va y.length vp)).setCell ⟨g2, i, none⟩ (.int .i64 o))) := ((hB2.out.trans (hb5.mono hB2.out.size)).setCell gb1 _).setCell gb2 _
          clear hb5 hu hR5 hR6 hM5 hC5 hZ5 hK5 hO5 hzo hFc hcl bcl q1 q2 c0 hMk HCL gm1 gm2
          go_wp2
          go_roundw
          case rel => exact ⟨_, cnt1, _, _, wc.heap.size, HR6, HP, HM6, HC6, HZ6, HB6⟩
          case measure => rw [RangeOf.left_eq HR6.out, HLE.out]; exact HLT.out
end Mins
end Go.Proofs.Ytgbgcaaekpgapac
/- Contract of the function that keeps the states that can be reached. No conditions beyond those that each states. -/
namespace Go.Proofs.Ytgbgcaaekpgapac
open Go.ChangeShapes Go.WideShapes Go.ChangeAt Go.RowKit
open Go.PlainAid Plain
set_option linter.unusedVariables false
namespace Mins
open Seqs
theorem index_any (v : Value) (xs : List Int) (x : Int) (w : World) (h : Lies (Value.int .i64) w v xs) (hx : x ∈ xs) (hn : xs.Nodup) :
    Calls Try.prog 55 #[v, .int .i64 x] w fun e w' => e = .returned (.int .i64 (ix xs x)) ∧ w = w' := by
  have hl := idxOf_lt hx
  obtain ⟨q, s, c', rfl, hcl⟩ := ints_at h (by omega)
  have gd : ∀ j < xs.length, xs[j]? = some (xs.getD j 0) := fun j hj => by
    rw [List.getD_eq_getElem?_getD, List.getElem?_eq_getElem hj]
    rfl
  refine (Try.slices_Index_int q s xs.length c' xs x w (Nat.le_refl _) h.1 (fun j hj => hcl j _ (gd j hj))).mono fun _ _ ⟨he, hw⟩ => ⟨?_, hw.symm⟩
  rw [he, List.take_length]
  have h1 : xs.getD (ix xs x) 0 = x := Option.some.inj ((gd _ hl).symm.trans (get_idxOf hx))
  have h2 := Lib.idxFrom_hit x xs (ix xs x) 0 hl h1 (fun j hj e => by
    have h3 := gd j (by omega)
    rw [e] at h3
    have := idxOf_get hn h3
    omega)
  show Ending.returned (.int .i64 (Lib.idxFrom xs x 0)) = _
  rw [h2, Nat.zero_add]
/-- What a round finds. -/
theorem search_facts {b : Int} {rows : List (List Int)} {out : List Int} (hv : IsSeq b rows out) {i : Nat} (hi : i < (reached rows).length) :
    ∃ (sn : Nat) (r : List Int) (o : Int), (reached rows)[i]? = some (sn : Int) ∧ sn < rows.length ∧ rows[sn]? = some r ∧ out[sn]? = some o ∧ (r.length : Int) = b ∧ 0 < r.length ∧ r.length ≤ 4 ∧ (∀ x ∈ r, x ∈ reached rows) ∧ minRow rows (reached rows) sn = r.map (fun x => (ix (reached rows) x : Int)) ∧ out.getD ((sn : Int)).toNat 0 = o := by
  have hc := hv.closed
  have h1 : (reached rows)[i]? = some (reached rows)[i] := List.getElem?_eq_getElem hi
  have h2 := (reachI_ok hc rows.length).2 _ (List.getElem_mem hi)
  have h2' : 0 ≤ (reached rows)[i] ∧ (reached rows)[i] < (rows.length : Int) := h2
  have h3 := rowOf_get h2'.1 h2'.2
  have h4 := hv.2.2.2.2.2.1 _ (rowOf_mem h2'.1 h2'.2)
  have h5 := hv.1
  have h6 := hv.2.1
  have h7 := hv.2.2.2.2.1
  obtain ⟨sn, hsn⟩ : ∃ sn : Nat, (sn : Int) = (reached rows)[i] := ⟨(reached rows)[i].toNat, by omega⟩
  rw [← hsn] at h1 h2' h3 h4
  rw [Int.toNat_natCast] at h3
  obtain ⟨o, ho⟩ : ∃ o, out[sn]? = some o := ⟨_, List.getElem?_eq_getElem (by omega)⟩
  refine ⟨sn, rowOf rows sn, o, h1, by omega, h3, ho, h4.1, by omega, by omega, fun x hx => reached_next hc (List.mem_of_getElem? h1) hx, rfl, ?_⟩
  rw [Int.toNat_natCast, List.getD_eq_getElem?_getD, ho]
  rfl
theorem take_map_snoc {α β : Type} {l : List α} {i : Nat} {x : α} (f : α → β) (h : l[i]? = some x) : (l.take (i + 1)).map f = (l.take i).map f ++ [f x] := by
  obtain ⟨hk, rfl⟩ := List.getElem?_eq_some_iff.1 h
  rw [List.take_succ_eq_append_getElem hk, List.map_append]
  rfl
theorem fill_ix {l : List Int} {n i : Nat} (c : Int) (hl : l.length = i) (h : i < n) : ((l ++ List.replicate (n - i) 0).map (Value.int .i64)).set i (.int .i64 c) = ((l ++ [c]) ++ List.replicate (n - (i + 1)) 0).map (Value.int .i64) := by
  rw [show n - i = (n - (i + 1)) + 1 from by omega, List.replicate_succ, List.map_append, List.map_cons, set_mid _ _ _ _ i (by rw [List.length_map]; exact hl), List.append_assoc, List.map_append]
  rfl
set_option maxHeartbeats 2000000 in
theorem searched_any (v : Value) (b : Int) (rows : List (List Int)) (out : List Int) (w : World) (h : LiesS w v b rows out) (hv : IsSeq b rows out) :
    Calls Try.prog 43 #[v] w (GivesS b (searchR rows) (searchO rows out) w) := by
  obtain ⟨i0, hi0, hz0, hz1, hz2⟩ := info_parts Ints.infoI
  obtain ⟨i2, hi2, hz20, hz21, hz22⟩ := info_parts infoR
  have HS := Lib.hid h
  obtain ⟨an, cn, ao, co, rfl⟩ := h.form
  clear h
  have HB : Hid (Below w.heap.size w (w.alloc (Obj.cells #[Value.int .i64 b, Value.slice an rows.length cn, Value.slice ao out.length co] 30))) := (Below.refl _ _).alloc (Nat.le_refl _) _
  have HC := Lib.hid (Cells3.new w 30 (.int .i64 b) (.slice an rows.length cn) (.slice ao out.length co))
  have HV := Lib.hid hv
  have HQ := Lib.hid (seqB_yes hv)
  obtain ⟨bn, rfl⟩ : ∃ bn : Nat, b = (bn : Int) := ⟨b.toNat, by have := hv.1; omega⟩
  have hb2 : 2 ≤ bn := by have := hv.1; omega
  have hb4 : bn ≤ 4 := by have := hv.2.1; omega
  have hn16 : rows.length ≤ 16 := hv.2.2.2.1
  obtain ⟨R, hR⟩ : ∃ R, R = reached rows := ⟨_, rfl⟩
  have HRE := Lib.hid hR
  have hR16 : R.length ≤ 16 := by rw [hR]; have := reached_len hv.closed; omega
  have hR1 : 0 < R.length := by rw [hR]; exact (List.getElem?_eq_some_iff.1 (reached_zero rows)).1
  have HRN : Hid R.Nodup := by rw [hR]; exact (reachI_ok hv.closed _).1
  clear hv hR
  have HB1 := Lib.hid (HB.out.alloc (by simp) (Obj.cells #[Value.int .i64 0, Value.slice none 0 0, Value.slice none 0 0] 30))
  have HC1 := Lib.hid (HC.out.alloc (Obj.cells #[Value.int .i64 0, Value.slice none 0 0, Value.slice none 0 0] 30))
  have hZ := Cells3.new (w.alloc (Obj.cells #[Value.int .i64 (bn : Int), Value.slice an rows.length cn, Value.slice ao out.length co] 30)) 30 (.int .i64 0) (.slice none 0 0) (.slice none 0 0)
  rw [size_alloc'] at hZ
  have HZ1 := Lib.hid hZ
  have k0 := HC1.out.c0
  have k1 := HC1.out.c1
  have k2 := HC1.out.c2
  clear hZ HB HC
  go_enter Try.func43, Try.ntmps43
  go_wp2_with fail
  refine (impl_reach_yes _ _ rows out _ (HS.out.below HB1.out) HQ.out).mono ?_
  rintro e W1 ⟨rv, rfl, hrv, b1⟩
  have HB2 := Lib.hid (HB1.out.trans (b1.mono HB1.out.size))
  have HC2 := Lib.hid (HC1.out.below b1)
  have HZ2 := Lib.hid (HZ1.out.below b1)
  rw [← HRE.out] at hrv
  obtain ⟨ra, rc, rfl, hra⟩ := hrv.form
  obtain ⟨rq, rfl⟩ := hra hR1
  have HRV := Lib.hid (hrv.mono HB1.out.size)
  clear hrv b1 hra HB1 HC1 HZ1 k0 k1 k2
  have k0 := HC2.out.c0
  have k1 := HC2.out.c1
  have k2 := HC2.out.c2
  go_wp2_with fail
  have HS2 : Hid (w.heap.size + 2 ≤ W1.heap.size) := by have := HZ2.out.lt; show _ ≤ _; omega
  have hBx : Below W1.heap.size W1 (W1.alloc (Obj.cells #[Value.int .i64 (bn : Int), Value.slice none 0 0, Value.slice none 0 0] 30)) := (Below.refl _ _).alloc (Nat.le_refl _) _
  have hB3 := Lib.hid (HB2.out.trans (hBx.mono HB2.out.size))
  have hC3 := Lib.hid (HC2.out.below hBx)
  have hZ3 := Lib.hid (HZ2.out.below hBx)
  have hP3 := Lib.hid (Cells3.new W1 30 (.int .i64 (bn : Int)) (.slice none 0 0) (.slice none 0 0))
  have hV3 := Lib.hid (HRV.out.below hBx)
  obtain ⟨p, hp⟩ : ∃ p, p = W1.heap.size := ⟨_, rfl⟩
  obtain ⟨W2, hW2⟩ : ∃ W, W = W1.alloc (Obj.cells #[Value.int .i64 (bn : Int), Value.slice none 0 0, Value.slice none 0 0] 30) := ⟨_, rfl⟩
  rw [← hW2] at hB3 hC3 hZ3 hP3 hV3 ⊢
  rw [← hp] at hP3 HS2 ⊢
  obtain ⟨BB, hBB⟩ : ∃ B, B = W2.heap.size := ⟨_, rfl⟩
  have hBL : Hid (Building W2 BB BB p (bn : Int) (.slice none 0 0) (.slice none 0 0) [] ((R.take 0).map (minRow rows R)) ((R.take 0).map fun s => out.getD s.toNat 0)) := Building.start hP3.out (by rw [hBB]; exact Nat.le_refl _)
  have hRV3 : Hid (OwnI W2 w.heap.size BB (.slice (some ⟨rq, 0, none⟩) R.length rc) R) := ⟨hV3.out, fun k hk => by rw [hBB]; exact (hV3.out.lt k hk).2, by rw [hBB]; exact Nat.le_refl _⟩
  have HBB : Hid (p < BB ∧ w.heap.size + 2 ≤ BB) := by
    have h1 := hP3.out.lt
    have h2 := HS2.out
    show _ ∧ _
    omega
  clear hW2 hp hBB hBx hP3 hV3 HB2 HC2 HZ2 HRV k0 k1 k2
  go_loopw [17] (fun i' wr => ∃ (i : Nat) (vn vo : Value) (us : List Value) (hi : Nat), i ≤ R.length ∧ i' = .int .i64 i ∧ Hid (Building wr BB hi p (bn : Int) vn vo us ((R.take i).map (minRow rows R)) ((R.take i).map fun s => out.getD s.toNat 0)) ∧ Hid (OwnI wr w.heap.size BB (.slice (some ⟨rq, 0, none⟩) R.length rc) R) ∧ Hid (Cells3 wr w.heap.size 30 (.int .i64 (bn : Int)) (.slice an rows.length cn) (.slice ao out.length co)) ∧ Hid (Cells3 wr (w.heap.size + 1) 30 (.int .i64 0) (.slice none 0 0) (.slice none 0 0)) ∧ Hid (Below w.heap.size w wr)) (fun i' _ => R.length - (intOf i').toNat)
  case atStart => exact ⟨0, _, _, [], BB, Nat.zero_le _, rfl, hBL, hRV3, hC3, hZ3, hB3⟩
  case round =>
    clear hBL hRV3 hC3 hZ3 hB3
    obtain ⟨i, vn, vo, us, hi, hil, rfl, hBL, hRV, hC, hZ, hB⟩ := hrel
    obtain ⟨W3, rfl⟩ : ∃ W : World, W = wr := ⟨_, rfl⟩
    obtain ⟨na, nc, oa, oc, hvn, hvo⟩ := hBL.out.form
    by_cases hlt : i < R.length
    case neg =>
      obtain rfl : i = R.length := by omega
      have HE : Hid ((R.take R.length).map (minRow rows R) = searchR rows ∧ ((R.take R.length).map fun s => out.getD s.toNat 0) = searchO rows out) := by
        show _ ∧ _
        rw [List.take_length, HRE.out]
        exact ⟨rfl, rfl⟩
      have HW : Hid (OwnS W3 BB W3.heap.size (.agg #[.int .i64 (bn : Int), vn, vo]) (bn : Int) (searchR rows) (searchO rows out)) := by
        have h1 := hBL.out.seq
        rw [HE.out.1, HE.out.2] at h1
        exact h1
      have hP := hBL.out.cells
      subst hvn; subst hvo
      have m0 := hP.c0
      have m1 := hP.c1
      have m2 := hP.c2
      have z0 := hZ.out.c0
      have z1 := hZ.out.c1
      have z2 := hZ.out.c2
      have z3 := hZ.out.f
      obtain ⟨l1, hl1⟩ : ∃ l, l = ((R.take R.length).map (minRow rows R)).length := ⟨_, rfl⟩
      obtain ⟨l2, hl2⟩ : ∃ l, l = ((R.take R.length).map fun s => out.getD s.toNat 0).length := ⟨_, rfl⟩
      rw [← hl1] at m1 HW
      rw [← hl2] at m2 HW
      clear hP hl1 hl2
      go_wp2
      have hZ3 := (((hZ.out.set0 (.int .i64 (bn : Int))).set1 (.slice na l1 nc)).set2 (.slice oa l2 oc))
      have n0 := hZ3.c0
      have n1 := hZ3.c1
      have n2 := hZ3.c2
      refine bodyPost_ret (v := .agg #[.int .i64 (bn : Int), .slice na l1 nc, .slice oa l2 oc]) (by simp [results, Try.results43, go_sem, n0, n1, n2]) rfl ⟨_, rfl, ?_, ?_⟩
      · have T0 : Plain.Touch w.heap.size (w.heap.size + 2) W3 (((W3.setCell ⟨w.heap.size + 1, 0, none⟩ (.int .i64 (bn : Int))).setCell ⟨w.heap.size + 1, 1, none⟩ (.slice na l1 nc)).setCell ⟨w.heap.size + 1, 2, none⟩ (.slice oa l2 oc)) :=
          ((Plain.Touch.of_set _ (by show _ ≤ _ + 1; omega) (by show _ + 1 < _; omega)).trans (Plain.Touch.of_set _ (by show _ ≤ _ + 1; omega) (by show _ + 1 < _; omega))).trans (Plain.Touch.of_set _ (by show _ ≤ _ + 1; omega) (by show _ + 1 < _; omega))
        have := (HW.out.touch T0 (.inr HBB.out.2)).lower (show w.heap.size ≤ BB by have := HBB.out.2; omega)
        simpa only [size_setCell'] using this
      · exact ((hB.out.setCell (by show _ ≤ _ + 1; omega) _).setCell (by show _ ≤ _ + 1; omega) _).setCell (by show _ ≤ _ + 1; omega) _
    case pos =>
      obtain ⟨sn, r, o, hs, hsn, hr, ho, hrl, hr0, hr4, hrB, hmr, hoo⟩ := search_facts HV.out (i := i) (by rw [← HRE.out]; exact hlt)
      rw [← HRE.out] at hs hrB hmr
      obtain ⟨l1, hl1⟩ : ∃ l, l = ((R.take i).map (minRow rows R)).length := ⟨_, rfl⟩
      obtain ⟨l2, hl2⟩ : ∃ l, l = ((R.take i).map fun s => out.getD s.toNat 0).length := ⟨_, rfl⟩
      have hl1' : l1 ≤ 16 := by rw [hl1]; simp; omega
      have hl2' : l2 ≤ 16 := by rw [hl2]; simp; omega
      have HUSL : Hid (us.length = l1) := by show _ = _; rw [hl1]; exact hBL.out.len
      have HL2 := Lib.hid hl2
      rw [← hl1] at hvn
      rw [← hl2] at hvo
      subst hvn; subst hvo
      clear hl1 hl2
      have HSI := Lib.hid hs
      have HRR := Lib.hid hr
      have HOO := Lib.hid ho
      have HRB := Lib.hid hrB
      have HMR := Lib.hid hmr
      have HOV := Lib.hid hoo
      have hrl' : r.length = bn := by omega
      have HRL := Lib.hid hrl'
      have o1 := (ints_at hRV.out.lies hR1)
      obtain ⟨q1, s1, c1', hv1, hcl1⟩ := o1
      injection hv1 with e1 e2 e3
      injection e1 with e1
      injection e1 with e1 e4
      subst e1; subst e4
      have o1 := hcl1 i _ hs
      rw [Nat.zero_add] at o1
      obtain ⟨pa, off, hpa, q, t, c, o2', hcl⟩ := seq_row HS.out hr hr0
      have o2 := old_cell hB.out o2'
      have HCL := Lib.hid hcl
      have k0 := hC.out.c0
      have k1 := hC.out.c1
      have k2 := hC.out.c2
      rw [hpa] at k1
      clear hpa
      have hii0 : (0 : Int) ≤ (i : Int) := Int.natCast_nonneg _
      have hsn0 : (0 : Int) ≤ (sn : Int) := Int.natCast_nonneg _
      have hiR : (i : Int) < (R.length : Int) := by omega
      have hsN : (sn : Int) < (rows.length : Int) := by omega
      clear hs hr ho hrB hmr hoo hrl hrl' hcl1 hcl o2' e2 e3
      go_wp2_with (at_make; refine wpList_make_full W3 rfl _ _ 23 rfl W3.heap.size 3 i0 (.int .i64 0) 1 Try.underlying23 hi0 hz0 hz1 .i64 .i64 _ _ bn rfl rfl rfl rfl (by rw [hz2]; omega) (by unfold maxLen; omega) (Nat.le_refl _) ?_; intro w1 hown hgrow; have hbw := below_of_grown hgrow; have o2'' := old_cell hbw o2; have k1' := old_cell hbw k1)
      have hO : Hid (w1.ownsRow W3.heap.size 3 1 (.slice (some ⟨W3.heap.size, 0, none⟩) bn bn) bn (((r.take 0).map (fun x => (ix R x : Int)) ++ List.replicate (bn - 0) (0 : Int)).map (Value.int .i64))) := by
        show w1.ownsRow _ _ _ _ _ _
        rw [Ints.zero_made] at hown
        simpa using hown
      have hBW := Lib.hid hbw
      obtain ⟨zb, hzb⟩ : ∃ z, z = W3.heap.size := ⟨_, rfl⟩
      have HZB := Lib.hid hzb
      rw [← hzb] at hO ⊢
      clear hown hgrow hbw hzb o2'' k1' k0 k1 k2 o1 o2
      go_loopw [30] (fun k' wr => ∃ k : Nat, k ≤ r.length ∧ k' = .int .i64 k ∧ Hid (wr.ownsRow zb 3 1 (.slice (some ⟨zb, 0, none⟩) bn bn) bn (((r.take k).map (fun x => (ix R x : Int)) ++ List.replicate (bn - k) (0 : Int)).map (Value.int .i64))) ∧ Hid (Below W3.heap.size W3 wr)) (fun k' _ => r.length - (intOf k').toNat)
      case atStart => exact ⟨0, Nat.zero_le _, rfl, hO, hBW⟩
      case round =>
        clear hO hBW
        obtain ⟨k, hkl, rfl, hO, hBW⟩ := hrel
        by_cases hlk : k < r.length
        case pos =>
          obtain ⟨x, hx⟩ : ∃ x, r[k]? = some x := ⟨_, List.getElem?_eq_getElem hlk⟩
          have HX := Lib.hid hx
          have hxR := HRB.out x (List.mem_of_getElem? hx)
          have o3 := old_cell hBW.out (old_cell hB.out (HCL.out k x hx))
          have HRV := Lib.hid ((hRV.out.has.below hBW.out).lies)
          have hL : ((r.take k).map (fun x => (ix R x : Int))).length = k := by simp; omega
          have HL := Lib.hid hL
          have hst0 := fill_ix (n := bn) (ix R x : Int) hL (by have := HRL.out; omega)
          rw [← take_map_snoc (fun x => (ix R x : Int)) hx] at hst0
          obtain ⟨m, hm⟩ : ∃ m : Nat, m = ix R x := ⟨_, rfl⟩
          rw [← hm] at hst0
          have HM := Lib.hid hm
          have q1 := hO.out.cellAt k (by have := HRL.out; omega)
          have q2 := hO.out.frozenAt k
          have hst := hO.out.stored k (.int .i64 (m : Int))
          rw [hst0] at hst
          have HS3 := Lib.hid hst
          rw [List.getElem?_map, List.getElem?_append_right (by rw [hL]; exact Nat.le_refl _), List.getElem?_replicate, if_pos (by rw [hL]; have := HRL.out; omega)] at q1
          have hkb : (k : Int) < (bn : Int) := by have := HRL.out; omega
          have hkb2 : k < bn := by have := HRL.out; omega
          have hk0 : (0 : Int) ≤ (k : Int) := Int.natCast_nonneg _
          have hkr : (k : Int) < (r.length : Int) := by omega
          have HXR := Lib.hid hxR
          clear hx hxR hL hst0 hst hm
          go_wp2_with (go_at_call 55; refine (index_any _ _ _ _ HRV.out HXR.out HRN.out).mono ?_; rintro e w' ⟨rfl, rfl⟩; rw [← HM.out])
          go_roundw
          case rel => exact ⟨k + 1, by omega, by go_num, HS3.out.1, hBW.out.trans (by
            have h1 := (Below.refl W3.heap.size wr).grown HS3.out.2 hBW.out.size (fun k hk => by have e2 : zb = k := Option.some.inj hk; have := HZB.out; omega)
            exact h1)⟩
          case measure => simp [intOf]; omega
        case neg =>
          obtain rfl : k = r.length := by omega
          obtain ⟨W4, rfl⟩ : ∃ W : World, W = wr := ⟨_, rfl⟩
          have HU : Hid (Has (Value.int .i64) 3 W4 hi (.slice (some ⟨zb, 0, none⟩) bn bn) (minRow rows R sn)) := by
            have h1 := hO.out
            rw [List.take_length, HRL.out, Nat.sub_self, List.replicate_zero, List.append_nil] at h1
            have h2 : Has (Value.int .i64) 3 W4 W3.heap.size (.slice (some ⟨zb, 0, none⟩) bn bn) (minRow rows R sn) := by
              show W4.ownsRow _ _ _ _ _ _
              rw [HMR.out, List.length_map, HRL.out]
              rw [HZB.out] at h1 ⊢
              exact h1
            exact h2.mono hBL.out.le
          have HBL4 := Lib.hid (hBL.out.below hBW.out)
          have HRV4 := Lib.hid (hRV.out.below hBW.out)
          have HC4 := Lib.hid (hC.out.below hBW.out)
          have HZ4 := Lib.hid (hZ.out.below hBW.out)
          have HB4 := Lib.hid (hB.out.trans (hBW.out.mono hB.out.size))
          have HLT := Lib.hid (take_map_snoc (minRow rows R) HSI.out)
          have HLO := Lib.hid (take_map_snoc (fun s : Int => out.getD s.toNat 0) HSI.out)
          obtain ⟨po, oo, hpo, ho1⟩ : ∃ po oo, ao = some ⟨po, oo, none⟩ ∧ w.cell? ⟨po, oo + sn, none⟩ = some (.int .i64 o) := by
            obtain ⟨q', s', h1, h2⟩ := HS.out.cells.2 sn o HOO.out
            exact ⟨q', s', h1, h2⟩
          have HPO := Lib.hid hpo
          have HO1 := Lib.hid ho1
          have hsO : (sn : Int) < (out.length : Int) := by have := HV.out.2.2.2.2.1; omega
          have hsO2 : sn < out.length := by omega
          have d1 := HBL4.out.cells.c1
          have d2 := (HBL4.out.cells.alloc (.cells #[Value.slice (some ⟨zb, 0, none⟩) bn bn] 23)).c1
          have hpl := HBL4.out.cells.lt
          have HNP := Lib.hid (has_ne_c3 HBL4.out.top HBL4.out.cells (by decide))
          have HNC := Lib.hid (has_ne_c3 HBL4.out.top HC4.out (by decide))
          have HNZ := Lib.hid (has_ne_c3 HBL4.out.top HZ4.out (by decide))
          have HLO4 := Lib.hid (show BB ≤ W4.heap.size from Nat.le_trans HBL4.out.lo HBL4.out.le)
          clear hO hBL hRV hC hZ hB hBW hpo ho1
          go_wp2_with (at_builtin; refine wpList_append_list (enc := id) (e := 23) rfl _ _ 22 rfl BB i2 (.slice none 0 0) 24 Try.underlying22 hi2 hz20 hz21 hz22 rfl (.slice na l1 nc) us rfl (has_alloc HBL4.out.top _) (.slice (some ⟨W4.heap.size, 0, none⟩) 1 1) [.slice (some ⟨zb, 0, none⟩) bn bn] rfl (lies_lit1v _ rfl) (fun y hy => by simp at hy; subst hy; rfl) (by rw [HUSL.out]; simp; omega) (by rw [HUSL.out]; simp; omega) (by have := HLO4.out; simp; omega) ?_; intro v' w2 hv' hg2 _; obtain ⟨a2, c2, hvf, _⟩ := hv'.form; rw [show (us ++ [Value.slice (some ⟨zb, 0, none⟩) bn bn]).length = l1 + 1 from by rw [List.length_append, HUSL.out]; rfl] at hvf; subst hvf; have hg3 := grown_alloc hg2; have hc2 := HBL4.out.cells.grown hg3 HNP.out; have d3 := hc2.c1; have df := hc2.f)
          obtain ⟨l3, hl3⟩ : ∃ l, l = l1 + 1 := ⟨_, rfl⟩
          rw [← hl3] at hv' ⊢
          have HBL5 := Lib.hid (HBL4.out.row HU.out hv' hg3)
          have HG5 : Hid (BB ≤ w2.heap.size) := Nat.le_trans HLO4.out hg3.size
          have hne1 : (p : Nat) ≠ w.heap.size := by have := HS2.out; omega
          have hne2 : (p : Nat) ≠ w.heap.size + 1 := by have := HS2.out; omega
          have hne3 : w.heap.size ≤ p := by have := HS2.out; omega
          have HC5 := Lib.hid ((HC4.out.grown hg3 HNC.out).other (a := ⟨p, 1, none⟩) hne1 (.slice a2 l3 c2))
          have HZ5 := Lib.hid ((HZ4.out.grown hg3 HNZ.out).other (a := ⟨p, 1, none⟩) hne2 (.slice a2 l3 c2))
          have HB5 : Hid (Below w.heap.size w (w2.setCell ⟨p, 1, none⟩ (.slice a2 l3 c2))) := (HBL4.out.top.frame HB4.out (by have := HBB.out.2; omega) hg3).setCell hne3 _
          have HRV5 : Hid (OwnI (w2.setCell ⟨p, 1, none⟩ (.slice a2 l3 c2)) w.heap.size BB (.slice (some ⟨rq, 0, none⟩) R.length rc) R) :=
            (HRV4.out.grown hg3 (fun k hk => .inr (HBL4.out.top.lt k hk).1)).set (a := ⟨p, 1, none⟩) (has_ne_c3 (HRV4.out.grown hg3 (fun k hk => .inr (HBL4.out.top.lt k hk).1)).has hc2 (by decide)) _
          have HG6 : Hid (BB ≤ (w2.setCell ⟨p, 1, none⟩ (.slice a2 l3 c2)).heap.size) := by show _ ≤ _; rw [size_setCell']; exact HG5.out
          obtain ⟨W5, hW5⟩ : ∃ W, W = w2.setCell ⟨p, 1, none⟩ (.slice a2 l3 c2) := ⟨_, rfl⟩
          rw [← hW5] at HBL5 HC5 HZ5 HB5 HRV5 HG6 ⊢
          have HW5 := Lib.hid (show w2.heap.size = W5.heap.size by rw [hW5, size_setCell'])
          rw [HW5.out] at HBL5
          clear hv' hg2 hg3 hc2 d1 d2 d3 df hpl HBL4 HC4 HZ4 HB4 HRV4 hW5 hl3 HNP HNC HNZ HLO4 HG5
          have HVO := Lib.hid HBL5.out.terms
          have hOL : ((R.take i).map fun s => out.getD s.toNat 0).length = l2 := HL2.out.symm
          have HOL := Lib.hid hOL
          have c3 := HBL5.out.cells.c2
          have c4 := (HBL5.out.cells.alloc (.cells #[Value.int .i64 o] 3)).c2
          have kk2 := HC5.out.c2
          rw [HPO.out] at kk2
          have ko := old_cell HB5.out HO1.out
          have hpl := HBL5.out.cells.lt
          have HNO := Lib.hid (has_ne_c3 HVO.out.has HBL5.out.cells (by decide))
          have HNC := Lib.hid (has_ne_c3 HVO.out.has HC5.out (by decide))
          have HNZ := Lib.hid (has_ne_c3 HVO.out.has HZ5.out (by decide))
          clear hOL
          go_region_law ((refine step_append_at_list (enc := Value.int .i64) (e := 3) rfl (.tmp 49) (.tmp 55) 23 rfl BB i0 (.int .i64 0) 8 Try.underlying23 hi0 hz0 hz1 hz2 rfl (.slice oa l2 oc) ((R.take i).map fun s => out.getD s.toNat 0) rfl (by repeat (first | with_reducible exact HVO.out.has | with_reducible apply has_drew | with_reducible apply has_alloc)) (Value.slice (some ⟨_, 0, none⟩) 1 1) [o] rfl (by repeat (first | with_reducible apply lies_drew | (with_reducible refine lies_lit1 (enc := Value.int .i64) _ rfl) | with_reducible apply lies_alloc)) (fun _ _ => rfl) (by rw [HOL.out]; simp; omega) (by rw [HOL.out]; simp; omega) (by have := HG6.out; simp; omega) ?_; intro vt w6 ho6 hg6 hb6; obtain ⟨a6, c6, hvf, _⟩ := ho6.form; rw [show ((R.take i).map (fun s => out.getD s.toNat 0) ++ [o]).length = l2 + 1 from by rw [List.length_append, HOL.out]; rfl] at hvf; subst hvf; refine with_fact (T := W5.grownBy w6 (Value.slice oa l2 oc).ownBlock) ?_ ?_; (focus (exact grown_alloc (grown_drew hg6))); intro hg7; have hc7 := HBL5.out.cells.grown hg7 HNO.out; have r1 := hc7.c2; have r3 := hc7.f))
          all_goals
            have HBL7 := Lib.hid (HBL5.out.term ho6 hg7 (fun k hk => (hb6 k hk).imp id (fun h => by simp at h; omega)))
            have HG8 : Hid (BB ≤ w6.heap.size) := Nat.le_trans HG6.out hg7.size
            have HC7 := Lib.hid ((HC5.out.grown hg7 HNC.out).other (a := ⟨p, 2, none⟩) hne1 (.slice a6 (l2 + 1) c6))
            have HZ7 := Lib.hid ((HZ5.out.grown hg7 HNZ.out).other (a := ⟨p, 2, none⟩) hne2 (.slice a6 (l2 + 1) c6))
            have HB7 : Hid (Below w.heap.size w (w6.setCell ⟨p, 2, none⟩ (.slice a6 (l2 + 1) c6))) := (HVO.out.has.frame HB5.out (by have := HBB.out.2; omega) hg7).setCell hne3 _
            have HRV7 : Hid (OwnI (w6.setCell ⟨p, 2, none⟩ (.slice a6 (l2 + 1) c6)) w.heap.size BB (.slice (some ⟨rq, 0, none⟩) R.length rc) R) :=
              (HRV5.out.grown hg7 (fun k hk => .inr (HVO.out.has.lt k hk).1)).set (a := ⟨p, 2, none⟩) (has_ne_c3 (HRV5.out.grown hg7 (fun k hk => .inr (HVO.out.has.lt k hk).1)).has hc7 (by decide)) _
            rw [← HLT.out] at HBL7
            have HBL8 : Hid (Building (w6.setCell ⟨p, 2, none⟩ (.slice a6 (l2 + 1) c6)) BB w6.heap.size p (bn : Int) (.slice a2 l3 c2) (.slice a6 (l2 + 1) c6) (us ++ [.slice (some ⟨zb, 0, none⟩) bn bn]) ((R.take (i + 1)).map (minRow rows R)) ((R.take (i + 1)).map fun s => out.getD s.toNat 0)) := by
              have h1 := HBL7.out
              rw [← HOV.out, ← HLO.out] at h1
              exact h1
            clear ho6 hb6 hg6 hg7 hc7 r1 r3 c3 c4 kk2 ko hpl HBL5 HVO HNO HNC HNZ HBL7
            go_wp2
            go_roundw
            case rel => exact ⟨i + 1, _, _, _, w6.heap.size, by omega, by go_num, HBL8, HRV7, HC7, HZ7, HB7⟩
            case measure => simp [intOf]; omega
end Mins
end Go.Proofs.Ytgbgcaaekpgapac
/- Contracts of DigitsOf and DigitSum, of the program and of the model. No conditions beyond those that each states. -/
namespace Go.Proofs.Ytgbgcaaekpgapac
open Go.ChangeShapes Go.WideShapes Go.ChangeAt Go.RowKit
open Go.PlainAid Plain
set_option linter.unusedVariables false
namespace Digits
open Ints

/-- The digits, none where number or base is out of range. -/
def digV (n b : Int) : List Int := if 2 ≤ b ∧ b ≤ 4 ∧ 0 ≤ n ∧ n < powV b 16 then digs n.toNat b.toNat else []
theorem powV_in (b : Nat) (h1 : 2 ≤ b) (h2 : b ≤ 4) : powV b 16 = ((b ^ 16 : Nat) : Int) := by
  rw [powV, if_pos (by omega)]
  rfl
theorem digV_in (n b : Nat) (h1 : 2 ≤ b) (h2 : b ≤ 4) (h3 : n < b ^ 16) : digV n b = digs n b := by
  rw [digV, if_pos ⟨by omega, by omega, by omega, by rw [powV_in b h1 h2]; exact Int.ofNat_lt.2 h3⟩]
  rfl
theorem has_empty (w : World) : Has (Value.int .i64) 3 (w.alloc (.cells #[] 3)) w.heap.size (.slice (some ⟨w.heap.size, 0, none⟩) 0 0) [] := Has.lit (enc := Value.int .i64) (e := 3) w [] (Nat.le_refl _) (by simp)
theorem gives_empty (w : World) : Gives (Value.int .i64) 3 [] w (.returned (.slice (some ⟨w.heap.size, 0, none⟩) 0 0)) (w.alloc (.cells #[] 3)) :=
  ⟨_, rfl, has_empty w, (Below.refl _ _).alloc (Nat.le_refl _) _⟩
theorem gives_nil (w : World) : Gives (Value.int .i64) 3 [] w (.returned (.slice none 0 0)) w := ⟨_, rfl, World.ownsRow_nil _ _ _ _, Below.refl _ _⟩
theorem powV_out (b : Int) (h : ¬ (2 ≤ b ∧ b ≤ 4)) : powV b 16 = 0 := if_neg (by omega)
theorem digV_len (n b : Int) : (digV n b).length ≤ 16 := by
  unfold digV
  split
  · exact digs_len _ _
  · simp
theorem digV_mem (n b : Int) : ∀ x ∈ digV n b, 0 ≤ x ∧ x < 4 := by
  unfold digV
  split
  · intro x hx
    have := digs_mem _ _ (by omega) x hx
    omega
  · intro x hx; cases hx
end Digits
end Go.Proofs.Ytgbgcaaekpgapac
/- Contracts of DigitSum, AreDigits, ValueOf, PadDigits and ReverseDigits, of the program and of the model. No conditions beyond those that each states. -/
namespace Go.Proofs.Ytgbgcaaekpgapac
open Go.ChangeShapes Go.WideShapes Go.ChangeAt Go.RowKit
open Go.PlainAid Plain
set_option linter.unusedVariables false
namespace Digits
open Ints

theorem ret_b {a b : Bool} (h : a = b) : Ending.returned (.bool a) = Ending.returned (.bool b) := by rw [h]
/-- The number of some digits, -1 where they are none. -/
def valV (b : Int) (xs : List Int) : Int := if areD b xs = true then valD b.toNat xs else -1
theorem valV_yes {b : Nat} {xs : List Int} (h : areD b xs = true) : valV b xs = valD b xs := by rw [valV, if_pos h]; rfl
theorem valV_no {b : Int} {xs : List Int} (h : areD b xs = false) : valV b xs = -1 := by rw [valV, if_neg (by simp [h])]
theorem val_bounds {b : Nat} {xs : List Int} (h : areD b xs = true) (i : Nat) (hi : i < xs.length) : (0 ≤ valD b (xs.take i) ∧ valD b (xs.take i) ≤ 4294967296) ∧ (0 ≤ valD b (xs.take i) * (b : Int) ∧ valD b (xs.take i) * (b : Int) ≤ 4294967296) ∧ 0 ≤ xs[i] ∧ xs[i] ≤ 4 := by
  obtain ⟨h1, h2, h3, h4⟩ := areD_out h
  have ha := valD_bd b (by omega) i xs (by omega) h4
  have hp := pow_bd b i (by omega) (by omega) (by omega)
  have hb := valD_bd b (by omega) (i + 1) xs (by omega) h4
  have hq := pow_bd b (i + 1) (by omega) (by omega) (by omega)
  have hx := h4 xs[i] (List.getElem_mem _)
  rw [List.take_succ_eq_append_getElem hi, valD_snoc] at hb
  have : 0 ≤ valD b (xs.take i) * (b : Int) := Int.mul_nonneg ha.1 (by omega)
  omega
end Digits
end Go.Proofs.Ytgbgcaaekpgapac
/- Contracts of IsSteady, StateAfter and TermAt, of the program and of the model. No conditions beyond those that each states. -/
namespace Go.Proofs.Ytgbgcaaekpgapac
open Go.ChangeShapes Go.WideShapes Go.ChangeAt Go.RowKit
open Go.PlainAid Plain
set_option linter.unusedVariables false
namespace Seqs
theorem IsSeq.first {b : Int} {rows : List (List Int)} {out : List Int} (h : IsSeq b rows out) : ∃ r, rows[0]? = some r ∧ r[0]? = some (nextS rows 0 0) := by
  obtain ⟨r, h1, h2, _⟩ := h.next (s := 0) (d := 0) (Int.le_refl _) (by have := h.2.2.1; omega) (Int.le_refl _) (by have := h.1; omega)
  exact ⟨r, h1, h2⟩
theorem spec_steady (v : Value) (b : Int) (rows : List (List Int)) (out : List Int) (w : World) (h : LiesS w v b rows out) :
    Calls Try.prog 39 #[v] w fun e w' => e = .returned (.bool (steadyB b rows out)) ∧ Below w.heap.size w w' := by
  have HS := Lib.hid h
  obtain ⟨an, cn, ao, co, rfl⟩ := h.form
  clear h
  have hB : Below w.heap.size w (w.alloc (Obj.cells #[Value.int .i64 b, Value.slice an rows.length cn, Value.slice ao out.length co] 30)) := (Below.refl _ _).alloc (Nat.le_refl _) _
  have HC := Lib.hid (Cells3.new w 30 (.int .i64 b) (.slice an rows.length cn) (.slice ao out.length co))
  have HB := Lib.hid hB
  clear hB
  cases hs : seqB b rows out with
  | false =>
    have HQ := Lib.hid hs
    have HE : Hid (steadyB b rows out = false) := by show _ = _; rw [steadyB, hs]; rfl
    clear hs
    go_enter Try.func39, Try.ntmps39
    go_wp2_with fail
    refine (spec_is _ b rows out _ (HS.out.below HB.out)).mono ?_
    rintro e W1 ⟨rfl, b1⟩
    have HB1 := Lib.hid (HB.out.trans (b1.mono HB.out.size))
    rw [HQ.out]
    clear b1
    go_wp2
    go_ret
    exact ⟨ret_b HE.out.symm, HB1.out⟩
  | true =>
    have HQ := Lib.hid hs
    obtain ⟨x, hx⟩ : ∃ x, x = nextS rows 0 0 := ⟨_, rfl⟩
    have HE : Hid (steadyB b rows out = (x == 0)) := by show _ = _; rw [steadyB, hs, hx]; rfl
    obtain ⟨r, hr, hr0⟩ := IsSeq.first (seqB_out hs)
    rw [← hx] at hr0
    have HR := Lib.hid hr
    have HR0 := Lib.hid hr0
    clear hs hx hr hr0
    go_enter Try.func39, Try.ntmps39
    go_wp2_with fail
    refine (spec_is _ b rows out _ (HS.out.below HB.out)).mono ?_
    rintro e W1 ⟨rfl, b1⟩
    have HB1 := Lib.hid (HB.out.trans (b1.mono HB.out.size))
    have HC1 := Lib.hid (HC.out.below b1)
    rw [HQ.out]
    clear b1
    obtain ⟨hN, _⟩ := (HS.out.below HB1.out).cells
    obtain ⟨p, o, a', c', rfl, hcell, hrow⟩ := hN 0 r HR.out
    obtain ⟨q, s, rfl, hc0⟩ := hrow 0 x HR0.out
    have hrl : 0 < r.length := (List.getElem?_eq_some_iff.1 HR0.out).1
    have hrr : 0 < rows.length := (List.getElem?_eq_some_iff.1 HR.out).1
    rw [Nat.add_zero] at hcell hc0
    clear hN hrow
    have k0 := HC1.out.c0
    have k1 := HC1.out.c1
    have k2 := HC1.out.c2
    go_wp2
    go_ret
    exact ⟨ret_b HE.out.symm, HB1.out⟩
theorem impl_steady (v : Value) (b : Int) (rows : List (List Int)) (out : List Int) (w : World) (h : LiesS w v b rows out) :
    Calls Try.prog 48 #[v] w fun e w' => e = .returned (.bool (steadyB b rows out)) ∧ Below w.heap.size w w' := by
  have HS := Lib.hid h
  obtain ⟨an, cn, ao, co, rfl⟩ := h.form
  clear h
  have hB : Below w.heap.size w (w.alloc (Obj.cells #[Value.int .i64 b, Value.slice an rows.length cn, Value.slice ao out.length co] 30)) := (Below.refl _ _).alloc (Nat.le_refl _) _
  have HC := Lib.hid (Cells3.new w 30 (.int .i64 b) (.slice an rows.length cn) (.slice ao out.length co))
  have HB := Lib.hid hB
  clear hB
  cases hs : seqB b rows out with
  | false =>
    have HQ := Lib.hid hs
    have HE : Hid (steadyB b rows out = false) := by show _ = _; rw [steadyB, hs]; rfl
    clear hs
    go_enter Try.func48, Try.ntmps48
    go_wp2_with fail
    refine (impl_is _ b rows out _ (HS.out.below HB.out)).mono ?_
    rintro e W1 ⟨rfl, b1⟩
    have HB1 := Lib.hid (HB.out.trans (b1.mono HB.out.size))
    rw [HQ.out]
    clear b1
    go_wp2
    go_ret
    exact ⟨ret_b HE.out.symm, HB1.out⟩
  | true =>
    have HQ := Lib.hid hs
    obtain ⟨x, hx⟩ : ∃ x, x = nextS rows 0 0 := ⟨_, rfl⟩
    have HE : Hid (steadyB b rows out = (x == 0)) := by show _ = _; rw [steadyB, hs, hx]; rfl
    obtain ⟨r, hr, hr0⟩ := IsSeq.first (seqB_out hs)
    rw [← hx] at hr0
    have HR := Lib.hid hr
    have HR0 := Lib.hid hr0
    clear hs hx hr hr0
    go_enter Try.func48, Try.ntmps48
    go_wp2_with fail
    refine (impl_is _ b rows out _ (HS.out.below HB.out)).mono ?_
    rintro e W1 ⟨rfl, b1⟩
    have HB1 := Lib.hid (HB.out.trans (b1.mono HB.out.size))
    have HC1 := Lib.hid (HC.out.below b1)
    rw [HQ.out]
    clear b1
    obtain ⟨hN, _⟩ := (HS.out.below HB1.out).cells
    obtain ⟨p, o, a', c', rfl, hcell, hrow⟩ := hN 0 r HR.out
    obtain ⟨q, s, rfl, hc0⟩ := hrow 0 x HR0.out
    have hrl : 0 < r.length := (List.getElem?_eq_some_iff.1 HR0.out).1
    have hrr : 0 < rows.length := (List.getElem?_eq_some_iff.1 HR.out).1
    rw [Nat.add_zero] at hcell hc0
    clear hN hrow
    have k0 := HC1.out.c0
    have k1 := HC1.out.c1
    have k2 := HC1.out.c2
    go_wp2
    go_ret
    exact ⟨ret_b HE.out.symm, HB1.out⟩
end Seqs
end Go.Proofs.Ytgbgcaaekpgapac
/- Contract of the model's copy of a sequence. No conditions beyond those that each states. -/
namespace Go.Proofs.Ytgbgcaaekpgapac
open Go.ChangeShapes Go.WideShapes Go.ChangeAt Go.RowKit
open Go.PlainAid Plain
set_option linter.unusedVariables false
namespace Seqs
open Digits
theorem copy_held {w wo w' : World} {t : TypeId} {x y z : Value} {pa o : Nat} {u : Value} (hA : Cells3 wo w.heap.size t x y z) (hpa : pa < w.heap.size) (hc : wo.cell? ⟨pa, o, none⟩ = some u) (h : Below (w.heap.size + 2) wo w') :
    w'.cell? ⟨w.heap.size, 0, none⟩ = some x ∧ w'.cell? ⟨w.heap.size, 1, none⟩ = some y ∧ w'.cell? ⟨w.heap.size, 2, none⟩ = some z ∧ w'.cell? ⟨pa, o, none⟩ = some u := by
  have hA' := c3_of_below h hA (by omega)
  exact ⟨hA'.c0, hA'.c1, hA'.c2, (h.cell (p := ⟨pa, o, none⟩) (by show pa < _; omega)).trans hc⟩
set_option maxHeartbeats 1000000 in
theorem spec_copied (v : Value) (b : Int) (rows : List (List Int)) (out : List Int) (w : World) (h : LiesS w v b rows out) (hs : rows.length + tot rows + out.length ≤ 1048576) :
    Calls Try.prog 33 #[v] w (GivesS b rows out w) := by
  obtain ⟨i0, hi, hz0, hz1, hz2⟩ := info_parts infoR
  obtain ⟨i1, hi1, hz01, hz11, hz21⟩ := info_parts Ints.infoI
  obtain ⟨an, cn, ao, co, rfl, hN, hO⟩ := liesS_open h
  have HN := Lib.hid hN
  have HO := Lib.hid hO
  clear h hN hO
  have hB : Below w.heap.size w ((w.alloc (Obj.cells #[Value.int .i64 b, Value.slice an rows.length cn, Value.slice ao out.length co] 30)).alloc (Obj.cells #[Value.int .i64 0, Value.slice none 0 0, Value.slice none 0 0] 30)) := ((Below.refl _ _).alloc (Nat.le_refl _) _).alloc (by simp) _
  have hA := Lib.hid ((Cells3.new w 30 (.int .i64 b) (.slice an rows.length cn) (.slice ao out.length co)).alloc (Obj.cells #[Value.int .i64 0, Value.slice none 0 0, Value.slice none 0 0] 30))
  have hZ := Lib.hid (Cells3.new (w.alloc (Obj.cells #[Value.int .i64 b, Value.slice an rows.length cn, Value.slice ao out.length co] 30)) 30 (.int .i64 0) (.slice none 0 0) (.slice none 0 0))
  rw [size_alloc'] at hZ
  have HB := Lib.hid hB
  have hz : ((w.alloc (Obj.cells #[Value.int .i64 b, Value.slice an rows.length cn, Value.slice ao out.length co] 30)).alloc (Obj.cells #[Value.int .i64 0, Value.slice none 0 0, Value.slice none 0 0] 30)).heap.size = w.heap.size + 2 := by simp
  have HZ := Lib.hid hz
  clear hB hz
  go_enter Try.func33, Try.ntmps33
  go_wp2_with fail
  obtain ⟨W0, hW0⟩ : ∃ W, W = (w.alloc (Obj.cells #[Value.int .i64 b, Value.slice an rows.length cn, Value.slice ao out.length co] 30)).alloc (Obj.cells #[Value.int .i64 0, Value.slice none 0 0, Value.slice none 0 0] 30) := ⟨_, rfl⟩
  rw [← hW0] at hA hZ HB HZ ⊢
  clear hW0
  go_cut [3] (fun s wx => ∃ (p : Nat) (vo : Value), s = .pointer (some ⟨p, 0, none⟩) ∧ Hid (w.heap.size + 2 ≤ p ∧ p < wx.heap.size) ∧ Hid (Cells3 wx p 30 (.int .i64 b) (.slice none 0 0) vo) ∧ Hid (OwnI wx (w.heap.size + 2) wx.heap.size vo out) ∧ Hid (Cells3 wx w.heap.size 30 (.int .i64 b) (.slice an rows.length cn) (.slice ao out.length co)) ∧ Hid (Cells3 wx (w.heap.size + 1) 30 (.int .i64 0) (.slice none 0 0) (.slice none 0 0)) ∧ Hid (Below w.heap.size w wx))
  case first =>
    have HOW := Lib.hid (HO.out.below HB.out)
    go_region_held3 (fun w' => w'.cell? ⟨w.heap.size, 0, none⟩ = some (.int .i64 b) ∧ w'.cell? ⟨w.heap.size, 1, none⟩ = some (.slice an rows.length cn) ∧ w'.cell? ⟨w.heap.size, 2, none⟩ = some (.slice ao out.length co))
      ((refine c3_all (t := 30) ?_; repeat (first | with_reducible exact hA.out | with_reducible apply c3_drew | with_reducible apply Cells3.alloc | (refine Cells3.grown ?_ hg (by have := HZ.out; simp [Value.ownBlock]; omega)) | (with_reducible refine Cells3.other ?_ (by have := HZ.out; simp; omega) _))))
      ((refine step_append_list (enc := Value.int .i64) (e := 3) rfl _ _ 23 rfl (w.heap.size + 2) i1 (.int .i64 0) 8 Try.underlying23 hi1 hz01 hz11 hz21 rfl (Value.slice (some ⟨_, 0, none⟩) 0 0) [] rfl (by repeat (first | with_reducible apply has_drew | ((with_reducible apply has_lit0) <;> (have := HZ.out; simp <;> omega)) | with_reducible apply has_alloc)) (Value.slice ao out.length co) out rfl (by repeat (first | with_reducible exact HOW.out | with_reducible apply lies_drew | with_reducible apply lies_alloc)) (fun _ _ => rfl) (by simp only [List.length_nil]; omega) (by simp only [List.length_nil]; omega) (by have := HZ.out; simp; omega) ?_; intro vo w1 ho hg; rw [List.nil_append] at ho; obtain ⟨av, cv, rfl, _⟩ := ho.form; (first | (refine with_fact (T := Cells3 w1 (W0.heap.size) 30 (.int .i64 0) (.slice none 0 0) (.slice none 0 0)) ?_ ?_; (refine Cells3.grown ?_ hg ?_; (focus ((repeat (first | with_reducible apply c3_drew | (with_reducible refine c3_new' ?_; simp; done) | with_reducible apply Cells3.alloc)); done)); (focus (simp [Value.ownBlock]; done))); intro hZ1; have q0 := hZ1.c0; have q1 := hZ1.c1; have q2 := hZ1.c2; have q3 := hZ1.f) | (refine with_fact (T := Cells3 w1 (W0.heap.size + 1) 30 (.int .i64 0) (.slice none 0 0) (.slice none 0 0)) ?_ ?_; (refine Cells3.grown ?_ hg ?_; (focus ((repeat (first | with_reducible apply c3_drew | (with_reducible refine c3_new' ?_; simp; done) | with_reducible apply Cells3.alloc)); done)); (focus (simp [Value.ownBlock]; done))); intro hZ1; have q0 := hZ1.c0; have q1 := hZ1.c1; have q2 := hZ1.c2; have q3 := hZ1.f) | skip)))
    all_goals
      have hgW : W0.grownBy w1 (some W0.heap.size) ∨ W0.grownBy w1 (some (W0.heap.size + 1)) := by
        first
        | exact Or.inl (grown_alloc (grown_drew hg))
        | exact Or.inl (grown_alloc (grown_alloc (grown_drew hg)))
        | exact Or.inr (grown_alloc (grown_alloc (grown_drew hg)))
      have hA1 : Cells3 w1 w.heap.size 30 (.int .i64 b) (.slice an rows.length cn) (.slice ao out.length co) := by
        rcases hgW with h | h
        · exact hA.out.grown h (by have := HZ.out; simp; omega)
        · exact hA.out.grown h (by have := HZ.out; simp; omega)
      have hZ1' : Cells3 w1 (w.heap.size + 1) 30 (.int .i64 0) (.slice none 0 0) (.slice none 0 0) := by
        rcases hgW with h | h
        · exact hZ.out.grown h (by have := HZ.out; simp; omega)
        · exact hZ.out.grown h (by have := HZ.out; simp; omega)
      have hB1 : Below w.heap.size w w1 := by
        rcases hgW with h | h
        · exact HB.out.grown h HB.out.size (fun k hk => by cases hk; exact HB.out.size)
        · exact HB.out.grown h HB.out.size (fun k hk => by cases hk; have := HB.out.size; omega)
      have hs1 : w.heap.size + 2 ≤ w1.heap.size := by
        have := HZ.out
        rcases hgW with h | h
        · have := h.size; omega
        · have := h.size; omega
      have hO1 : OwnI w1 (w.heap.size + 2) w1.heap.size (.slice av out.length cv) out := ⟨ho, fun k hk => (ho.lt k hk).2, Nat.le_refl _⟩
      have HA1 := Lib.hid hA1
      have HZ1 := Lib.hid hZ1'
      have HB1 := Lib.hid hB1
      have HS1 := Lib.hid hs1
      have HO1 := Lib.hid hO1
      clear hA1 hZ1' hB1 hs1 hO1 hgW hg ho
    · go_wp2_with fail
      go_meet
      refine ⟨_, _, rfl, ⟨HS1.out, ?_⟩, c3_new' rfl, (HO1.out.below ((Below.refl _ _).alloc (Nat.le_refl _) _)).mono (Nat.le_refl _) (by simp) (Nat.le_refl _), HA1.out.alloc _, HZ1.out.alloc _, HB1.out.alloc HB1.out.size _⟩
      simp
    all_goals
      have HC1 := Lib.hid hZ1
      have HNE := Lib.hid (has_ne_c3 HO1.out.has hZ1 (by decide))
      clear hZ1 q0 q1 q2 q3
      go_wp2_with fail
      go_meet
      refine ⟨_, _, rfl, ⟨by have := HZ.out; omega, by simpa [World.setCell] using HC1.out.lt⟩, ((HC1.out.set0 _).set1 _).set2 _, (((HO1.out.set HNE.out _).set HNE.out _).set HNE.out _).mono (Nat.le_refl _) (by simp [World.setCell]) (Nat.le_refl _), ((HA1.out.other ?_ _).other ?_ _).other ?_ _, ((HZ1.out.other ?_ _).other ?_ _).other ?_ _, ((HB1.out.setCell ?_ _).setCell ?_ _).setCell ?_ _⟩
      all_goals (have := HZ.out; simp; omega)
  case rest =>
    obtain ⟨p, vo, rfl, hp, hC, hO, hA, hZ, hB⟩ := hcut
    obtain ⟨W1, rfl⟩ : ∃ W, W = wc := ⟨_, rfl⟩
    go_wp2_with fail
    obtain ⟨M, hM⟩ : ∃ M, M = W1.heap.size := ⟨_, rfl⟩
    have hp1 := hp.out.1
    have hp2 := hp.out.2
    have hMl : M ≤ W1.heap.size := by omega
    rw [← hM] at hp2 hO
    have HML := Lib.hid hMl
    clear hM hp hMl
    go_loopw [4] (fun i' wr => ∃ (i : Nat) (us : List Value) (vn : Value) (hi : Nat), i ≤ rows.length ∧ us.length = i ∧ i' = .int .i64 i ∧ Hid (Has id 23 wr M vn us) ∧ Hid (OwnRows wr M hi us (rows.take i)) ∧ Hid (M ≤ hi ∧ hi ≤ wr.heap.size) ∧ Hid (Cells3 wr p 30 (.int .i64 b) vn vo) ∧ Hid (OwnI wr (w.heap.size + 2) M vo out) ∧ Hid (Cells3 wr w.heap.size 30 (.int .i64 b) (.slice an rows.length cn) (.slice ao out.length co)) ∧ Hid (Cells3 wr (w.heap.size + 1) 30 (.int .i64 0) (.slice none 0 0) (.slice none 0 0)) ∧ Hid (Below w.heap.size w wr)) (fun i' _ => rows.length - (intOf i').toNat)
    case atStart => exact ⟨0, [], _, M, Nat.zero_le _, rfl, rfl, World.ownsRow_nil _ _ _ _, OwnRows.nil _ _ _, ⟨Nat.le_refl _, HML.out⟩, hC, hO, hA, hZ, hB⟩
    case round =>
      obtain ⟨i, us, vn, hi', hile, hul, rfl, hown, hrows, hle, hC, hO, hA, hZ, hB⟩ := hrel
      obtain ⟨wo, rfl⟩ : ∃ wo : World, wo = wr := ⟨_, rfl⟩
      by_cases hlt : i < rows.length
      · obtain ⟨r, hr⟩ : ∃ r, rows[i]? = some r := ⟨_, List.getElem?_eq_getElem hlt⟩
        obtain ⟨a0, c0, hv0, _, hcl⟩ := (HN.out.below hB.out).row
        obtain ⟨pa, off, u, rfl, hcell, hlies⟩ := hcl i r hr
        have HL := Lib.hid hlies
        have hpa : pa < w.heap.size := by
          obtain ⟨a0', c0', hv0', _, hcl'⟩ := HN.out.row
          injection hv0' with e1 e2 e3
          obtain ⟨pa', off', u', h1, h2, h3⟩ := hcl' i r hr
          injection hv0 with f1 f2 f3
          rw [← e1, f1] at h1
          injection h1 with h1
          injection h1 with h1 h4
          subst h1
          exact World.block_lt_of_cell? w _ h2
        have HRL := Lib.hid (row_le rows i r hr)
        have HT := Lib.hid (show rows.take (i + 1) = rows.take i ++ [r] from by
          obtain ⟨h1, rfl⟩ := List.getElem?_eq_some_iff.1 hr
          exact List.take_succ_eq_append_getElem h1)
        have HUL := Lib.hid hul
        injection hv0 with e1 e2 e3
        subst e1; subst e3
        have hw2 : w.heap.size + 2 ≤ wo.heap.size := by have := hle.out; omega
        have k0 := hA.out.c0
        have k1 := hA.out.c1
        have k2 := hA.out.c2
        have HCELL := Lib.hid hcell
        clear hlies hr hul hcl hcell
        go_wp2_with fail
        have c1 := hC.out.c1
        have c1' := (hC.out.alloc (Obj.cells #[] 3)).c1
        have hpl := hC.out.lt
        have i0' : (0 : Int) ≤ (i : Int) := Int.natCast_nonneg _
        have i1' : (i : Int) < (rows.length : Int) := by omega
        have HUS := Lib.hid (show (us.length + 1) * 24 ≤ 140737488355328 ∧ us.length + 1 ≤ 9223372036854775807 by have := HUL.out; omega)
        have HRS := Lib.hid (show (0 + r.length) * 8 ≤ 140737488355328 ∧ 0 + r.length ≤ 9223372036854775807 by have := HRL.out; omega)
        have HMO := Lib.hid (show M ≤ wo.heap.size by have := hle.out; omega)
        have d0 := (hA.out.alloc (Obj.cells #[] 3)).c1
        have d1 := (World.cell?_alloc_some wo ⟨pa, off + i, none⟩ (Obj.cells #[] 3) (by rw [HCELL.out]; rfl)).trans HCELL.out
        have d2 := HCELL.out
        go_region_law (first
            | (refine step_append_list (enc := Value.int .i64) (e := 3) rfl (.tmp 21) (.tmp 26) 23 rfl wo.heap.size i1 (.int .i64 0) 8 Try.underlying23 hi1 hz01 hz11 hz21 rfl (Value.slice (some ⟨_, 0, none⟩) 0 0) [] rfl (by repeat (first | with_reducible apply has_drew | ((with_reducible apply has_lit0) <;> simp) | with_reducible apply has_alloc)) u r rfl (by repeat (first | with_reducible exact HL.out | with_reducible apply lies_drew | with_reducible apply lies_alloc)) (fun _ _ => rfl) HRS.out.1 HRS.out.2 (by simp) ?_; intro vr w1 ho hg; rw [List.nil_append] at ho; obtain ⟨ar, cr, rfl, _⟩ := ho.form;
                have hg1 := grown_alloc (grown_drew hg);
                have hbw1 : Below (w.heap.size + 2) wo w1 := (Below.refl _ _).grown hg1 hw2 (fun k hk => by cases hk; omega);
                have hc1 := hC.out.grown hg1 (by simp [Value.ownBlock]; omega);
                have q1 := hc1.c1; have q2 := (hc1.alloc (Obj.cells #[Value.slice ar r.length cr] 23)).c1; have q3 := hg1.size; have hN1 := hown.out.of_same (fun k hk => hg1.block k (hown.out.lt k hk).2 (fun e => by have h1 := (hown.out.lt k hk).2; have e2 : k = wo.heap.size := Option.some.inj e; omega)))
            | (refine step_append_list (enc := id) (e := 23) rfl (.tmp 20) (.tmp 28) 22 rfl M i0 (.slice none 0 0) 24 Try.underlying22 hi hz0 hz1 hz2 rfl vn us rfl (by repeat (first | with_reducible exact hN1 | with_reducible apply has_drew | with_reducible apply has_alloc)) (Value.slice (some ⟨_, 0, none⟩) 1 1) [.slice ar r.length cr] rfl (by repeat (first | with_reducible apply lies_drew | (with_reducible refine lies_lit1v _ rfl) | with_reducible apply lies_alloc)) (fun y hy => by simp at hy; subst hy; rfl) HUS.out.1 HUS.out.2 (by have := HMO.out; simp; omega) ?_; intro vt w2 ho2 hg2; obtain ⟨at2, ct2, rfl, _⟩ := ho2.form; rw [show (us ++ [Value.slice ar r.length cr]).length = us.length + 1 from by simp] at ho2; refine with_fact (T := w1.grownBy w2 vn.ownBlock) ?_ ?_; (focus (first | exact grown_alloc hg2 | exact grown_alloc (grown_drew hg2))); intro hg3; have hbw2 : Below (w.heap.size + 2) wo w2 := hbw1.grown hg3 (by omega) (fun k hk => by have := (hown.out.lt k hk).1; omega); have hc2 := hc1.grown hg3 (has_ne_c3 hN1 hc1 (by decide)); have r1 := hc2.c1; have r3 := hc2.f))
        all_goals
          have HB2 := Lib.hid hbw2
          have HC2 := Lib.hid hc2
          have HT2 := Lib.hid ho2
          have HNT := Lib.hid (has_ne_c3 ho2 hc2 (by decide))
          have HR1 := Lib.hid ((hrows.out.below ((Below.refl _ _).grown hg1 (Nat.le_refl _) (fun k hk => by cases hk; exact Nat.le_refl _))).snoc ((OwnI.of_gives ho).mono hle.out.2 (Nat.le_refl _) (Nat.le_refl _)) hle.out.1 (Nat.le_trans hle.out.2 hg1.size))
          have HR2 := Lib.hid (HR1.out.top_grown hN1 hg3)
          have HRN := Lib.hid (HR2.out.ne_c3 hc2 (by decide))
          have hs1 := hg1.size
          have hs2 := hg3.size
          have HSZ := Lib.hid (show M ≤ w1.heap.size ∧ w1.heap.size ≤ w2.heap.size by have := HMO.out; omega)
          have HO2 := Lib.hid ((hO.out.grown hg1 (fun k hk => by have e2 : wo.heap.size = k := Option.some.inj hk; have := hO.out.le; omega)).grown hg3 (fun k hk => by have := (hown.out.lt k hk).1; omega))
          have HON := Lib.hid (has_ne_c3 HO2.out.has hc2 (by decide))
          clear d0 d1 d2 hg hg1 hbw1 hc1 q1 q2 q3 hN1 hg2 hg3 hbw2 hc2 r1 r3 ho2 ho hs1 hs2 c1 c1' k0 k1 k2
          go_wp2
          go_roundw
          case rel =>
            refine ⟨i + 1, us ++ [Value.slice ar r.length cr], Value.slice at2 (us.length + 1) ct2, w1.heap.size, by omega, by simp [HUL.out], by go_num, HT2.out.set (a := ⟨p, 1, none⟩) HNT.out (.slice at2 (us.length + 1) ct2), ?_, ⟨HSZ.out.1, by simpa [World.setCell] using HSZ.out.2⟩, HC2.out.set1 (.slice at2 (us.length + 1) ct2), HO2.out.set (a := ⟨p, 1, none⟩) HON.out (.slice at2 (us.length + 1) ct2), (c3_of_below HB2.out hA.out (by omega)).other (by show p ≠ _; omega) _, (c3_of_below HB2.out hZ.out (by omega)).other (by show p ≠ _; omega) _, (hB.out.trans (HB2.out.mono (by omega))).setCell (by show _ ≤ p; omega) _⟩
            rw [HT.out]
            exact HR2.out.set (a := ⟨p, 1, none⟩) HRN.out (.slice at2 (us.length + 1) ct2)
          case measure => simp [intOf]; omega
      · obtain rfl : i = rows.length := by omega
        have HE : Hid (OwnR wo M wo.heap.size vn us rows) := by
          have h1 := hown.out
          have h2 := hrows.out
          rw [List.take_length] at h2
          exact ⟨h1, fun k hk => (h1.lt k hk).2, Nat.le_refl _, h2.mono hle.out.2 (Nat.le_refl _)⟩
        have hw2 : M ≤ wo.heap.size := by have := hle.out; omega
        obtain ⟨a1, c1, hv1⟩ : ∃ a1 c1, vn = .slice a1 rows.length c1 := by
          obtain ⟨a1, c1, h1, _⟩ := hown.out.form
          exact ⟨a1, c1, by rw [h1, hul]⟩
        obtain ⟨a2, c2, hv2⟩ := hO.out.form
        subst hv1; subst hv2
        have k0 := hA.out.c0
        have k1 := hA.out.c1
        have k2 := hA.out.c2
        have p0 := hC.out.c0
        have p1 := hC.out.c1
        have p2 := hC.out.c2
        have p3 := hC.out.f
        have z0 := hZ.out.c0
        have z1 := hZ.out.c1
        have z2 := hZ.out.c2
        have z3 := hZ.out.f
        have HUL := Lib.hid hul
        clear hown hrows hle hul
        go_wp2
        have m0 := (((hZ.out.set0 (.int .i64 b)).set1 (.slice a1 rows.length c1)).set2 (.slice a2 out.length c2)).c0
        have m1 := (((hZ.out.set0 (.int .i64 b)).set1 (.slice a1 rows.length c1)).set2 (.slice a2 out.length c2)).c1
        have m2 := (((hZ.out.set0 (.int .i64 b)).set1 (.slice a1 rows.length c1)).set2 (.slice a2 out.length c2)).c2
        refine bodyPost_ret (v := .agg #[.int .i64 b, .slice a1 rows.length c1, .slice a2 out.length c2]) (by simp [results, Try.results33, go_sem, m0, m1, m2]) rfl ⟨_, rfl, ?_, ?_⟩
        · have T0 : Plain.Touch w.heap.size (w.heap.size + 2) wo (((wo.setCell ⟨w.heap.size + 1, 0, none⟩ (.int .i64 b)).setCell ⟨w.heap.size + 1, 1, none⟩ (.slice a1 rows.length c1)).setCell ⟨w.heap.size + 1, 2, none⟩ (.slice a2 out.length c2)) :=
            ((Plain.Touch.of_set _ (by show _ ≤ _ + 1; omega) (by show _ + 1 < _; omega)).trans (Plain.Touch.of_set _ (by show _ ≤ _ + 1; omega) (by show _ + 1 < _; omega))).trans (Plain.Touch.of_set _ (by show _ ≤ _ + 1; omega) (by show _ + 1 < _; omega))
          simp only [size_setCell']
          exact OwnS.make_out (hO.out.touch T0 (.inr (Nat.le_refl _))) (HE.out.touch T0 (.inr (by omega))) (by omega) (by omega) hw2
        · exact ((hB.out.setCell (by show _ ≤ _ + 1; omega) _).setCell (by show _ ≤ _ + 1; omega) _).setCell (by show _ ≤ _ + 1; omega) _
end Seqs
end Go.Proofs.Ytgbgcaaekpgapac
/- Contract of raised: a new row whose states are one higher. No conditions beyond those that it states. -/
namespace Go.Proofs.Ytgbgcaaekpgapac
open Go.ChangeShapes Go.WideShapes Go.ChangeAt Go.RowKit
open Go.PlainAid Plain
set_option linter.unusedVariables false
namespace Seqs
theorem raise_len (r : List Int) : (raise r).length = r.length := by simp [raise]
theorem raise_set (xs : List Int) (i : Nat) (h : i < xs.length) : (((raise xs).take i ++ List.replicate (xs.length - i) (0 : Int)).map (Value.int .i64)).set i (.int .i64 (xs[i] + 1)) = ((raise xs).take (i + 1) ++ List.replicate (xs.length - (i + 1)) (0 : Int)).map (Value.int .i64) := by
  have h1 := Ints.take_set (raise xs) i (by rw [raise_len]; exact h)
  have e : (raise xs)[i]'(by rw [raise_len]; exact h) = xs[i] + 1 := by simp [raise]
  rw [e] at h1
  simpa only [raise_len] using h1
theorem raised_any (v : Value) (xs : List Int) (w : World) (h : Lies (Value.int .i64) w v xs) (hs : xs.length ≤ 1048576) (hb : ∀ x ∈ xs, 0 ≤ x ∧ x < 1000) :
    Calls Try.prog 51 #[v] w (Gives (Value.int .i64) 3 (raise xs) w) := by
  obtain ⟨i0, hi, hz0, hz1, hz2⟩ := info_parts Ints.infoI
  obtain ⟨hl, a, ca, rfl, _, hc⟩ := h
  have HC := Lib.hid hc
  have HBD := Lib.hid hb
  clear hc hb
  go_enter Try.func51, Try.ntmps51
  go_wp2_with (at_make; refine wpList_make_full w rfl _ _ 23 rfl w.heap.size 3 i0 (.int .i64 0) 1 Try.underlying23 hi hz0 hz1 .i64 .i64 _ _ xs.length rfl rfl rfl rfl (by rw [hz2]; omega) (by unfold maxLen; omega) (Nat.le_refl _) ?_; intro w1 hown hgrow)
  have hown0 : Hid (w1.ownsRow w.heap.size 3 1 (.slice (some ⟨w.heap.size, 0, none⟩) xs.length xs.length) xs.length (((raise xs).take 0 ++ List.replicate (xs.length - 0) (0 : Int)).map (Value.int .i64))) := by
    show w1.ownsRow _ _ _ _ _ _
    rw [Ints.zero_made] at hown
    simpa using hown
  have hbel0 := Lib.hid (below_of_grown hgrow)
  clear hown hgrow
  go_loopw [11] (fun i' wr => ∃ i : Nat, i ≤ xs.length ∧ i' = .int .i64 i ∧ Hid (wr.ownsRow w.heap.size 3 1 (.slice (some ⟨w.heap.size, 0, none⟩) xs.length xs.length) xs.length (((raise xs).take i ++ List.replicate (xs.length - i) (0 : Int)).map (Value.int .i64))) ∧ Hid (Below w.heap.size w wr)) (fun i' _ => xs.length - (intOf i').toNat)
  case atStart => exact ⟨0, Nat.zero_le _, rfl, hown0, hbel0⟩
  case round =>
    obtain ⟨i, hi, rfl, hown, hbel⟩ := hrel
    by_cases hlt : i < xs.length
    · obtain ⟨b, o, rfl, hc1⟩ := HC.out i _ (List.getElem?_eq_getElem hlt)
      have hx := HBD.out xs[i] (List.getElem_mem _)
      have hx0 := hx.1
      have hx1 := hx.2
      have hc2 : wr.cell? ⟨b, o + i, none⟩ = some (.int .i64 xs[i]) := (hbel.out.cell (p := ⟨b, o + i, none⟩) (World.block_lt_of_cell? w _ hc1)).trans hc1
      have hne : b ≠ w.heap.size := by have := World.block_lt_of_cell? w _ hc1; simp at this; omega
      have hc : wr.cell? ⟨w.heap.size, i, none⟩ = some (.int .i64 0) := by
        rw [hown.out.cellAt i (by omega)]
        rw [List.getElem?_map, List.getElem?_append_right (by rw [List.length_take, raise_len]; omega), List.length_take, List.getElem?_replicate, if_pos (by rw [raise_len]; omega)]
        rfl
      have hfr := hown.out.frozenAt i
      have hst := hown.out.stored i (.int .i64 (xs[i] + 1))
      rw [raise_set xs i hlt] at hst
      have HS := Lib.hid hst
      clear hst hown hc1 hx
      go_wp2
      go_roundw
      case rel => exact ⟨i + 1, by omega, by go_num, HS.out.1, hbel.out.setCell (Nat.le_refl _) _⟩
      case measure => simp [intOf]; omega
    · obtain rfl : i = xs.length := by omega
      have H2 : Hid (Has (Value.int .i64) 3 wr w.heap.size (.slice (some ⟨w.heap.size, 0, none⟩) xs.length xs.length) (raise xs)) := by
        show wr.ownsRow _ _ _ _ _ _
        have := hown.out
        rw [raise_len]
        rw [Nat.sub_self, List.replicate_zero, List.append_nil, List.take_of_length_le (by rw [raise_len]; exact Nat.le_refl _)] at this
        exact this
      clear hown hlt hi
      go_wp2
      go_ret
      exact ⟨_, rfl, H2.out, hbel.out⟩
end Seqs
end Go.Proofs.Ytgbgcaaekpgapac
