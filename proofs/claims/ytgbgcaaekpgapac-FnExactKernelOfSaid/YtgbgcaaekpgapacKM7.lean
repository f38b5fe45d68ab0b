/- Several texts of this proof, one behind the other: each says ahead of it what it shows and under which conditions. -/
import Derived.Test.YtgbgcaaekpgapacKM6
import Derived.Test.YtgbgcaaekpgapacKM4
import Derived.Test.YtgbgcaaekpgapacKM3
import Derived.Test.YtgbgcaaekpgapacKM1
import Derived.Deep.DeepCutAuto
import Derived.Test.YtgbgcaaekpgapacKM2
import Derived.WalkKit
import Derived.Lib.Hide
import Derived.Conc.LoneCalls
import Derived.Maps.AppendAt
/- Plain facts: the minimal form of a minimal form is itself. No conditions beyond those that each fact states. -/
namespace Go.Proofs.Ytgbgcaaekpgapac
open Plain
open Seqs
set_option linter.unusedVariables false
namespace Mins
/-- A map of states that goes along with the digits and the terms keeps apart what is apart. -/
theorem hom_cls {X Y : List (List Int)} {ox oy : List Int} {n : Nat} (A : Auto X ox n) (B : Auto Y oy n) (φ : Nat → Nat)
    (hφ : ∀ i < X.length, φ i < Y.length ∧ oy.getD (φ i) 0 = ox.getD i 0 ∧ ∀ d < n, ((Y.getD (φ i) []).getD d 0).toNat = φ ((X.getD i []).getD d 0).toNat) :
    ∀ (k : Nat) {i j : Nat}, i < X.length → j < X.length → ((clsR X ox k).getD i 0 = (clsR X ox k).getD j 0 ↔ (clsR Y oy k).getD (φ i) 0 = (clsR Y oy k).getD (φ j) 0)
  | 0, i, j, hi, hj => by
    rw [clsR_zero, clsR_zero]
    have h1 := (hφ i hi).1
    have h2 := (hφ j hj).1
    simp [List.getD_eq_getElem?_getD, hi, hj, h1, h2]
  | k + 1, i, j, hi, hj => by
    obtain ⟨hi1, hi2, hi3⟩ := hφ i hi
    obtain ⟨hj1, hj2, hj3⟩ := hφ j hj
    rw [cls_iff hi hj, cls_iff hi1 hj1, keyC_iff A hi hj, keyC_iff B hi1 hj1, hi2, hj2]
    refine and_congr_right fun _ => forall_congr' fun d => forall_congr' fun hd => ?_
    rw [hi3 d hd, hj3 d hd]
    exact hom_cls A B φ hφ k (next_lt A hi hd).2 (next_lt A hj hd).2
theorem classes_late {X : List (List Int)} {ox : List Int} {n : Nat} (A : Auto X ox n) {K : Nat} (h : X.length + 1 ≤ K) : clsR X ox K = classes X ox := stable_on (k := X.length + 1) (classes_fix A).1 K h
theorem hom_classes {X Y : List (List Int)} {ox oy : List Int} {n : Nat} (A : Auto X ox n) (B : Auto Y oy n) (φ : Nat → Nat)
    (hφ : ∀ i < X.length, φ i < Y.length ∧ oy.getD (φ i) 0 = ox.getD i 0 ∧ ∀ d < n, ((Y.getD (φ i) []).getD d 0).toNat = φ ((X.getD i []).getD d 0).toNat)
    {i j : Nat} (hi : i < X.length) (hj : j < X.length) : (classes X ox).getD i 0 = (classes X ox).getD j 0 ↔ (classes Y oy).getD (φ i) 0 = (classes Y oy).getD (φ j) 0 := by
  have h := hom_cls A B φ hφ (X.length + Y.length + 1) hi hj
  rw [classes_late A (by omega), classes_late B (by omega)] at h
  exact h
/-- No two states are in one class. -/
def Apart (X : List (List Int)) (ox : List Int) : Prop := ∀ i j, i < X.length → j < X.length → (classes X ox).getD i 0 = (classes X ox).getD j 0 → i = j
theorem row_width {X : List (List Int)} {ox : List Int} {n : Nat} (A : Auto X ox n) {i : Nat} (hi : i < X.length) : (X.getD i []).length = n := by
  rw [List.getD_eq_getElem?_getD, List.getElem?_eq_getElem hi]
  exact A.width _ (List.getElem_mem _)
theorem map_getD {f : Int → Int} {l : List Int} {d : Nat} (h : d < l.length) : (l.map f).getD d 0 = f (l.getD d 0) := by
  rw [List.getD_eq_getElem?_getD, List.getElem?_map, List.getD_eq_getElem?_getD, List.getElem?_eq_getElem h]
  rfl
theorem getD_mem {l : List Int} {d : Nat} (h : d < l.length) : l.getD d 0 ∈ l := by
  rw [List.getD_eq_getElem?_getD, List.getElem?_eq_getElem h]
  exact List.getElem_mem _
theorem cls_surj {rows : List (List Int)} {out : List Int} {n : Nat} (A : Auto rows out n) {c : Nat} (hc : c < (rowsQ rows out).length) : ∃ s < rows.length, ((classes rows out).getD s 0).toNat = c := by
  have hc' : c < (keysQ rows out).length := by simpa [rowsQ] using hc
  have hk := List.getElem?_eq_getElem hc'
  obtain ⟨s, hs, e⟩ := keysQ_mem (List.getElem_mem hc')
  refine ⟨s, hs, ?_⟩
  rw [(class_at A hs).1, Int.toNat_natCast]
  rw [e] at hk
  exact idxOf_get (dist_nodup _) hk
theorem apart_Q {rows : List (List Int)} {out : List Int} {n : Nat} (A : Auto rows out n) : Apart (rowsQ rows out) (outQ rows out) := by
  intro i j hi hj h
  obtain ⟨s, hs, rfl⟩ := cls_surj A hi
  obtain ⟨t, ht, rfl⟩ := cls_surj A hj
  have h1 := (hom_classes A (rowsQ_auto A) (fun s => ((classes rows out).getD s 0).toNat) (fun i hi => by
    have h1 := class_lt A hi
    refine ⟨by omega, (rowsQ_at A hi).2, fun d hd => ?_⟩
    have h2 := (rowsQ_at A hi).1
    show ((rowOf (rowsQ rows out) ((classes rows out).getD i 0)).getD d 0).toNat = _
    rw [h2, map_getD (by rw [row_width A hi]; exact hd)]) hs ht).2 h
  rw [h1]
theorem apart_S {Q : List (List Int)} {o : List Int} {n : Nat} (A : Auto Q o n) (hI : Apart Q o) : Apart (searchR Q) (searchO Q o) := by
  intro i j hi hj h
  have hnd : (reached Q).Nodup := (reachI_ok A.closed _).1
  have hb : ∀ s ∈ reached Q, 0 ≤ s ∧ s < Q.length := (reachI_ok A.closed _).2
  have hl : (searchR Q).length = (reached Q).length := by simp [searchR]
  have g : ∀ k, k < (reached Q).length → (reached Q)[k]? = some ((reached Q).getD k 0) := fun k hk => by
    rw [List.getD_eq_getElem?_getD, List.getElem?_eq_getElem hk]; rfl
  have gm : ∀ k, k < (reached Q).length → (reached Q).getD k 0 ∈ reached Q := fun k hk => List.mem_of_getElem? (g k hk)
  have h1 := (hom_classes (searchR_auto A) A (fun k => ((reached Q).getD k 0).toNat) (fun k hk => by
    rw [hl] at hk
    have h1 := hb _ (gm k hk)
    refine ⟨by omega, ?_, fun d hd => ?_⟩
    · rw [searchO, List.getD_eq_getElem?_getD (l := List.map _ _), List.getElem?_map, g k hk]
      rfl
    · have e : (searchR Q).getD k [] = minRow Q (reached Q) ((reached Q).getD k 0) := by
        rw [searchR, List.getD_eq_getElem?_getD (l := List.map _ _), List.getElem?_map, g k hk]
        rfl
      have hw : (rowOf Q ((reached Q).getD k 0)).length = n := A.width _ (rowOf_mem h1.1 h1.2)
      rw [e, minRow]
      have hd' : d < (rowOf Q ((reached Q).getD k 0)).length := by omega
      rw [map_getD hd', Int.toNat_natCast]
      have hm : (rowOf Q ((reached Q).getD k 0)).getD d 0 ∈ rowOf Q ((reached Q).getD k 0) := getD_mem hd'
      have h3 := get_idxOf (reached_next A.closed (gm k hk) hm)
      show ((rowOf Q ((reached Q).getD k 0)).getD d 0).toNat = ((reached Q).getD (ix (reached Q) ((rowOf Q ((reached Q).getD k 0)).getD d 0)) 0).toNat
      rw [List.getD_eq_getElem?_getD (l := reached Q) (i := ix _ _), h3]
      rfl) hi hj).1 h
  rw [hl] at hi hj
  have h2 := hb _ (gm i hi)
  have h3 := hb _ (gm j hj)
  have h4 := hI _ _ (by omega) (by omega) h1
  have h5 : (reached Q).getD i 0 = (reached Q).getD j 0 := by omega
  have h6 := idxOf_get hnd (g i hi)
  have h7 := idxOf_get hnd (g j hj)
  rw [← h6, ← h7, h5]
theorem nodup_map_on {α β : Type} {f : α → β} : ∀ {l : List α}, l.Nodup → (∀ a ∈ l, ∀ b ∈ l, f a = f b → a = b) → (l.map f).Nodup
  | [], _, _ => List.nodup_nil
  | a :: l, hn, hf => by
    rw [List.nodup_cons] at hn
    rw [List.map_cons, List.nodup_cons]
    refine ⟨fun hm => ?_, nodup_map_on hn.2 fun x hx y hy => hf x (by simp [hx]) y (by simp [hy])⟩
    obtain ⟨b, hb, e⟩ := List.mem_map.1 hm
    have := hf b (by simp [hb]) a (by simp) e
    exact hn.1 (this ▸ hb)
theorem addAll_fresh {α : Type} [DecidableEq α] : ∀ (xs l : List α), (l ++ xs).Nodup → addAll l xs = l ++ xs
  | [], l, _ => by simp [addAll_nil]
  | x :: xs, l, h => by
    have hx : x ∉ l := fun hx => by
      rw [List.nodup_append] at h
      exact h.2.2 x hx x (by simp) rfl
    rw [addAll_cons, addTo_new hx, addAll_fresh xs (l ++ [x]) (by simpa using h)]
    simp
theorem dist_fresh {α : Type} [DecidableEq α] {l : List α} (h : l.Nodup) : dist l = l := by
  rw [dist, addAll_fresh l [] (by simpa using h)]
  rfl
/-- An automaton whose states are apart is its own merged automaton. -/
theorem own_Q {X : List (List Int)} {ox : List Int} {n : Nat} (A : Auto X ox n) (hI : Apart X ox) : rowsQ X ox = X ∧ outQ X ox = ox := by
  have hnd : (keysOf X ox (classes X ox)).Nodup := nodup_map_on List.nodup_range fun i hi j hj h => by
    rw [List.mem_range] at hi hj
    have h1 := (cls_iff (k := X.length + 1) hi hj).2 h
    have h2 : clsR X ox (X.length + 1 + 1) = classes X ox := (classes_fix A).1
    rw [h2] at h1
    exact hI i j hi hj h1
  have hd := dist_fresh hnd
  have hc : ∀ i < X.length, (classes X ox).getD i 0 = (i : Int) := fun i hi => by
    have h1 : (keysOf X ox (classes X ox))[i]? = some (keyC X ox (classes X ox) i) := by simp [keysOf, hi]
    rw [(class_at A hi).1, keysQ, hd, idxOf_get hnd h1]
  constructor
  · rw [rowsQ, keysQ, hd, keysOf, List.map_map]
    apply List.ext_getElem?
    intro i
    rcases Nat.lt_or_ge i X.length with hi | hi
    · rw [List.getElem?_map, List.getElem?_range hi, List.getElem?_eq_getElem hi]
      show some (keyC X ox (classes X ox) i).tail = _
      have e : X.getD i [] = X[i] := by rw [List.getD_eq_getElem?_getD, List.getElem?_eq_getElem hi]; rfl
      rw [keyC, List.tail_cons, e]
      congr 1
      refine (List.map_congr_left fun x hx => ?_).trans (List.map_id _)
      have h1 := A.closed.2 _ (List.getElem_mem hi) x hx
      rw [hc _ (by omega)]
      show ((x.toNat : Nat) : Int) = x
      omega
    · rw [List.getElem?_eq_none (by simpa using hi), List.getElem?_eq_none hi]
  · rw [outQ, keysQ, hd, keysOf, List.map_map]
    apply List.ext_getElem?
    intro i
    rcases Nat.lt_or_ge i X.length with hi | hi
    · have hi' : i < ox.length := by rw [A.terms]; exact hi
      rw [List.getElem?_map, List.getElem?_range hi, List.getElem?_eq_getElem hi']
      show some ((keyC X ox (classes X ox) i).headD 0) = _
      rw [keyC, List.getD_eq_getElem?_getD, List.getElem?_eq_getElem hi']
      rfl
    · rw [List.getElem?_eq_none (by simpa using hi), List.getElem?_eq_none (by rw [A.terms]; exact hi)]
/-- What a search among found states finds. -/
theorem reach_S {Q : List (List Int)} {o : List Int} {n : Nat} (A : Auto Q o n) : ∀ i, reachI (searchR Q) i = (reachI Q i).map fun x => (ix (reached Q) x : Int)
  | 0 => by
    have hnd : (reached Q).Nodup := (reachI_ok A.closed _).1
    have h := idxOf_get hnd (reached_zero Q)
    simp only [reachI, List.map_cons, List.map_nil]
    rw [h]
    rfl
  | i + 1 => by
    have ih := reach_S A i
    cases hs : (reachI Q i)[i]? with
    | none =>
      have h1 : (reachI (searchR Q) i)[i]? = none := by rw [ih, List.getElem?_map, hs]; rfl
      rw [reachI, h1, reachI, hs]
      exact ih
    | some s =>
      have hnd : (reached Q).Nodup := (reachI_ok A.closed _).1
      have hL : (reached Q)[i]? = some s := by
        obtain ⟨t, ht⟩ := reachI_sub A.closed i
        rw [← ht, List.getElem?_append_left (List.getElem?_eq_some_iff.1 hs).1]
        exact hs
      have h1 : (reachI (searchR Q) i)[i]? = some (i : Int) := by
        rw [ih, List.getElem?_map, hs, Option.map_some, idxOf_get hnd hL]
      have h2 : rowOf (searchR Q) (i : Int) = (rowOf Q s).map fun x => (ix (reached Q) x : Int) := by
        rw [rowOf, searchR, Int.toNat_natCast, List.getD_eq_getElem?_getD, List.getElem?_map, hL]
        rfl
      rw [reachI_step h1, reachI_step hs, ih, h2]
      refine addAll_map (fun x => (ix (reached Q) x : Int)) (reached Q) (fun a ha b hb e => idxOf_inj ha hb (by have e' : (ix (reached Q) a : Int) = ix (reached Q) b := e; omega)) _ _ (fun x hx => ?_) (fun x hx => reached_next A.closed (List.mem_of_getElem? hL) hx)
      obtain ⟨t, ht⟩ := reachI_sub A.closed i
      rw [← ht]
      exact List.mem_append_left _ hx
theorem reached_S {Q : List (List Int)} {o : List Int} {n : Nat} (A : Auto Q o n) : reached (searchR Q) = (List.range (searchR Q).length).map fun i : Nat => (i : Int) := by
  have hl : (searchR Q).length = (reached Q).length := by simp [searchR]
  have hnd : (reached Q).Nodup := (reachI_ok A.closed _).1
  show reachI (searchR Q) (searchR Q).length = _
  rw [hl, reach_S A, reachI_end A.closed (reachI_sub A.closed _).length_le]
  apply List.ext_getElem?
  intro i
  rcases Nat.lt_or_ge i (reached Q).length with hi | hi
  · have h := List.getElem?_eq_getElem hi
    rw [List.getElem?_map, List.getElem?_map, h, List.getElem?_range hi, Option.map_some, idxOf_get hnd h]
    rfl
  · rw [List.getElem?_eq_none (by simpa using hi), List.getElem?_eq_none (by simpa using hi)]
/-- An automaton whose states are found in their order is what a search makes of it. -/
theorem own_S {X : List (List Int)} {ox : List Int} {n : Nat} (A : Auto X ox n) (hr : reached X = (List.range X.length).map fun i : Nat => (i : Int)) : searchR X = X ∧ searchO X ox = ox := by
  have hnd : (reached X).Nodup := (reachI_ok A.closed _).1
  have hg : ∀ i < X.length, (reached X)[i]? = some (i : Int) := fun i hi => by
    rw [hr, List.getElem?_map, List.getElem?_range hi]; rfl
  have hl : (reached X).length = X.length := by rw [hr]; simp
  constructor
  · apply List.ext_getElem?
    intro i
    rw [searchR, List.getElem?_map]
    rcases Nat.lt_or_ge i X.length with hi | hi
    · rw [hg i hi, List.getElem?_eq_getElem hi]
      have e : rowOf X (i : Int) = X[i] := by rw [rowOf, Int.toNat_natCast, List.getD_eq_getElem?_getD, List.getElem?_eq_getElem hi]; rfl
      rw [Option.map_some, minRow, e]
      congr 1
      refine (List.map_congr_left fun x hx => ?_).trans (List.map_id _)
      have h1 := A.closed.2 _ (List.getElem_mem hi) x hx
      have h2 := hg x.toNat (by omega)
      rw [Int.toNat_of_nonneg h1.1] at h2
      rw [idxOf_get hnd h2]
      show ((x.toNat : Nat) : Int) = x
      omega
    · rw [List.getElem?_eq_none (by rw [hl]; exact hi), List.getElem?_eq_none hi]
      rfl
  · apply List.ext_getElem?
    intro i
    rw [searchO, List.getElem?_map]
    rcases Nat.lt_or_ge i X.length with hi | hi
    · have hi' : i < ox.length := by rw [A.terms]; exact hi
      rw [hg i hi, List.getElem?_eq_getElem hi', Option.map_some, Int.toNat_natCast, List.getD_eq_getElem?_getD, List.getElem?_eq_getElem hi']
      rfl
    · rw [List.getElem?_eq_none (by rw [hl]; exact hi), List.getElem?_eq_none (by rw [A.terms]; exact hi)]
      rfl
theorem min_own {rows : List (List Int)} {out : List Int} {n : Nat} (A : Auto rows out n) : minR (minR rows out) (minO rows out) = minR rows out ∧ minO (minR rows out) (minO rows out) = minO rows out := by
  have B := rowsQ_auto A
  have C := searchR_auto B
  obtain ⟨h1, h2⟩ := own_Q C (apart_S B (apart_Q A))
  obtain ⟨h3, h4⟩ := own_S C (reached_S B)
  unfold minR minO
  rw [h1, h2]
  exact ⟨h3, h4⟩
theorem form_steady {b : Int} {rows : List (List Int)} {out : List Int} (hk : formK b rows out = true) : nextS (formR b rows out) 0 0 = 0 := by
  rcases form_parts b rows out with ⟨h1, _, _, h2, h3⟩ | ⟨h1, _⟩ | ⟨hq, _, _, _, _, h2, h3⟩
  · rw [h2]
    simp only [steadyB, Bool.and_eq_true, decide_eq_true_eq] at h1
    exact h1.2
  · rw [hk] at h1; cases h1
  · rw [h2]; rfl
theorem min_steady {rows : List (List Int)} {out : List Int} {n : Nat} (A : Auto rows out n) (hn : 0 < n) (h : nextS rows 0 0 = 0) : nextS (minR rows out) 0 0 = 0 := by
  have hz := reached_zero (rowsQ rows out)
  have B := rowsQ_auto A
  have h0 : 0 < rows.length := A.closed.1
  have hq : (rowOf (rowsQ rows out) 0).getD 0 0 = 0 := by
    have h1 := (rowsQ_at A h0).1
    rw [class_zero A] at h1
    rw [h1, map_getD (by rw [row_width A h0]; exact hn)]
    have h2 : (rows.getD 0 []).getD 0 0 = 0 := h
    rw [h2]
    exact class_zero A
  show ((searchR (rowsQ rows out)).getD 0 []).getD 0 0 = 0
  have e : (searchR (rowsQ rows out)).getD 0 [] = minRow (rowsQ rows out) (reached (rowsQ rows out)) 0 := by
    rw [searchR, List.getD_eq_getElem?_getD (l := List.map _ _), List.getElem?_map, hz]
    rfl
  have hw : (rowOf (rowsQ rows out) 0).length = n := B.width _ (rowOf_mem (by omega) (by have := B.closed.1; omega))
  have hnd : (reached (rowsQ rows out)).Nodup := (reachI_ok B.closed _).1
  rw [e, minRow, map_getD (by omega), hq, idxOf_get hnd hz]
  rfl
/-- The minimal form has a steady form: itself; its minimal form is itself. -/
theorem min_min {b : Int} {rows : List (List Int)} {out : List Int} (hk : formK b rows out = true) :
    formK b (minRV b rows out) (minOV b rows out) = true ∧ minRV b (minRV b rows out) (minOV b rows out) = minRV b rows out ∧ minOV b (minRV b rows out) (minOV b rows out) = minOV b rows out ∧ isMinB b (minRV b rows out) (minOV b rows out) = true := by
  have hv := form_valid hk
  have hm := min_valid hk
  have hB : formB b rows out = b := by rw [formB, if_pos hk]
  rw [hB] at hv hm
  have hA := hv.auto
  have hs : steadyB b (minRV b rows out) (minOV b rows out) = true := by
    rw [steadyB, seqB_yes hm, Bool.true_and, decide_eq_true_eq, minRV, if_pos hk]
    exact min_steady hA (by have := hv.1; omega) (form_steady hk)
  have hk' : formK b (minRV b rows out) (minOV b rows out) = true := by rw [formK, hs]; rfl
  have h1 : formR b (minRV b rows out) (minOV b rows out) = minRV b rows out := by rw [formR, if_pos hs]
  have h2 : formO b (minRV b rows out) (minOV b rows out) = minOV b rows out := by rw [formO, if_pos hs]
  have h3 : minRV b (minRV b rows out) (minOV b rows out) = minRV b rows out := by
    rw [minRV, if_pos hk', h1, h2]
    rw [show minRV b rows out = minR (formR b rows out) (formO b rows out) from by rw [minRV, if_pos hk], show minOV b rows out = minO (formR b rows out) (formO b rows out) from by rw [minOV, if_pos hk]]
    exact (min_own hA).1
  have h4 : minOV b (minRV b rows out) (minOV b rows out) = minOV b rows out := by
    rw [minOV, if_pos hk', h1, h2]
    rw [show minRV b rows out = minR (formR b rows out) (formO b rows out) from by rw [minRV, if_pos hk], show minOV b rows out = minO (formR b rows out) (formO b rows out) from by rw [minOV, if_pos hk]]
    exact (min_own hA).2
  refine ⟨hk', h3, h4, ?_⟩
  rw [isMinB, hk', h3]
  simp
end Mins
end Go.Proofs.Ytgbgcaaekpgapac
/- Plain facts on the search for a kernel: what it has found after so many steps, that no step of it fails, where it ends. No conditions beyond those that each fact states. -/
namespace Go.Proofs.Ytgbgcaaekpgapac
open Plain
set_option linter.unusedVariables false
namespace Kern
open Seqs Mins
/-- A sequence: its base, its next states, its terms. -/
structure Sq where
  b : Int
  r : List (List Int)
  o : List Int
def Sq.same (f g : Sq) : Bool := sameB f.b g.b f.r g.r f.o g.o
theorem Sq.same_iff {f g : Sq} : f.same g = true ↔ f = g := by
  obtain ⟨b, r, o⟩ := f
  obtain ⟨b', r', o'⟩ := g
  simp [Sq.same, sameB, and_assoc]
def sub (q : Sq) (r : Int) : Sq := ⟨subB q.b q.r q.o r, subR q.b q.r q.o r, subO q.b q.r q.o r⟩
def mini (b : Int) (rows : List (List Int)) (out : List Int) : Sq := ⟨formB b rows out, minRV b rows out, minOV b rows out⟩
/-- Steady and small. -/
structure Good (b : Int) (q : Sq) : Prop where
  base : q.b = b
  steady : steadyB q.b q.r q.o = true
theorem Good.seq {b : Int} {q : Sq} (h : Good b q) : IsSeq q.b q.r q.o := by
  have := h.steady
  rw [steadyB, Bool.and_eq_true] at this
  exact seqB_out this.1
theorem min_steadyB {b : Int} {rows : List (List Int)} {out : List Int} (hk : formK b rows out = true) : steadyB (formB b rows out) (minRV b rows out) (minOV b rows out) = true := by
  have hv := form_valid hk
  have hm := min_valid hk
  rw [steadyB, seqB_yes hm, Bool.true_and, decide_eq_true_eq, minRV, if_pos hk]
  exact min_steady hv.auto (by have := hv.1; omega) (form_steady hk)
theorem mini_good {b : Int} {rows : List (List Int)} {out : List Int} (hk : formK b rows out = true) : Good b (mini b rows out) := ⟨by show formB b rows out = b; rw [formB, if_pos hk], min_steadyB hk⟩
theorem tot_four {rows : List (List Int)} (h : ∀ r ∈ rows, r.length ≤ 4) : tot rows ≤ rows.length * 4 := by
  induction rows with
  | nil => simp [tot]
  | cons r rows ih =>
    have h1 := ih fun x hx => h x (by simp [hx])
    have h2 := h r (by simp)
    have : tot (r :: rows) = r.length + tot rows := by simp [tot]
    rw [this, List.length_cons, Nat.add_mul]
    omega
theorem Good.size {b : Int} {q : Sq} (h : Good b q) : q.r.length + tot q.r + q.o.length ≤ 1048576 := by
  have h1 := h.seq
  have h2 := tot_four (rows := q.r) fun r hr => by have := (h1.2.2.2.2.2.1 r hr).1; have := h1.2.1; omega
  have h3 := h1.2.2.2.1
  have h4 := h1.2.2.2.2.1
  omega
theorem subE_valid {b : Int} {rows : List (List Int)} {out : List Int} (h : steadyB b rows out = true) (r : Int) (h0 : 0 ≤ r) (h1 : r < b) : steadyB b rows (subE b rows out r) = true := by
  have hk : formK b rows out = true := by rw [formK, h]; rfl
  have hR : formR b rows out = rows := by rw [formR, if_pos h]
  have hO : formO b rows out = out := by rw [formO, if_pos h]
  rw [steadyB, Bool.and_eq_true, decide_eq_true_eq] at h
  have hv := seqB_out h.1
  have hl : (subT rows out r).length = out.length := by
    have := hv.2.2.2.2.1
    simp only [subT, subP_len]
    omega
  have hx : ∀ x ∈ subT rows out r, 0 ≤ x ∧ x ≤ 3 := fun x hx => by
    simp only [subT, subP, List.mem_map, List.mem_range] at hx
    obtain ⟨i, hi, rfl⟩ := hx
    have h2 := hv.next (s := (i : Int)) (d := r) (by omega) (by omega) h0 h1
    have h3 := hv.2.2.2.2.1
    refine hv.2.2.2.2.2.2 _ ?_
    unfold subX
    rw [List.getD_eq_getElem?_getD, List.getElem?_eq_getElem (by omega), Option.getD_some]
    exact List.getElem_mem _
  rw [steadyB, Bool.and_eq_true, decide_eq_true_eq]
  refine ⟨seqB_yes ?_, h.2⟩
  rw [subE, hR, hO]
  exact ⟨hv.1, hv.2.1, hv.2.2.1, hv.2.2.2.1, by rw [hl]; exact hv.2.2.2.2.1, hv.2.2.2.2.2.1, hx⟩
theorem Good.sub {b : Int} {q : Sq} (h : Good b q) {r : Int} (h0 : 0 ≤ r) (h1 : r < b) : Good b (sub q r) ∧ subK q.b q.r q.o r = true := by
  have hs := h.steady
  have hk : formK q.b q.r q.o = true := by rw [formK, hs]; rfl
  have hB : formB q.b q.r q.o = q.b := by rw [formB, if_pos hk]
  have hR : formR q.b q.r q.o = q.r := by rw [formR, if_pos hs]
  have hok : subOK q.b q.r q.o r = true := by rw [subOK, hk, Bool.true_and]; exact decide_eq_true ⟨h0, by rw [h.base]; exact h1⟩
  have hE := subE_valid hs r h0 (by rw [h.base]; exact h1)
  have hkE : formK (formB q.b q.r q.o) (formR q.b q.r q.o) (subE q.b q.r q.o r) = true := by rw [hB, hR, formK, hE]; rfl
  obtain ⟨e1, e2, e3, e4⟩ := sub_yes hok
  refine ⟨⟨?_, ?_⟩, by rw [e4, hkE]⟩
  · show subB q.b q.r q.o r = b
    rw [e1, formB, if_pos hkE, hB]
    exact h.base
  · show steadyB (subB q.b q.r q.o r) (subR q.b q.r q.o r) (subO q.b q.r q.o r) = true
    rw [e1, e2, e3]
    exact min_steadyB hkE
/-- One step: what is new is put behind. -/
def addQ (F : List Sq) (y : Sq) : List Sq := if F.any (·.same y) then F else F ++ [y]
/-- Where it stands then; behind all where it is new. -/
def atQ (F : List Sq) (y : Sq) : Nat := (F.findIdx? (·.same y)).getD F.length
/-- What has been found after so many steps. -/
def kF (m : Sq) (b : Nat) : Nat → List Sq
  | 0 => [m]
  | n + 1 => match (kF m b n)[n / b]? with
    | some f => addQ (kF m b n) (sub f ((n % b : Nat) : Int))
    | none => kF m b n
theorem addQ_len (F : List Sq) (y : Sq) : F.length ≤ (addQ F y).length ∧ (addQ F y).length ≤ F.length + 1 := by
  unfold addQ
  split <;> simp
theorem addQ_old {F : List Sq} {y : Sq} (h : atQ F y < F.length) : addQ F y = F ∧ ∃ f, F[atQ F y]? = some f ∧ f = y := by
  unfold atQ at h ⊢
  cases hf : F.findIdx? (·.same y) with
  | none => rw [hf] at h; simp at h
  | some i =>
    obtain ⟨h1, h2, _⟩ := List.findIdx?_eq_some_iff_getElem.1 hf
    have hany : F.any (·.same y) = true := List.any_eq_true.2 ⟨F[i], List.getElem_mem _, h2⟩
    exact ⟨by rw [addQ, if_pos hany], F[i], List.getElem?_eq_getElem h1, Sq.same_iff.1 h2⟩
theorem addQ_new {F : List Sq} {y : Sq} (h : ¬ atQ F y < F.length) : addQ F y = F ++ [y] ∧ atQ F y = F.length := by
  unfold atQ at h ⊢
  cases hf : F.findIdx? (·.same y) with
  | some i =>
    obtain ⟨h1, _⟩ := List.findIdx?_eq_some_iff_getElem.1 hf
    rw [hf] at h
    exact absurd h1 h
  | none =>
    have hany : ¬ F.any (·.same y) = true := fun h => by
      obtain ⟨f, h1, h2⟩ := List.any_eq_true.1 h
      rw [List.findIdx?_eq_none_iff] at hf
      have := hf f h1
      rw [h2] at this; cases this
    exact ⟨by rw [addQ, if_neg hany], rfl⟩
theorem atQ_le (F : List Sq) (y : Sq) : atQ F y ≤ F.length := by
  by_cases h : atQ F y < F.length
  · omega
  · rw [(addQ_new h).2]; exact Nat.le_refl _
theorem kF_step {m : Sq} {b n : Nat} {f : Sq} (h : (kF m b n)[n / b]? = some f) : kF m b (n + 1) = addQ (kF m b n) (sub f ((n % b : Nat) : Int)) := by
  show (match (kF m b n)[n / b]? with | some f => addQ (kF m b n) (sub f ((n % b : Nat) : Int)) | none => kF m b n) = _
  rw [h]
theorem kF_stay {m : Sq} {b n : Nat} (h : (kF m b n).length ≤ n / b) : kF m b (n + 1) = kF m b n := by
  show (match (kF m b n)[n / b]? with | some f => addQ (kF m b n) (sub f ((n % b : Nat) : Int)) | none => kF m b n) = _
  rw [List.getElem?_eq_none h]
theorem kF_mono (m : Sq) (b n : Nat) : ∃ T, kF m b (n + 1) = kF m b n ++ T ∧ T.length ≤ 1 := by
  cases h : (kF m b n)[n / b]? with
  | none => exact ⟨[], by rw [kF_stay (List.getElem?_eq_none_iff.1 h), List.append_nil], by simp⟩
  | some f =>
    rw [kF_step h, addQ]
    split
    · exact ⟨[], by simp, by simp⟩
    · exact ⟨_, rfl, by simp⟩
theorem kF_grow (m : Sq) (b n : Nat) : ∀ j, ∃ T, kF m b (n + j) = kF m b n ++ T
  | 0 => ⟨[], by simp⟩
  | j + 1 => by
    obtain ⟨T, h⟩ := kF_grow m b n j
    obtain ⟨T', h', _⟩ := kF_mono m b (n + j)
    exact ⟨T ++ T', by rw [← Nat.add_assoc, h', h, List.append_assoc]⟩
theorem kF_pre {m : Sq} {b n k : Nat} (h : n ≤ k) : ∃ T, kF m b k = kF m b n ++ T := by
  have := kF_grow m b n (k - n)
  rwa [show n + (k - n) = k from by omega] at this
theorem kF_get {m : Sq} {b n k i : Nat} {f : Sq} (h : n ≤ k) (hf : (kF m b n)[i]? = some f) : (kF m b k)[i]? = some f := by
  obtain ⟨T, hT⟩ := kF_pre (m := m) (b := b) h
  rw [hT, List.getElem?_append_left (List.getElem?_eq_some_iff.1 hf).1]
  exact hf
theorem kF_len {m : Sq} {b n k : Nat} (h : n ≤ k) : (kF m b n).length ≤ (kF m b k).length := by
  obtain ⟨T, hT⟩ := kF_pre (m := m) (b := b) h
  rw [hT, List.length_append]
  omega
theorem kF_end {m : Sq} {b n : Nat} (hb : 0 < b) (h : n = b * (kF m b n).length) : ∀ j, kF m b (n + j) = kF m b n
  | 0 => rfl
  | j + 1 => by
    have ih := kF_end hb h j
    rw [← Nat.add_assoc, kF_stay, ih]
    rw [ih, Nat.le_div_iff_mul_le hb, Nat.mul_comm]
    omega
theorem kF_good {m : Sq} {b : Nat} (hb : 0 < b) (hm : Good b m) : ∀ n, ∀ f ∈ kF m b n, Good b f
  | 0, f, h => by rw [List.mem_singleton.1 h]; exact hm
  | n + 1, f, h => by
    have ih := kF_good hb hm n
    cases hg : (kF m b n)[n / b]? with
    | none => rw [kF_stay (List.getElem?_eq_none_iff.1 hg)] at h; exact ih f h
    | some g =>
      rw [kF_step hg, addQ] at h
      split at h
      · exact ih f h
      · rcases List.mem_append.1 h with h | h
        · exact ih f h
        · rw [List.mem_singleton.1 h]
          have := Nat.mod_lt n hb
          exact ((ih g (List.mem_of_getElem? hg)).sub (by omega) (by omega)).1
/-- The kernel, and whether there is one. -/
def kerL (m : Sq) (b : Nat) : List Sq := kF m b (41 * b)
def kerK (b : Int) (rows : List (List Int)) (out : List Int) : Bool := formK b rows out && decide ((kerL (mini b rows out) b.toNat).length ≤ 40)
def kerV (b : Int) (rows : List (List Int)) (out : List Int) : List Sq := if kerK b rows out = true then kerL (mini b rows out) b.toNat else []
theorem ker_done {m : Sq} {b n : Nat} (hb : 0 < b) (h : n = b * (kF m b n).length) (h40 : (kF m b n).length ≤ 40) : kerL m b = kF m b n := by
  have hn : n ≤ 41 * b := by
    have : b * (kF m b n).length ≤ b * 40 := Nat.mul_le_mul_left _ h40
    rw [Nat.mul_comm 41 b]
    omega
  have := kF_end hb h (41 * b - n)
  rwa [show n + (41 * b - n) = 41 * b from by omega] at this
theorem ker_over {m : Sq} {b n : Nat} (h : 40 < (kF m b n).length) (hn : n ≤ 40 * b) : 40 < (kerL m b).length := by
  have := kF_len (m := m) (b := b) (show n ≤ 41 * b by omega)
  exact Nat.lt_of_lt_of_le h this
end Kern
end Go.Proofs.Ytgbgcaaekpgapac
/- Slices of sequences (three cells an element): what it is that the call owns one, what its elements are; what stays of slices of ints and of rows where other blocks turn. No conditions beyond those that each states. -/
namespace Go.Proofs.Ytgbgcaaekpgapac
open Go.ChangeShapes Go.WideShapes Go.ChangeAt Go.RowKit
open Go.PlainAid Plain
set_option linter.unusedVariables false
namespace Kern
open Seqs Mins
/-- A sequence's value: its base, its two slices. -/
abbrev QV := Int × Value × Value
def encQ (q : QV) : Value := .agg #[.int .i64 q.1, q.2.1, q.2.2]
def flatQ (L : List QV) : List Value := L.flatMap fun q => [.int .i64 q.1, q.2.1, q.2.2]
theorem flatQ_len : ∀ L : List QV, (flatQ L).length = L.length * 3
  | [] => rfl
  | q :: L => by
    have := flatQ_len L
    have e : flatQ (q :: L) = .int .i64 q.1 :: q.2.1 :: q.2.2 :: flatQ L := rfl
    rw [e, List.length_cons, List.length_cons, List.length_cons, List.length_cons, this]
    omega
theorem flatQ_append (L M : List QV) : flatQ (L ++ M) = flatQ L ++ flatQ M := by simp [flatQ]
theorem flatQ_one (q : QV) : flatQ [q] = [.int .i64 q.1, q.2.1, q.2.2] := rfl
theorem flatQ_get : ∀ (L : List QV) (i : Nat) (q : QV), L[i]? = some q → (flatQ L)[i * 3]? = some (.int .i64 q.1) ∧ (flatQ L)[i * 3 + 1]? = some q.2.1 ∧ (flatQ L)[i * 3 + 2]? = some q.2.2
  | [], i, q, h => by simp at h
  | t :: L, 0, q, h => by
    simp at h
    subst h
    exact ⟨rfl, rfl, rfl⟩
  | t :: L, i + 1, q, h => by
    have h1 := flatQ_get L i q (by simpa using h)
    have e : flatQ (t :: L) = .int .i64 t.1 :: t.2.1 :: t.2.2 :: flatQ L := rfl
    rw [e, show (i + 1) * 3 = i * 3 + 1 + 1 + 1 from by omega, show i * 3 + 1 + 1 + 1 + 1 = (i * 3 + 1) + 1 + 1 + 1 from by omega, show i * 3 + 1 + 1 + 1 + 2 = (i * 3 + 2) + 1 + 1 + 1 from by omega]
    simpa using h1
/-- The slice v of sequences is the call's own, from block base on. -/
def OwnQ (w : World) (base : Nat) (v : Value) (L : List QV) : Prop := w.ownsRow base 30 3 v L.length (flatQ L)
section
variable {w w' : World} {base : Nat} {v : Value} {L : List QV}
theorem OwnQ.form (h : OwnQ w base v L) : ∃ a c, v = .slice a L.length c ∧ (0 < L.length → ∃ g, a = some ⟨g, 0, none⟩ ∧ base ≤ g ∧ g < w.heap.size ∧ ∃ cur, w.heap[g]? = some (.cells cur 30 (0, 0))) := by
  rcases h.2 with ⟨rfl, h1⟩ | ⟨g, c, cur, rfl, hb, hc, _⟩
  · exact ⟨none, 0, by rw [h1], fun h => by omega⟩
  · exact ⟨_, c, rfl, fun _ => ⟨g, rfl, hb, (Array.getElem?_eq_some_iff.1 hc).1, cur, hc⟩⟩
theorem OwnQ.small (h : OwnQ w base v L) : L.length ≤ 9223372036854775807 := by
  rcases h.2 with ⟨rfl, hn⟩ | ⟨g, cap, cur, rfl, _, _, hc, hm, _⟩
  · omega
  · unfold maxLen at hm; omega
theorem OwnQ.cells {g c : Nat} (h : OwnQ w base (.slice (some ⟨g, 0, none⟩) L.length c) L) {i : Nat} {q : QV} (hi : L[i]? = some q) :
    w.cell? ⟨g, i * 3, none⟩ = some (.int .i64 q.1) ∧ w.cell? ⟨g, i * 3 + 1, none⟩ = some q.2.1 ∧ w.cell? ⟨g, i * 3 + 2, none⟩ = some q.2.2 := by
  have hg := flatQ_get L i q hi
  have hl := (List.getElem?_eq_some_iff.1 hi).1
  have h1 : w.ownsRow base 30 3 (.slice (some ⟨g, 0, none⟩) L.length c) L.length (flatQ L) := h
  exact ⟨(h1.cellAt _ (by omega)).trans hg.1, (h1.cellAt _ (by omega)).trans hg.2.1, (h1.cellAt _ (by omega)).trans hg.2.2⟩
theorem OwnQ.kept {r : Option Nat} (h : OwnQ w base v L) (hg : w.grownBy w' r) (hn : v.ownBlock = none ∨ v.ownBlock ≠ r) : OwnQ w' base v L := World.ownsRow.kept h hg hn
theorem OwnQ.below (h : OwnQ w base v L) (hb : Below w.heap.size w w') : OwnQ w' base v L :=
  h.kept (Plain.grown_of_below hb) (by
    cases hv : v.ownBlock with
    | none => exact .inl rfl
    | some k => exact .inr (by simp))
theorem OwnQ.mono {base' : Nat} (h : OwnQ w base v L) (hb : base' ≤ base) : OwnQ w base' v L := ⟨h.1, h.2.imp id fun ⟨g, cap, cur, h1, h2, r⟩ => ⟨g, cap, cur, h1, Nat.le_trans hb h2, r⟩⟩
theorem OwnQ.lt (h : OwnQ w base v L) : ∀ k, v.ownBlock = some k → base ≤ k ∧ k < w.heap.size := World.ownsRow.lt h
theorem OwnQ.nil (w : World) (base : Nat) : OwnQ w base (.slice none 0 0) [] := World.ownsRow_nil _ _ _ _
/-- It lies in no block of another type. -/
theorem OwnQ.ne {g : Nat} {cur : Array Value} {e : TypeId} {fr : Nat × Nat} (h : OwnQ w base v L) (hg : w.heap[g]? = some (.cells cur e fr)) (hne : (30 : Nat) ≠ e) : v.ownBlock = none ∨ v.ownBlock ≠ some g := by
  rcases h.2 with ⟨rfl, _⟩ | ⟨g', cap, cur', rfl, _, hc, _⟩
  · exact .inl rfl
  · refine .inr fun e1 => ?_
    have e2 : g' = g := by simpa [Value.ownBlock] using e1
    subst e2
    rw [hc] at hg
    simp at hg
    exact hne hg.2.1
theorem OwnQ.lit (w : World) (q : QV) (hb : base ≤ w.heap.size) : OwnQ (w.alloc (.cells #[.int .i64 q.1, q.2.1, q.2.2] 30)) base (.slice (some ⟨w.heap.size, 0, none⟩) 1 1) [q] :=
  ⟨rfl, .inr ⟨w.heap.size, 1, #[.int .i64 q.1, q.2.1, q.2.2], rfl, hb, heap_alloc_new w _, Nat.le_refl _, by unfold maxLen; omega, rfl, rfl⟩⟩
theorem OwnQ.lit0 (w : World) (hb : base ≤ w.heap.size) : OwnQ (w.alloc (.cells #[] 30)) base (.slice (some ⟨w.heap.size, 0, none⟩) 0 0) [] :=
  ⟨rfl, .inr ⟨w.heap.size, 0, #[], rfl, hb, heap_alloc_new w _, Nat.le_refl _, by unfold maxLen; omega, rfl, rfl⟩⟩
end
theorem infoS : (Try.prog.info? 30).map (fun i => (i.zero, i.size, i.bytes)) = some (some (.agg #[.int .i64 0, .slice none 0 0, .slice none 0 0]), 3, 56) := by kernel_rfl
/-- 'v = append(v, q)', the new value lying in a block that the statement has just laid. -/
theorem wpList_append_q {P : Program} {wr : World} {base : Nat} {L : List QV} {ops : Array Oper} {rest : List Oper} {o : Oper} {a : Act} {Q : Exit → Act → World → Prop} (hgd : o.guard = none) (s x : Operand) (t : TypeId)
    (ho : o.op = .call { callee := .builtin .append, args := #[s, x], argTypes := #[t, t] })
    (i : TypeInfo) (ht : P.underlying t = some (.slice 30)) (hi : P.info? 30 = some i) (hz : i.zero = some (.agg #[.int .i64 0, .slice none 0 0, .slice none 0 0]))
    (hsize : i.size = 3) (hby : i.bytes = 56) (v : Value) (hs : a.eval s = v) (hown : OwnQ wr base v L) (q : QV) (g : Nat) (hx : a.eval x = .slice (some ⟨g, 0, none⟩) 1 1) (hgs : g = wr.heap.size)
    (h1 : q.2.1.oneCell' = true) (h2 : q.2.2.oneCell' = true) (hlen : L.length ≤ 100000) (hb : base ≤ wr.heap.size)
    (h : ∀ v' w', OwnQ w' base v' (L ++ [q]) → wr.grownBy w' v.ownBlock → wpList P ops Q rest (a.put o.dst v') w') :
    wpList P ops Q (o :: rest) a (wr.alloc (.cells #[.int .i64 q.1, q.2.1, q.2.2] 30)) := by
  subst hgs
  have hal : Below wr.heap.size wr (wr.alloc (.cells #[.int .i64 q.1, q.2.1, q.2.2] 30)) := (Below.refl _ _).alloc (Nat.le_refl _) _
  refine wpList_append_own _ hgd s x t ho base 30 i _ 3 56 ht hi hz hsize hby rfl (by decide) v L.length (flatQ L) hs (hown.below hal) ⟨wr.heap.size, 0, none⟩ 1 1 (flatQ [q]) hx rfl (fun j u hj => ?_) (fun u hu => ?_) (by unfold maxLen; omega) (by omega) (by simp; omega) ?_
  · rw [addr_add]
    have hcell : ∀ j u, [Value.int .i64 q.1, q.2.1, q.2.2][j]? = some u → (wr.alloc (.cells #[.int .i64 q.1, q.2.1, q.2.2] 30)).cell? ⟨wr.heap.size, j, none⟩ = some u := fun j u hj => (CellsN.new wr 30 [.int .i64 q.1, q.2.1, q.2.2]).at_ hj
    exact hcell j u hj
  · rw [flatQ_one] at hu
    rcases List.mem_cons.1 hu with rfl | hu
    · rfl
    · rcases List.mem_cons.1 hu with rfl | hu
      · exact h1
      · rw [List.mem_singleton.1 hu]; exact h2
  · intro v' w' ho' hg' _
    refine h v' w' ?_ (grown_alloc hg')
    show w'.ownsRow _ _ _ _ _ _
    rw [List.length_append, flatQ_append]
    exact ho'
/-- Blocks of ints and of rows are as they were. -/
structure KeepsIR (w w' : World) : Prop where
  size : w.heap.size ≤ w'.heap.size
  blk : ∀ (k : Nat) (cur : Array Value) (e : TypeId) (fr : Nat × Nat), w.heap[k]? = some (.cells cur e fr) → (e = 3 ∨ e = 23) → w'.heap[k]? = w.heap[k]?
theorem KeepsIR.of_below {w w' : World} (h : Below w.heap.size w w') : KeepsIR w w' := ⟨h.size, fun k cur e fr hk _ => h.block k (Array.getElem?_eq_some_iff.1 hk).1⟩
theorem KeepsIR.trans {a b c : World} (h : KeepsIR a b) (k : KeepsIR b c) : KeepsIR a c := ⟨Nat.le_trans h.size k.size, fun j cur e fr hj he => by
  have h1 := h.blk j cur e fr hj he
  exact (k.blk j cur e fr (h1.trans hj) he).trans h1⟩
theorem KeepsIR.of_grown {w w' : World} {g : Nat} (h : w.grownBy w' (some g)) (hg : ∀ cur e fr, w.heap[g]? = some (.cells cur e fr) → ¬ (e = 3 ∨ e = 23)) : KeepsIR w w' :=
  ⟨h.size, fun k cur e fr hk he => h.block k (Array.getElem?_eq_some_iff.1 hk).1 (fun e1 => by
    cases e1
    exact hg cur e fr hk he)⟩
theorem has_keep {α : Type} {enc : α → Value} {e : TypeId} {w w' : World} {base : Nat} {v : Value} {xs : List α} (h : Has enc e w base v xs) (hk : KeepsIR w w') (he : e = 3 ∨ e = 23) : Has enc e w' base v xs :=
  h.of_same fun k hb => by
    rcases h.2 with ⟨rfl, _⟩ | ⟨g, cap, cur, rfl, _, hc, _⟩
    · cases hb
    · have e1 : g = k := by simpa [Value.ownBlock] using hb
      subst e1
      exact hk.blk g cur e _ hc he
theorem OwnI.keep {w w' : World} {lo hi : Nat} {v : Value} {xs : List Int} (h : OwnI w lo hi v xs) (hk : KeepsIR w w') : OwnI w' lo hi v xs := ⟨has_keep h.has hk (.inl rfl), h.lt, Nat.le_trans h.le hk.size⟩
theorem OwnRows.keep {w w' : World} {lo hi : Nat} {us : List Value} {rows : List (List Int)} (h : OwnRows w lo hi us rows) (hk : KeepsIR w w') : OwnRows w' lo hi us rows := ⟨h.len, fun i u r hu hr => OwnI.keep (h.row i u r hu hr) hk, h.apart⟩
theorem OwnS.keep {w w' : World} {lo hi : Nat} {v : Value} {b : Int} {rows : List (List Int)} {out : List Int} (h : OwnS w lo hi v b rows out) (hk : KeepsIR w w') : OwnS w' lo hi v b rows out := by
  obtain ⟨vn, vo, us, h1, h2, h3⟩ := h
  exact ⟨vn, vo, us, h1, ⟨has_keep h2.top hk (.inr rfl), h2.lt, Nat.le_trans h2.le hk.size, OwnRows.keep h2.rows hk⟩, OwnRows.keep h3 hk⟩
theorem HasRows.keep {w w' : World} {lo hi : Nat} {v : Value} {rows : List (List Int)} (h : HasRows w lo hi v rows) (hk : KeepsIR w w') : HasRows w' lo hi v rows := by
  obtain ⟨us, h1, h2, h3, h4⟩ := h
  exact ⟨us, has_keep h1 hk (.inr rfl), OwnRows.keep h2 hk, h3, Nat.le_trans h4 hk.size⟩
/-- A sequence's value, the sequence, the interval of blocks in which it lies. -/
structure El where
  q : QV
  s : Sq
  c : Nat
  d : Nat
/-- Sequences of the call's own, one behind the other. -/
structure Elems (w : World) (lo : Nat) (E : List El) : Prop where
  own : ∀ e ∈ E, OwnS w e.c e.d (encQ e.q) e.s.b e.s.r e.s.o
  lo : ∀ e ∈ E, lo ≤ e.c ∧ e.c ≤ e.d
  pw : E.Pairwise fun e f => e.d ≤ f.c
/-- A block that lies in none of them. -/
def Avoid (E : List El) (g : Nat) : Prop := ∀ e ∈ E, g < e.c ∨ e.d ≤ g
section
variable {w w' : World} {lo : Nat} {E : List El}
theorem Elems.below (h : Elems w lo E) (hb : Below w.heap.size w w') : Elems w' lo E := ⟨fun e he => (h.own e he).below hb, h.lo, h.pw⟩
theorem Elems.keep (h : Elems w lo E) (hk : KeepsIR w w') : Elems w' lo E := ⟨fun e he => OwnS.keep (h.own e he) hk, h.lo, h.pw⟩
theorem Elems.touch {g : Nat} (h : Elems w lo E) (ht : Plain.Touch g (g + 1) w w') (ha : Avoid E g) : Elems w' lo E :=
  ⟨fun e he => (h.own e he).touch ht (by rcases ha e he with h1 | h1 <;> omega), h.lo, h.pw⟩
theorem Avoid.new (h : Elems w lo E) {g : Nat} (hg : w.heap.size ≤ g) : Avoid E g := fun e he => .inr (Nat.le_trans (h.own e he).le hg)
theorem Elems.push {v : QV} {s : Sq} (h : Elems w lo E) (hlo : lo ≤ w.heap.size) (hb : Below w.heap.size w w') (hs : OwnS w' w.heap.size w'.heap.size (encQ v) s.b s.r s.o) : Elems w' lo (E ++ [⟨v, s, w.heap.size, w'.heap.size⟩]) := by
  refine ⟨fun e he => ?_, fun e he => ?_, List.pairwise_append.2 ⟨h.pw, List.pairwise_singleton _ _, fun e he f hf => ?_⟩⟩
  · rcases List.mem_append.1 he with he | he
    · exact (h.own e he).below hb
    · rw [List.mem_singleton.1 he]; exact hs
  · rcases List.mem_append.1 he with he | he
    · exact h.lo e he
    · rw [List.mem_singleton.1 he]; exact ⟨hlo, hb.size⟩
  · rw [List.mem_singleton.1 hf]
    exact (h.own e he).le
theorem Avoid.push {g : Nat} (h : Avoid E g) (hg : g < w.heap.size) (v : QV) (s : Sq) (d : Nat) : Avoid (E ++ [⟨v, s, w.heap.size, d⟩]) g := fun e he => by
  rcases List.mem_append.1 he with he | he
  · exact h e he
  · rw [List.mem_singleton.1 he]; exact .inl hg
theorem Elems.lies (h : Elems w lo E) {i : Nat} {e : El} (he : E[i]? = some e) : LiesS w (encQ e.q) e.s.b e.s.r e.s.o := (h.own e (List.mem_of_getElem? he)).lies
end
end Kern
end Go.Proofs.Ytgbgcaaekpgapac
/- Contract of the laws' eqSequenceS, at two slices that hold the same sequences. No conditions beyond those that it states. -/
namespace Go.Proofs.Ytgbgcaaekpgapac
open Go.ChangeShapes Go.WideShapes Go.ChangeAt Go.RowKit
open Go.PlainAid Plain
set_option linter.unusedVariables false
namespace Kern
open Seqs Mins
/-- What stands at one place of such a slice. -/
theorem elem_at {w : World} {base lo : Nat} {v : Value} {E : List El} {k : Nat} {s : Sq} (h : OwnQ w base v (E.map El.q)) (hE : Elems w lo E) (hs : (E.map El.s)[k]? = some s) :
    ∃ g c a1 c1 a2 c2, v = .slice (some ⟨g, 0, none⟩) E.length c ∧ w.cell? ⟨g, k * 3, none⟩ = some (.int .i64 s.b) ∧ w.cell? ⟨g, k * 3 + 1, none⟩ = some (.slice a1 s.r.length c1) ∧ w.cell? ⟨g, k * 3 + 2, none⟩ = some (.slice a2 s.o.length c2) ∧ LiesS w (.agg #[.int .i64 s.b, .slice a1 s.r.length c1, .slice a2 s.o.length c2]) s.b s.r s.o := by
  obtain ⟨a, c, hv, hag⟩ := h.form
  have hml : (E.map El.q).length = E.length := List.length_map ..
  have hlt := (List.getElem?_eq_some_iff.1 hs).1
  rw [List.length_map] at hlt
  obtain ⟨el, hel⟩ : ∃ e, E[k]? = some e := ⟨_, List.getElem?_eq_getElem hlt⟩
  rw [List.getElem?_map, hel] at hs
  obtain rfl := Option.some.inj hs
  have hq : (E.map El.q)[k]? = some el.q := by rw [List.getElem?_map, hel]; rfl
  obtain ⟨g, rfl, _⟩ := hag (by rw [hml]; omega)
  rw [hv] at h
  obtain ⟨c0, c1, c2⟩ := h.cells hq
  have hls := hE.lies hel
  obtain ⟨an1, cn1, ao1, co1, he⟩ := hls.form
  rw [he] at hls
  simp only [encQ, Value.agg.injEq, Array.mk.injEq, List.cons.injEq, and_true, Value.int.injEq, true_and] at he
  obtain ⟨e1, e2, e3⟩ := he
  rw [e1] at c0
  rw [e2] at c1
  rw [e3] at c2
  rw [hml] at hv
  exact ⟨g, c, an1, cn1, ao1, co1, hv, c0, c1, c2, hls⟩
set_option maxHeartbeats 1000000 in
theorem eqQ (u v : Value) (E F : List El) (lo lo' base base' : Nat) (w : World) (h1 : OwnQ w base u (E.map El.q)) (h2 : OwnQ w base' v (F.map El.q)) (hE : Elems w lo E) (hF : Elems w lo' F) (hs : E.map El.s = F.map El.s) :
    Calls Try.prog 9 #[u, v] w fun e w' => e = .returned (.bool true) ∧ Below w.heap.size w w' := by
  obtain ⟨a, c, hu, _⟩ := h1.form
  obtain ⟨a', c', hv, _⟩ := h2.form
  have hl : F.length = E.length := by have := congrArg List.length hs; rw [List.length_map, List.length_map] at this; exact this.symm
  have hsm : E.length ≤ 9223372036854775807 := by have := h1.small; rw [List.length_map] at this; exact this
  rw [List.length_map] at hu hv
  rw [hl] at hv
  subst hu; subst hv
  have HE := Lib.hid h1
  have HF := Lib.hid h2
  have HEE := Lib.hid hE
  have HFF := Lib.hid hF
  have HS := Lib.hid hs
  have HL := Lib.hid hl
  clear h1 h2 hE hF hs hl
  go_enter Try.func9, Try.ntmps9
  go_wp2
  go_loopw [5] (fun k' wr => ∃ k : Nat, k ≤ E.length ∧ k' = .int .i64 k ∧ Hid (Below w.heap.size w wr)) (fun k' _ => E.length - (intOf k').toNat)
  case atStart => exact ⟨0, Nat.zero_le _, rfl, Below.refl _ _⟩
  case round =>
    obtain ⟨k, hkE, rfl, HB⟩ := hrel
    obtain ⟨W4, rfl⟩ : ∃ W : World, W = wr := ⟨_, rfl⟩
    by_cases hk : k < E.length
    · obtain ⟨s, hs⟩ : ∃ s, (E.map El.s)[k]? = some s := ⟨_, List.getElem?_eq_getElem (by rw [List.length_map]; exact hk)⟩
      obtain ⟨g, d, a1, c1, a2, c2, hu, p0, p1, p2, hl1⟩ := elem_at (HE.out.below HB.out) (HEE.out.below HB.out) hs
      rw [HS.out] at hs
      obtain ⟨g', d', b1, d1, b2, d2, hv, q0, q1, q2, hl2⟩ := elem_at (HF.out.below HB.out) (HFF.out.below HB.out) hs
      rw [HL.out] at hv
      injection hu with hu _ hud
      subst hu; subst hud
      injection hv with hv _ hvd
      subst hv; subst hvd
      have HEQ : Hid (∀ W, Below W4.heap.size W4 W → Calls Try.prog 10 #[.agg #[.int .i64 s.b, .slice a1 s.r.length c1, .slice a2 s.o.length c2], .agg #[.int .i64 s.b, .slice b1 s.r.length d1, .slice b2 s.o.length d2]] W fun e w' => e = .returned (.bool true) ∧ Below W.heap.size W w') := fun W hW => eqS _ _ s.b s.r s.o W (hl1.below hW) (hl2.below hW)
      have hk0 : (0 : Int) ≤ (k : Int) := Int.natCast_nonneg _
      have hkE1 : (k : Int) < (E.length : Int) := by omega
      have hD : Below W4.heap.size W4 W4.drew := below_drew' W4
      clear hs hl1 hl2
      go_wp2_with fail
      go_region_law (first | (go_simp; (with_reducible refine (HEQ.out _ hD).mono ?_); rintro e W8 ⟨rfl, b8⟩; have bA : Below W4.heap.size W4 W8 := hD.trans (b8.mono hD.size)))
      all_goals
        have HBA := Lib.hid (HB.out.trans (bA.mono HB.out.size))
        clear p0 p1 p2 q0 q1 q2 bA b8
        go_wp2
        go_roundw
        case rel => exact ⟨k + 1, by omega, by go_num, HBA⟩
        case measure => simp [intOf]; omega
    · obtain rfl : k = E.length := by omega
      go_wp2
      go_ret
      exact ⟨rfl, HB.out⟩
end Kern
end Go.Proofs.Ytgbgcaaekpgapac
/- Contract of the model's KernelOf. No conditions beyond those that it states. -/
namespace Go.Proofs.Ytgbgcaaekpgapac
open Go.ChangeShapes Go.WideShapes Go.ChangeAt Go.RowKit
open Go.PlainAid Plain
set_option linter.unusedVariables false
namespace Kern
open Seqs Mins
theorem OwnQ.frame {w0 w w' : World} {base : Nat} {v : Value} {L : List QV} (h : OwnQ w base v L) (hb : Below w0.heap.size w0 w) (hB : w0.heap.size ≤ base) (hg : w.grownBy w' v.ownBlock) : Below w0.heap.size w0 w' := hb.grown hg hb.size (fun k hk => Nat.le_trans hB (h.lt k hk).1)
theorem OwnQ.keepsIR {w w' : World} {base : Nat} {v : Value} {L : List QV} (h : OwnQ w base v L) (hg : w.grownBy w' v.ownBlock) : KeepsIR w w' :=
  ⟨hg.size, fun k cur e fr hk he => hg.block k (Array.getElem?_eq_some_iff.1 hk).1 (fun e1 => by
    have hf : ∃ cur fr, w.heap[k]? = some (.cells cur e fr) := ⟨_, _, hk⟩
    rcases h.2 with ⟨rfl, _⟩ | ⟨g', cap, cur', rfl, _, hc, _⟩
    · cases e1
    · have e2 : k = g' := by simpa [Value.ownBlock] using e1
      subst e2
      rw [hc] at hk
      simp at hk
      rcases he with rfl | rfl <;> exact absurd hk.2.1 (by decide))⟩
theorem wpList_append_q' {P : Program} {wr : World} {base : Nat} {L : List QV} {ops : Array Oper} {rest : List Oper} {o : Oper} {a : Act} {Q : Exit → Act → World → Prop} {x0 : Int} {x1 x2 : Value} (hgd : o.guard = none) (s x : Operand) (t : TypeId)
    (ho : o.op = .call { callee := .builtin .append, args := #[s, x], argTypes := #[t, t] })
    (i : TypeInfo) (ht : P.underlying t = some (.slice 30)) (hi : P.info? 30 = some i) (hz : i.zero = some (.agg #[.int .i64 0, .slice none 0 0, .slice none 0 0]))
    (hsize : i.size = 3) (hby : i.bytes = 56) (v : Value) (hs : a.eval s = v) (hown : OwnQ wr base v L) (g : Nat) (hx : a.eval x = .slice (some ⟨g, 0, none⟩) 1 1) (hgs : g = wr.heap.size)
    (h1 : x1.oneCell' = true) (h2 : x2.oneCell' = true) (hlen : L.length ≤ 100000) (hb : base ≤ wr.heap.size)
    (h : ∀ v' w', OwnQ w' base v' (L ++ [(x0, x1, x2)]) → wr.grownBy w' v.ownBlock → wpList P ops Q rest (a.put o.dst v') w') :
    wpList P ops Q (o :: rest) a (wr.alloc (.cells #[.int .i64 x0, x1, x2] 30)) :=
  wpList_append_q (q := (x0, x1, x2)) (g := g) (hgd := hgd) (s := s) (x := x) (t := t) (ho := ho) (i := i) (ht := ht) (hi := hi) (hz := hz) (hsize := hsize) (hby := hby) (v := v) (hs := hs) (hown := hown) (hx := hx) (hgs := hgs) (h1 := h1) (h2 := h2) (hlen := hlen) (hb := hb) (h := h)
theorem Elems.nil (w : World) (lo : Nat) : Elems w lo [] := ⟨fun e he => (by cases he), fun e he => (by cases he), .nil⟩
/-- A slice of sequences of the call's own, and whether there is one. -/
def GivesKer (L : List Sq) (k : Bool) (w : World) (en : Ending) (w' : World) : Prop := ∃ vs E, en = .returned (.tuple #[vs, .bool k]) ∧ OwnQ w' w.heap.size vs (E.map El.q) ∧ Elems w' w.heap.size E ∧ E.map El.s = L ∧ Below w.heap.size w w'
theorem ker_sub_s (e : El) (bn : Nat) (W : World) (hl : LiesS W (encQ e.q) e.s.b e.s.r e.s.o) (hg : Good (bn : Int) e.s) (r : Nat) (hr : r < bn) :
    Calls Try.prog 20 #[encQ e.q, .int .i64 r] W (fun en W' => ∃ v, en = .returned (.tuple #[v, .bool true]) ∧ OwnS W' W.heap.size W'.heap.size v (sub e.s r).b (sub e.s r).r (sub e.s r).o ∧ Below W.heap.size W W') := by
  have h1 := spec_sub (encQ e.q) e.s.b e.s.r e.s.o W hl (r : Int) hg.size
  rw [(hg.sub (by omega) (by omega)).2] at h1
  exact h1
theorem ker_yes {b : Int} {rows : List (List Int)} {out : List Int} {bn n : Nat} (hb : b = (bn : Int)) (hb0 : 0 < bn) (hk : formK b rows out = true) (h : n = bn * (kF (mini b rows out) bn n).length) (h40 : (kF (mini b rows out) bn n).length ≤ 40) : kerV b rows out = kF (mini b rows out) bn n ∧ kerK b rows out = true := by
  have h1 := ker_done (m := mini b rows out) hb0 h h40
  have h2 : kerK b rows out = true := by rw [kerK, hk, hb, Int.toNat_natCast, ← hb, h1, Bool.true_and]; exact decide_eq_true h40
  exact ⟨by rw [kerV, if_pos h2, hb, Int.toNat_natCast, ← hb, h1], h2⟩
theorem ker_no {b : Int} {rows : List (List Int)} {out : List Int} {bn n : Nat} (hb : b = (bn : Int)) (h : 40 < (kF (mini b rows out) bn n).length) (hn : n ≤ 41 * bn) : kerV b rows out = [] ∧ kerK b rows out = false := by
  have h1 : 40 < (kerL (mini b rows out) bn).length := Nat.lt_of_lt_of_le h (kF_len hn)
  have h2 : kerK b rows out = false := by
    rw [kerK, hb, Int.toNat_natCast, ← hb, Bool.and_eq_false_iff]
    exact .inr (decide_eq_false (by omega))
  exact ⟨by rw [kerV, h2]; simp, h2⟩
theorem any_succ {α : Type} {p : α → Bool} {F : List α} {k : Nat} {f : α} (h : F[k]? = some f) : (F.take (k + 1)).any p = ((F.take k).any p || p f) := by
  obtain ⟨h1, rfl⟩ := List.getElem?_eq_some_iff.1 h
  rw [List.take_succ_eq_append_getElem h1, List.any_append]
  simp
theorem kF_next {m : Sq} {bn i r : Nat} {f : Sq} (hr : r < bn) (hf : (kF m bn (bn * i + r))[i]? = some f) : kF m bn (bn * i + (r + 1)) = addQ (kF m bn (bn * i + r)) (sub f (r : Int)) := by
  have e1 : (bn * i + r) / bn = i := by rw [Nat.mul_add_div (by omega), Nat.div_eq_of_lt hr, Nat.add_zero]
  have e2 : (bn * i + r) % bn = r := by rw [Nat.mul_add_mod, Nat.mod_eq_of_lt hr]
  rw [← Nat.add_assoc, kF_step (by rw [e1]; exact hf), e2]
set_option maxRecDepth 100000 in
set_option maxHeartbeats 2000000 in
theorem spec_ker_no (v : Value) (b : Int) (rows : List (List Int)) (out : List Int) (w : World) (h : LiesS w v b rows out) (hs : rows.length + tot rows + out.length ≤ 1048576) (hk : formK b rows out = false) :
    Calls Try.prog 6 #[v] w (GivesKer [] false w) := by
  have HS := Lib.hid h
  obtain ⟨an, cn, ao, co, rfl⟩ := h.form
  clear h
  have HB : Hid (Below w.heap.size w (w.alloc (Obj.cells #[Value.int .i64 b, Value.slice an rows.length cn, Value.slice ao out.length co] 30))) := (Below.refl _ _).alloc (Nat.le_refl _) _
  have HC := Lib.hid (Cells3.new w 30 (.int .i64 b) (.slice an rows.length cn) (.slice ao out.length co))
  have HB0 : Hid (Below w.heap.size w ((w.alloc (Obj.cells #[Value.int .i64 b, Value.slice an rows.length cn, Value.slice ao out.length co] 30)).alloc (Obj.cells #[] 30))) := HB.out.alloc (by simp only [size_alloc'] <;> omega) _
  have HC0 := Lib.hid (HC.out.alloc (Obj.cells #[] 30))
  have hq := OwnQ.lit0 (base := w.heap.size + 1) (w.alloc (Obj.cells #[Value.int .i64 b, Value.slice an rows.length cn, Value.slice ao out.length co] 30)) (by rw [size_alloc']; exact Nat.le_refl _)
  rw [size_alloc'] at hq
  have HQ0 := Lib.hid hq
  have HCF : Hid (Calls Try.prog 19 #[.agg #[.int .i64 b, .slice an rows.length cn, .slice ao out.length co]] ((w.alloc (Obj.cells #[Value.int .i64 b, Value.slice an rows.length cn, Value.slice ao out.length co] 30)).alloc (Obj.cells #[] 30)) (GivesK (formB b rows out) (minRV b rows out) (minOV b rows out) false ((w.alloc (Obj.cells #[Value.int .i64 b, Value.slice an rows.length cn, Value.slice ao out.length co] 30)).alloc (Obj.cells #[] 30)))) := by
    have h1 := spec_min _ b rows out _ (HS.out.below HB0.out) hs
    rw [hk] at h1
    exact h1
  have k0 := HC0.out.c0
  have k1 := HC0.out.c1
  have k2 := HC0.out.c2
  clear hq hs hk HB HC
  go_enter Try.func6, Try.ntmps6
  go_wp2_with fail
  refine HCF.out.mono ?_
  rintro e W1 ⟨v1, rfl, hv1, b1⟩
  obtain ⟨a1, c1, a2, c2, rfl⟩ := hv1.form
  have HQ1 := Lib.hid (HQ0.out.below b1)
  have HB1 := Lib.hid (HB0.out.trans (b1.mono HB0.out.size))
  clear hv1 b1 k0 k1 k2
  go_wp2
  refine bodyPost_ret (v := .tuple #[(Value.slice (some ⟨w.heap.size + 1, 0, none⟩) 0 0), .bool false]) (by simp [results, Try.results6, go_sem]) rfl ?_
  have hbx : ∀ o, Below W1.heap.size W1 (W1.alloc o) := fun o => (Below.refl _ _).alloc (Nat.le_refl _) _
  exact ⟨_, [], rfl, (HQ1.out.below (hbx _)).mono (Nat.le_succ _), Elems.nil _ _, rfl, HB1.out.trans ((hbx _).mono HB1.out.size)⟩
set_option maxRecDepth 100000 in
set_option maxHeartbeats 4000000 in
theorem spec_ker_yes (v : Value) (b : Int) (rows : List (List Int)) (out : List Int) (w : World) (h : LiesS w v b rows out) (hs : rows.length + tot rows + out.length ≤ 1048576) (hk : formK b rows out = true) :
    Calls Try.prog 6 #[v] w (GivesKer (kerV b rows out) (kerK b rows out) w) := by
  obtain ⟨i0, hi, hz0, hz1, hz2⟩ := info_parts infoS
  have HS := Lib.hid h
  obtain ⟨an, cn, ao, co, rfl⟩ := h.form
  clear h
  have HB : Hid (Below w.heap.size w (w.alloc (Obj.cells #[Value.int .i64 b, Value.slice an rows.length cn, Value.slice ao out.length co] 30))) := (Below.refl _ _).alloc (Nat.le_refl _) _
  have HC := Lib.hid (Cells3.new w 30 (.int .i64 b) (.slice an rows.length cn) (.slice ao out.length co))
  have HB0 : Hid (Below w.heap.size w ((w.alloc (Obj.cells #[Value.int .i64 b, Value.slice an rows.length cn, Value.slice ao out.length co] 30)).alloc (Obj.cells #[] 30))) := HB.out.alloc (by simp only [size_alloc'] <;> omega) _
  have HC0 := Lib.hid (HC.out.alloc (Obj.cells #[] 30))
  have hq := OwnQ.lit0 (base := w.heap.size + 1) (w.alloc (Obj.cells #[Value.int .i64 b, Value.slice an rows.length cn, Value.slice ao out.length co] 30)) (by rw [size_alloc']; exact Nat.le_refl _)
  rw [size_alloc'] at hq
  have HQ0 := Lib.hid hq
  have hgd := mini_good hk
  have hsq := hgd.seq
  obtain ⟨bn, hbn⟩ : ∃ bn : Nat, b = (bn : Int) := ⟨b.toNat, by have := hsq.1; rw [hgd.base] at this; omega⟩
  have hb2 : 2 ≤ bn := by have := hsq.1; rw [hgd.base] at this; omega
  have hb4 : bn ≤ 4 := by have := hsq.2.1; rw [hgd.base] at this; omega
  have HYES := Lib.hid (fun n => ker_yes (n := n) hbn (by omega) hk)
  have HNO := Lib.hid (fun n => ker_no (rows := rows) (out := out) (n := n) hbn)
  have HCF : Hid (Calls Try.prog 19 #[.agg #[.int .i64 b, .slice an rows.length cn, .slice ao out.length co]] ((w.alloc (Obj.cells #[Value.int .i64 b, Value.slice an rows.length cn, Value.slice ao out.length co] 30)).alloc (Obj.cells #[] 30)) (GivesK (mini b rows out).b (mini b rows out).r (mini b rows out).o true ((w.alloc (Obj.cells #[Value.int .i64 b, Value.slice an rows.length cn, Value.slice ao out.length co] 30)).alloc (Obj.cells #[] 30)))) := by
    have h1 := spec_min _ b rows out _ (HS.out.below HB0.out) hs
    rw [hk] at h1
    exact h1
  have HG := Lib.hid hgd
  obtain ⟨m, hm⟩ : ∃ m, m = mini b rows out := ⟨_, rfl⟩
  obtain ⟨KV, hKV⟩ : ∃ x, x = kerK b rows out := ⟨_, rfl⟩
  obtain ⟨LV, hLV⟩ : ∃ x, x = kerV b rows out := ⟨_, rfl⟩
  rw [← hm] at HG HCF HYES HNO
  rw [← hKV, ← hLV] at HYES HNO ⊢
  have k0 := HC0.out.c0
  have k1 := HC0.out.c1
  have k2 := HC0.out.c2
  clear hq hs hk HB HC hgd hsq hm hKV hLV
  subst hbn
  go_enter Try.func6, Try.ntmps6
  go_wp2_with fail
  refine HCF.out.mono ?_
  rintro e W1 ⟨v1, rfl, hv1, b1⟩
  obtain ⟨a1, c1, a2, c2, rfl⟩ := hv1.form
  have hbx : Below W1.heap.size W1 (W1.alloc (.cells #[.int .i64 m.b, .slice a1 m.r.length c1, .slice a2 m.o.length c2] 30)) := (Below.refl _ _).alloc (Nat.le_refl _) _
  have HB1 := Lib.hid (HB0.out.trans (b1.mono HB0.out.size))
  have HB2 := Lib.hid (HB1.out.trans (hbx.mono HB1.out.size))
  have HC2 := Lib.hid ((HC0.out.below b1).below hbx)
  have HQ2 := Lib.hid ((HQ0.out.below b1).below hbx)
  have HE2 := Lib.hid (((Elems.nil ((w.alloc (Obj.cells #[Value.int .i64 (bn : Int), Value.slice an rows.length cn, Value.slice ao out.length co] 30)).alloc (Obj.cells #[] 30)) w.heap.size).push (v := (m.b, .slice a1 m.r.length c1, .slice a2 m.o.length c2)) (s := m) HB0.out.size b1 hv1).below hbx)
  have HX2 := Cells3.new W1 30 (.int .i64 m.b) (.slice a1 m.r.length c1) (.slice a2 m.o.length c2)
  have j0 := HX2.c0
  have j1 := HX2.c1
  have j2 := HX2.c2
  clear hv1 b1 k0 k1 k2 hbx HQ0 HC0 HCF HB1 HX2
  go_wp2_with (at_builtin; refine wpList_append_q' rfl _ _ 27 rfl i0 Try.underlying27 hi hz0 hz1 hz2 (Value.slice (some ⟨w.heap.size + 1, 0, none⟩) 0 0) rfl HQ2.out _ rfl (by first | rfl | simp) rfl rfl (by simp) HC2.out.lt ?_; intro v2 w2 ho2 hg2)
  have HO : Hid (OwnQ w2 (w.heap.size + 1) v2 (([] ++ [El.mk (m.b, .slice a1 m.r.length c1, .slice a2 m.o.length c2) m ((w.alloc (Obj.cells #[Value.int .i64 (bn : Int), Value.slice an rows.length cn, Value.slice ao out.length co] 30)).alloc (Obj.cells #[] 30)).heap.size W1.heap.size]).map El.q)) := ho2
  have HEE := Lib.hid (HE2.out.keep (HQ2.out.keepsIR hg2))
  have HCC := Lib.hid (HC2.out.grown hg2 (fun e => by have := (HQ2.out.lt _ e).1; omega))
  have HBB := Lib.hid (HQ2.out.frame HB2.out (Nat.le_succ _) hg2)
  clear ho2 hg2 HQ2 HE2 HC2 HB2 HB0 j0 j1 j2
  go_loopw [4, 7] (fun o' i' wr => ∃ (i : Nat) (E : List El) (vo : Value), i ≤ E.length ∧ i ≤ 40 ∧ E.length ≤ 41 ∧ i' = .int .i64 i ∧ vo = o' ∧ Hid (OwnQ wr (w.heap.size + 1) vo (E.map El.q)) ∧ Hid (Elems wr w.heap.size E) ∧ Hid (E.map El.s = kF m bn (bn * i)) ∧ Hid (Below w.heap.size w wr) ∧ Hid (Cells3 wr w.heap.size 30 (.int .i64 (bn : Int)) (.slice an rows.length cn) (.slice ao out.length co))) (fun _ i' _ => 41 - (intOf i').toNat)
  case atStart => exact ⟨0, [] ++ [El.mk (m.b, .slice a1 m.r.length c1, .slice a2 m.o.length c2) m ((w.alloc (Obj.cells #[Value.int .i64 (bn : Int), Value.slice an rows.length cn, Value.slice ao out.length co] 30)).alloc (Obj.cells #[] 30)).heap.size W1.heap.size], _, Nat.zero_le _, by omega, by simp, rfl, rfl, HO, HEE, rfl, HBB, HCC⟩
  case round =>
    clear HO HEE HBB HCC
    obtain ⟨i, E, vo, hiE0, hi40, hE41, rfl, rfl, HO, HEE, HK, HBB, HCC⟩ := hrel
    obtain ⟨va, vc, hvo, hag⟩ := HO.out.form
    rw [List.length_map] at hvo
    subst hvo
    by_cases hlt : i < E.length
    · have k0 := HCC.out.c0
      clear hag
      go_wp2
      clear k0
      go_loopw [4, 8] (fun o' r' wr => ∃ (r : Nat) (E : List El) (vo : Value), r ≤ bn ∧ i < E.length ∧ E.length ≤ 41 ∧ (r = 0 ∨ i ≤ 39) ∧ r' = .int .i64 r ∧ vo = o' ∧ Hid (OwnQ wr (w.heap.size + 1) vo (E.map El.q)) ∧ Hid (Elems wr w.heap.size E) ∧ Hid (E.map El.s = kF m bn (bn * i + r)) ∧ Hid (Below w.heap.size w wr) ∧ Hid (Cells3 wr w.heap.size 30 (.int .i64 (bn : Int)) (.slice an rows.length cn) (.slice ao out.length co))) (fun _ r' _ => bn - (intOf r').toNat)
      case atStart => exact ⟨0, E, _, Nat.zero_le _, hlt, hE41, .inl rfl, rfl, rfl, HO, HEE, HK, HBB, HCC⟩
      case round =>
        clear HO HEE HK HBB HCC hlt hE41 hiE0
        obtain ⟨r, E, vo, hrb, hiE, hE41, hr39, rfl, rfl, HO, HEE, HK, HBB, HCC⟩ := hrel
        obtain ⟨va, vc, hvo, hag⟩ := HO.out.form
        have hml : (E.map El.q).length = E.length := List.length_map ..
        rw [hml] at hvo hag
        subst hvo
        have k0 := HCC.out.c0
        by_cases hr : r < bn
        case pos =>
          obtain ⟨el, hel⟩ : ∃ e, E[i]? = some e := ⟨_, List.getElem?_eq_getElem hiE⟩
          obtain ⟨g, rfl, _⟩ := hag (by omega)
          have hq : (E.map El.q)[i]? = some el.q := by rw [List.getElem?_map, hel]; rfl
          have hS : (E.map El.s)[i]? = some el.s := by rw [List.getElem?_map, hel]; rfl
          have hO := HO.out
          rw [← hml] at hO
          obtain ⟨c0, c1, c2⟩ := hO.cells hq
          have hls := HEE.out.lies hel
          rw [HK.out] at hS
          have HKN := Lib.hid (kF_next hr hS)
          have HCS := Lib.hid (ker_sub_s el bn wr hls (kF_good (by omega) HG.out _ _ (List.mem_of_getElem? hS)) r hr)
          obtain ⟨an1, cn1, ao1, co1, hv⟩ := hls.form
          rw [hv] at HCS
          simp only [encQ, Value.agg.injEq, Array.mk.injEq, List.cons.injEq, and_true, Value.int.injEq, true_and] at hv
          obtain ⟨e1, e2, e3⟩ := hv
          rw [e1] at c0
          rw [e2] at c1
          rw [e3] at c2
          obtain ⟨y, hy⟩ : ∃ y, y = sub el.s r := ⟨_, rfl⟩
          obtain ⟨f, hf⟩ : ∃ f, f = el.s := ⟨_, rfl⟩
          rw [← hy] at HKN HCS
          rw [← hf] at HCS c0 c1 c2
          have hr0 : (0 : Int) ≤ (r : Int) := Int.natCast_nonneg _
          have hi0 : (0 : Int) ≤ (i : Int) := Int.natCast_nonneg _
          have hrb1 : (r : Int) < (bn : Int) := by omega
          have hiE1 : (i : Int) < (E.length : Int) := by omega
          clear hag hml hq hO hls hS e1 e2 e3 hel hf hy
          go_wp2_with fail
          refine HCS.out.mono ?_
          rintro e W2 ⟨v2, rfl, hv2, b2⟩
          obtain ⟨a3, c3, a4, c4, rfl⟩ := hv2.form
          have hbx : Below W2.heap.size W2 (W2.alloc (.cells #[.int .i64 y.b, .slice a3 y.r.length c3, .slice a4 y.o.length c4] 30)) := (Below.refl _ _).alloc (Nat.le_refl _) _
          have hbw : Below wr.heap.size wr (W2.alloc (.cells #[.int .i64 y.b, .slice a3 y.r.length c3, .slice a4 y.o.length c4] 30)) := b2.trans (hbx.mono b2.size)
          have HO3 := Lib.hid (HO.out.below hbw)
          have HE3 := Lib.hid (HEE.out.below hbw)
          have HN3 := Lib.hid ((HEE.out.push (v := (y.b, .slice a3 y.r.length c3, .slice a4 y.o.length c4)) (s := y) HBB.out.size b2 hv2).below hbx)
          have HB3 := Lib.hid (HBB.out.trans (hbw.mono HBB.out.size))
          have HC3 := Lib.hid (HCC.out.below hbw)
          have HY3 := Lib.hid (hv2.lies.below hbx)
          have HX3 := Lib.hid (Cells3.new W2 30 (.int .i64 y.b) (.slice a3 y.r.length c3) (.slice a4 y.o.length c4))
          clear hv2 b2 hbx hbw c0 c1 c2 k0 HCS HO HEE HBB HCC
          by_cases h40 : 40 < E.length
          · have hd := decide_eq_true (show (40 : Int) < (E.length : Int) by omega)
            obtain ⟨h1, h2⟩ := HNO.out (bn * i + r) (by rw [← HK.out, List.length_map]; exact h40) (by have : bn * i ≤ bn * 40 := Nat.mul_le_mul_left _ hi40; omega)
            subst h1; subst h2
            go_wp2
            have hq := OwnQ.lit0 (base := w.heap.size) (W2.alloc (.cells #[.int .i64 y.b, .slice a3 y.r.length c3, .slice a4 y.o.length c4] 30)) HB3.out.size
            rw [size_alloc'] at hq
            refine bodyPost_ret (v := .tuple #[(Value.slice (some ⟨W2.heap.size + 1, 0, none⟩) 0 0), .bool false]) (by simp [results, Try.results6, go_sem]) rfl ?_
            have hbx : Below (W2.alloc (.cells #[.int .i64 y.b, .slice a3 y.r.length c3, .slice a4 y.o.length c4] 30)).heap.size (W2.alloc (.cells #[.int .i64 y.b, .slice a3 y.r.length c3, .slice a4 y.o.length c4] 30)) ((W2.alloc (.cells #[.int .i64 y.b, .slice a3 y.r.length c3, .slice a4 y.o.length c4] 30)).alloc (Obj.cells #[] 30)) := (Below.refl _ _).alloc (Nat.le_refl _) _
            exact ⟨_, [], rfl, hq, Elems.nil _ _, rfl, HB3.out.trans (hbx.mono HB3.out.size)⟩
          · have hd := decide_eq_false (show ¬ (40 : Int) < (E.length : Int) by omega)
            have j0 := HX3.out.c0
            have j1 := HX3.out.c1
            have j2 := HX3.out.c2
            go_wp2
            clear j0 j1 j2
            obtain ⟨c', hc'⟩ : ∃ c', c' = wr.heap.size := ⟨_, rfl⟩
            obtain ⟨d', hd'⟩ : ∃ c', c' = W2.heap.size := ⟨_, rfl⟩
            obtain ⟨W3, hW3⟩ : ∃ W, W = W2.alloc (.cells #[.int .i64 y.b, .slice a3 y.r.length c3, .slice a4 y.o.length c4] 30) := ⟨_, rfl⟩
            rw [← hW3] at HO3 HE3 HN3 HB3 HC3 HY3 HX3 ⊢
            rw [← hc', ← hd'] at HN3
            rw [← hd'] at HX3 ⊢
            clear hW3 hc' hd'
            go_loopw [11, 12] (fun f' k' wr => ∃ k : Nat, k ≤ E.length ∧ k' = .int .i64 k ∧ f' = .bool (((E.map El.s).take k).any (·.same y)) ∧ Hid (Below W3.heap.size W3 wr)) (fun _ k' _ => E.length - (intOf k').toNat)
            case atStart => exact ⟨0, Nat.zero_le _, rfl, by simp, Below.refl _ _⟩
            case round =>
              obtain ⟨k, hkE, rfl, rfl, HBk⟩ := hrel
              obtain ⟨W4, rfl⟩ : ∃ W : World, W = wr := ⟨_, rfl⟩
              by_cases hk : k < E.length
              case pos =>
                obtain ⟨ek, hek⟩ : ∃ e, E[k]? = some e := ⟨_, List.getElem?_eq_getElem hk⟩
                have hml : (E.map El.q).length = E.length := List.length_map ..
                have hq : (E.map El.q)[k]? = some ek.q := by rw [List.getElem?_map, hek]; rfl
                have hS : (E.map El.s)[k]? = some ek.s := by rw [List.getElem?_map, hek]; rfl
                have hO := HO3.out.below HBk.out
                rw [← hml] at hO
                obtain ⟨c0, c1, c2⟩ := hO.cells hq
                have hls := (HE3.out.below HBk.out).lies hek
                have HAS := Lib.hid (any_succ (p := (·.same y)) hS)
                obtain ⟨an1, cn1, ao1, co1, hv⟩ := hls.form
                have hv2 := hv
                simp only [encQ, Value.agg.injEq, Array.mk.injEq, List.cons.injEq, and_true, Value.int.injEq, true_and] at hv2
                obtain ⟨e1, e2, e3⟩ := hv2
                rw [hv] at hls
                rw [e1] at c0
                rw [e2] at c1
                rw [e3] at c2
                have HEQ : Hid (∀ W, Below W4.heap.size W4 W → Calls Try.prog 21 #[.agg #[.int .i64 ek.s.b, .slice an1 ek.s.r.length cn1, .slice ao1 ek.s.o.length co1], .agg #[.int .i64 y.b, .slice a3 y.r.length c3, .slice a4 y.o.length c4]] W fun e w' => e = .returned (.bool (ek.s.same y)) ∧ Below W.heap.size W w') := fun W hW => spec_equal _ _ ek.s.b y.b ek.s.r y.r ek.s.o y.o W (hls.below hW) ((HY3.out.below HBk.out).below hW)
                have hX4 := HX3.out.below HBk.out
                have j0 := hX4.c0
                have j1 := hX4.c1
                have j2 := hX4.c2
                obtain ⟨f2, hf2⟩ : ∃ f, f = ek.s := ⟨_, rfl⟩
                rw [← hf2] at HEQ HAS c0 c1 c2
                obtain ⟨r2, hr2⟩ : ∃ r, r = f2.same y := ⟨_, rfl⟩
                rw [← hr2] at HEQ HAS
                obtain ⟨s2, hs2⟩ : ∃ r, r = ((E.map El.s).take k).any (·.same y) := ⟨_, rfl⟩
                rw [← hs2] at HAS ⊢
                have hk0 : (0 : Int) ≤ (k : Int) := Int.natCast_nonneg _
                have hkE1 : (k : Int) < (E.length : Int) := by omega
                have hD : Below W4.heap.size W4 W4.drew := below_drew' W4
                clear hX4 hek hml hq hS hO hls hv e1 e2 e3 hf2 hr2 hs2
                cases s2 with
                | true =>
                  go_wp2_with fail
                  go_quiet (fail)
                  go_wp2
                  go_roundw
                  case rel => exact ⟨k + 1, by omega, by go_num, by rw [HAS.out]; rfl, below_drewN HBk.out _⟩
                  case measure => simp [intOf]; omega
                | false =>
                  go_wp2_with fail
                  go_region_law (first | (go_simp; (with_reducible refine (HEQ.out _ hD).mono ?_); rintro e W8 ⟨rfl, b8⟩; have bA : Below W4.heap.size W4 W8 := hD.trans (b8.mono hD.size)))
                  all_goals
                    have HBA := Lib.hid (HBk.out.trans (bA.mono HBk.out.size))
                    clear c0 c1 c2 j0 j1 j2 bA b8
                    go_wp2
                    go_roundw
                    case rel => exact ⟨k + 1, by omega, by go_num, by rw [HAS.out]; rfl, HBA⟩
                    case measure => simp [intOf]; omega
              case neg =>
                obtain rfl : k = E.length := by omega
                have hO4 := Lib.hid (HO3.out.below HBk.out)
                have HE4 := Lib.hid (HE3.out.below HBk.out)
                have HN4 := Lib.hid (HN3.out.below HBk.out)
                have HB4 := Lib.hid (HB3.out.trans (HBk.out.mono HB3.out.size))
                have HC4 := Lib.hid (HC3.out.below HBk.out)
                have hX4 := HX3.out.below HBk.out
                have j0 := hX4.c0
                have j1 := hX4.c1
                have j2 := hX4.c2
                have hta : (E.map El.s).take E.length = E.map El.s := List.take_of_length_le (by rw [List.length_map]; exact Nat.le_refl _)
                rw [hta]
                rw [addQ, ← HK.out] at HKN
                obtain ⟨s2, hs2⟩ : ∃ r, r = (E.map El.s).any (·.same y) := ⟨_, rfl⟩
                rw [← hs2] at HKN ⊢
                have hi39 : i ≤ 39 := by omega
                clear hX4 hta hs2 HK HX3 HO3 HE3 HN3 HB3 HC3 HBk
                cases s2 with
                | true =>
                  rw [if_pos rfl] at HKN
                  go_wp2
                  go_roundw
                  case rel => exact ⟨r + 1, E, _, by omega, by omega, by omega, .inr hi39, by go_num, rfl, hO4, HE4, HKN.out.symm, HB4, HC4⟩
                  case measure => simp [intOf]; omega
                | false =>
                  rw [if_neg (by simp)] at HKN
                  go_wp2_with (at_builtin; refine wpList_append_q' rfl _ _ 27 rfl i0 Try.underlying27 hi hz0 hz1 hz2 (.slice (some ⟨g, 0, none⟩) E.length vc) rfl hO4.out _ rfl (by first | rfl | simp) rfl rfl (by rw [List.length_map]; omega) HC4.out.lt ?_; intro v5 w5 ho5 hg5)
                  have HO5 : Hid (OwnQ w5 (w.heap.size + 1) v5 ((E ++ [El.mk (y.b, .slice a3 y.r.length c3, .slice a4 y.o.length c4) y c' d']).map El.q)) := by rw [List.map_append]; exact ho5
                  have HE5 := Lib.hid (HN4.out.keep (hO4.out.keepsIR hg5))
                  have HC5 := Lib.hid (HC4.out.grown hg5 (fun e => by have := (hO4.out.lt _ e).1; omega))
                  have HB5 := Lib.hid (hO4.out.frame HB4.out (Nat.le_succ _) hg5)
                  clear ho5 hg5
                  go_wp2
                  go_roundw
                  case rel => exact ⟨r + 1, E ++ [El.mk (y.b, .slice a3 y.r.length c3, .slice a4 y.o.length c4) y c' d'], _, by omega, by simp; omega, by simp; omega, .inr hi39, by go_num, rfl, HO5, HE5, by rw [HKN.out, List.map_append]; rfl, HB5, HC5⟩
                  case measure => simp [intOf]; omega
        case neg =>
          obtain rfl : r = bn := by omega
          have hi39 : i ≤ 39 := by omega
          go_wp2
          go_roundw
          case rel => exact ⟨i + 1, E, _, by omega, by omega, hE41, by go_num, rfl, HO, HEE, by rw [Nat.mul_succ]; exact HK, HBB, HCC⟩
          case measure => simp [intOf]; omega
    · obtain rfl : i = E.length := by omega
      have hl : (kF m bn (bn * E.length)).length = E.length := by rw [← HK.out, List.length_map]
      obtain ⟨h1, h2⟩ := HYES.out (bn * E.length) (by rw [hl]) (by rw [hl]; exact hi40)
      rw [← HK.out] at h1
      subst h1; subst h2
      go_wp2
      refine bodyPost_ret (v := .tuple #[(Value.slice va E.length vc), .bool true]) (by simp [results, Try.results6, go_sem]) rfl ?_
      exact ⟨_, E, rfl, HO.out.mono (Nat.le_succ _), HEE.out, rfl, HBB.out⟩
theorem spec_ker (v : Value) (b : Int) (rows : List (List Int)) (out : List Int) (w : World) (h : LiesS w v b rows out) (hs : rows.length + tot rows + out.length ≤ 1048576) :
    Calls Try.prog 6 #[v] w (GivesKer (kerV b rows out) (kerK b rows out) w) := by
  cases hk : formK b rows out with
  | true => exact spec_ker_yes v b rows out w h hs hk
  | false =>
    have h2 : kerK b rows out = false := by rw [kerK, hk]; rfl
    have h1 : kerV b rows out = [] := by rw [kerV, h2]; simp
    rw [h1, h2]
    exact spec_ker_no v b rows out w h hs hk
end Kern
end Go.Proofs.Ytgbgcaaekpgapac
/- Contracts of the program's placeOf, its closure and the library's IndexFunc at it. No conditions beyond those that each states. -/
namespace Go.Proofs.Ytgbgcaaekpgapac
open Go.ChangeShapes Go.WideShapes Go.ChangeAt Go.RowKit
open Go.PlainAid Plain
set_option linter.unusedVariables false
namespace Kern
open Seqs Mins
theorem ret_k {a b : Int} (h : a = b) : Ending.returned (.int .i64 a) = Ending.returned (.int .i64 b) := by rw [h]
set_option maxHeartbeats 1000000 in
theorem place_cl (f y : Sq) (an ao bn bo : Option Addr) (cn co dn do_ B : Nat) (w : World) (hc : Cells3 w B 30 (.int .i64 y.b) (.slice bn y.r.length dn) (.slice bo y.o.length do_)) (h1 : LiesS w (.agg #[.int .i64 f.b, .slice an f.r.length cn, .slice ao f.o.length co]) f.b f.r f.o) (h2 : LiesS w (.agg #[.int .i64 y.b, .slice bn y.r.length dn, .slice bo y.o.length do_]) y.b y.r y.o) :
    Calls Try.prog 45 (#[.agg #[.int .i64 f.b, .slice an f.r.length cn, .slice ao f.o.length co]] ++ #[.pointer (some ⟨B, 0, none⟩)]) w fun e w' => e = .returned (.bool (f.same y)) ∧ Below w.heap.size w w' := by
  have hb : Below w.heap.size w (w.alloc (Obj.cells #[.int .i64 f.b, .slice an f.r.length cn, .slice ao f.o.length co] 30)) := (Below.refl _ _).alloc (Nat.le_refl _) _
  have HE := Lib.hid (impl_equal _ _ f.b y.b f.r y.r f.o y.o _ (h1.below hb) (h2.below hb))
  have HB := Lib.hid hb
  have HR : Hid (sameB f.b y.b f.r y.r f.o y.o = f.same y) := rfl
  have k := Cells3.new w 30 (.int .i64 f.b) (.slice an f.r.length cn) (.slice ao f.o.length co)
  have k0 := k.c0
  have k1 := k.c1
  have k2 := k.c2
  have m := hc.below hb
  have m0 := m.c0
  have m1 := m.c1
  have m2 := m.c2
  obtain ⟨r, hr⟩ : ∃ r, r = sameB f.b y.b f.r y.r f.o y.o := ⟨_, rfl⟩
  rw [← hr] at HE HR
  clear h1 h2 hc hb k m hr
  go_enter Try.func45, Try.ntmps45
  go_wp2_with fail
  refine HE.out.mono ?_
  rintro e w' ⟨rfl, hb⟩
  have HB2 := Lib.hid (HB.out.trans (hb.mono HB.out.size))
  clear hb k0 k1 k2 m0 m1 m2
  go_wp2
  go_ret
  exact ⟨by rw [HR.out]; rfl, HB2.out⟩
/-- Where it stands; -1 where it is new. -/
def ixQ (F : List Sq) (y : Sq) : Int := match F.findIdx? (·.same y) with | some i => (i : Int) | none => -1
theorem ixQ_hit {F : List Sq} {y f : Sq} {i : Nat} (hf : F[i]? = some f) (h : f.same y = true) (hb : ∀ (j : Nat) (g : Sq), j < i → F[j]? = some g → g.same y = false) : ixQ F y = (i : Int) := by
  obtain ⟨h1, rfl⟩ := List.getElem?_eq_some_iff.1 hf
  have : F.findIdx? (·.same y) = some i := List.findIdx?_eq_some_iff_getElem.2 ⟨h1, h, fun j hj => by have := hb j _ hj (List.getElem?_eq_getElem (by omega)); simp [this]⟩
  rw [ixQ, this]
theorem ixQ_none {F : List Sq} {y : Sq} (hb : ∀ (j : Nat) (g : Sq), F[j]? = some g → g.same y = false) : ixQ F y = -1 := by
  have : F.findIdx? (·.same y) = none := List.findIdx?_eq_none_iff.2 fun g hg => by
    obtain ⟨j, hj⟩ := List.getElem?_of_mem hg
    exact hb j g hj
  rw [ixQ, this]
theorem ixQ_at (F : List Sq) (y : Sq) : (ixQ F y < 0 ∧ (atQ F y : Int) = F.length) ∨ (¬ ixQ F y < 0 ∧ (atQ F y : Int) = ixQ F y) := by
  unfold ixQ atQ
  cases F.findIdx? (·.same y) with
  | none => exact .inl ⟨by simp, rfl⟩
  | some i => exact .inr ⟨by simp, rfl⟩
set_option maxHeartbeats 1000000 in
theorem place_ix (v : Value) (E : List El) (y : Sq) (bn bo : Option Addr) (dn do_ B lo base : Nat) (w : World) (h : OwnQ w base v (E.map El.q)) (hE : Elems w lo E) (hc : Cells3 w B 30 (.int .i64 y.b) (.slice bn y.r.length dn) (.slice bo y.o.length do_)) (h2 : LiesS w (.agg #[.int .i64 y.b, .slice bn y.r.length dn, .slice bo y.o.length do_]) y.b y.r y.o) :
    Calls Try.prog 44 #[v, .func (.func 45) #[] #[.pointer (some ⟨B, 0, none⟩)]] w fun e w' => e = .returned (.int .i64 (ixQ (E.map El.s) y)) ∧ Below w.heap.size w w' := by
  have eg : ∀ args w, (callFunc 45 args).run Try.prog w = .ok (.enter 45 args) w := enters_of Try.func45 (by kernel_rfl) rfl
  obtain ⟨a, c, rfl, hag⟩ := h.form
  have hml : (E.map El.q).length = E.length := List.length_map ..
  have HQ := Lib.hid h
  have HE := Lib.hid hE
  have HC := Lib.hid hc
  have HY := Lib.hid h2
  rw [hml] at HQ hag ⊢
  have hsm : E.length ≤ 9223372036854775807 := by have := h.small; omega
  clear h hE hc h2
  go_enter Try.func44, Try.ntmps44
  go_wp2
  go_loopw [8] (fun i' wr => ∃ i : Nat, i ≤ E.length ∧ i' = .int .i64 i ∧ Hid (∀ (j : Nat) (g : Sq), j < i → (E.map El.s)[j]? = some g → g.same y = false) ∧ Hid (Below w.heap.size w wr)) (fun i' _ => E.length - (intOf i').toNat)
  case atStart => exact ⟨0, Nat.zero_le _, rfl, (fun j g hj => by omega), Below.refl _ _⟩
  case round =>
    obtain ⟨i, hi', rfl, HI, HBr⟩ := hrel
    by_cases hlt : i < E.length
    · obtain ⟨el, hel⟩ : ∃ e, E[i]? = some e := ⟨_, List.getElem?_eq_getElem hlt⟩
      obtain ⟨g, rfl, _⟩ := hag (by omega)
      have hq : (E.map El.q)[i]? = some el.q := by rw [List.getElem?_map, hel]; rfl
      have HS : Hid ((E.map El.s)[i]? = some el.s) := by show _ = _; rw [List.getElem?_map, hel]; rfl
      have hO := HQ.out.below HBr.out
      rw [← hml] at hO
      obtain ⟨c0, c1, c2⟩ := hO.cells hq
      have hls := (HE.out.below HBr.out).lies hel
      obtain ⟨an, cn, ao, co, hv⟩ := hls.form
      have hv2 := hv
      simp only [encQ, Value.agg.injEq, Array.mk.injEq, List.cons.injEq, and_true, Value.int.injEq, true_and] at hv2
      obtain ⟨e1, e2, e3⟩ := hv2
      rw [hv] at hls
      rw [e1] at c0
      rw [e2] at c1
      rw [e3] at c2
      have HCL := Lib.hid (place_cl el.s y an ao bn bo cn co dn do_ B wr (HC.out.below HBr.out) hls (HY.out.below HBr.out))
      obtain ⟨f, hf⟩ : ∃ f, f = el.s := ⟨_, rfl⟩
      rw [← hf] at HCL HS c0 c1 c2
      obtain ⟨r, hr⟩ : ∃ r, r = f.same y := ⟨_, rfl⟩
      rw [← hr] at HCL
      have HR := Lib.hid hr
      have hi0 : (0 : Int) ≤ (i : Int) := Int.natCast_nonneg _
      clear hel hq hO hls hv e1 e2 e3 hf hr
      cases r with
      | true =>
        have HX := Lib.hid (ixQ_hit HS.out HR.out.symm HI.out)
        go_wp2_with (go_at_fn 45; refine HCL.out.mono ?_; rintro e w5 ⟨rfl, b5⟩)
        go_ret
        exact ⟨ret_k HX.out.symm, HBr.out.trans (b5.mono HBr.out.size)⟩
      | false =>
        have HN : Hid (∀ (j : Nat) (g : Sq), j < i + 1 → (E.map El.s)[j]? = some g → g.same y = false) := fun j g' hj hg => by
          by_cases e : j = i
          · subst e
            obtain rfl := Option.some.inj (HS.out.symm.trans hg)
            exact HR.out.symm
          · exact HI.out j g' (by omega) hg
        go_wp2_with (go_at_fn 45; refine HCL.out.mono ?_; rintro e w5 ⟨rfl, b5⟩)
        go_roundw
        case rel => exact ⟨i + 1, by omega, by go_num, HN, HBr.out.trans (b5.mono HBr.out.size)⟩
        case measure => simp [intOf]; omega
    · have HN := Lib.hid (ixQ_none (F := E.map El.s) (y := y) fun j g hj => HI.out j g (by have := (List.getElem?_eq_some_iff.1 hj).1; rw [List.length_map] at this; omega) hj)
      go_wp2
      go_ret
      exact ⟨ret_k HN.out.symm, HBr.out⟩
end Kern
end Go.Proofs.Ytgbgcaaekpgapac
/- Contract of the program's placeOf. No conditions beyond those that it states. -/
namespace Go.Proofs.Ytgbgcaaekpgapac
open Go.ChangeShapes Go.WideShapes Go.ChangeAt Go.RowKit
open Go.PlainAid Plain
set_option linter.unusedVariables false
namespace Kern
open Seqs Mins
theorem place (v vn : Value) (E : List El) (y : Sq) (bn bo : Option Addr) (dn do_ lo base : Nat) (w : World) (h : OwnQ w base v (E.map El.q)) (hE : Elems w lo E) (h2 : LiesS w (.agg #[.int .i64 y.b, .slice bn y.r.length dn, .slice bo y.o.length do_]) y.b y.r y.o) :
    Calls Try.prog 37 #[.agg #[v, vn], .agg #[.int .i64 y.b, .slice bn y.r.length dn, .slice bo y.o.length do_]] w fun e w' => e = .returned (.int .i64 (atQ (E.map El.s) y : Nat)) ∧ Below w.heap.size w w' := by
  obtain ⟨a, c, rfl, _⟩ := h.form
  have hml : (E.map El.q).length = E.length := List.length_map ..
  have hb0 : ∀ (W : World) o, Below W.heap.size W (W.alloc o) := fun W o => (Below.refl _ _).alloc (Nat.le_refl _) _
  have hb1 := (hb0 w (.cells #[.slice a (E.map El.q).length c, vn] 45)).trans ((hb0 (w.alloc (.cells #[.slice a (E.map El.q).length c, vn] 45)) (.cells #[.int .i64 y.b, .slice bn y.r.length dn, .slice bo y.o.length do_] 30)).mono (by simp))
  have k := (CellsN.new w 45 [.slice a (E.map El.q).length c, vn]).alloc (.cells #[.int .i64 y.b, .slice bn y.r.length dn, .slice bo y.o.length do_] 30)
  have m := Cells3.new (w.alloc (.cells #[.slice a (E.map El.q).length c, vn] 45)) 30 (.int .i64 y.b) (.slice bn y.r.length dn) (.slice bo y.o.length do_)
  have HIX := Lib.hid (place_ix _ E y bn bo dn do_ _ lo base _ (h.below hb1) (hE.below hb1) m (h2.below hb1))
  have HIA := Lib.hid (ixQ_at (E.map El.s) y)
  rw [size_alloc'] at HIX
  rw [hml] at HIX k hb1 ⊢
  rw [List.length_map] at HIA
  have HB := Lib.hid hb1
  have k0 := k.at_ (i := 0) rfl
  have k1 := k.at_ (i := 1) rfl
  obtain ⟨x, hx⟩ : ∃ x, x = ixQ (E.map El.s) y := ⟨_, rfl⟩
  obtain ⟨z, hz⟩ : ∃ x, x = atQ (E.map El.s) y := ⟨_, rfl⟩
  rw [← hx] at HIX HIA
  rw [← hz] at HIA ⊢
  have HK := Lib.hid k
  clear h hE h2 hb0 hb1 k m hx hz hml
  rcases HIA.out with ⟨h1, h2⟩ | ⟨h1, h2⟩
  · have hd := decide_eq_true h1
    go_enter Try.func37, Try.ntmps37
    go_wp2_with fail
    refine HIX.out.mono ?_
    rintro e w' ⟨rfl, hb⟩
    have q0 := (HK.out.below hb).at_ (i := 0) rfl
    have HB2 := Lib.hid (HB.out.trans (hb.mono HB.out.size))
    clear k0 k1 hb
    go_wp2
    go_ret
    exact ⟨ret_k h2.symm, HB2.out⟩
  · have hd := decide_eq_false h1
    go_enter Try.func37, Try.ntmps37
    go_wp2_with fail
    refine HIX.out.mono ?_
    rintro e w' ⟨rfl, hb⟩
    have q0 := (HK.out.below hb).at_ (i := 0) rfl
    have HB2 := Lib.hid (HB.out.trans (hb.mono HB.out.size))
    clear k0 k1 hb
    go_wp2
    go_ret
    exact ⟨ret_k h2.symm, HB2.out⟩
end Kern
end Go.Proofs.Ytgbgcaaekpgapac
/- Communication over a channel inside a walk, nobody else being there: a send into a buffer with room, a receive (with comma-ok) from a buffer that holds something or from a closed channel whose buffer is empty, a close; what a channel's block keeps. No conditions beyond those that each states. -/
namespace Go.Proofs.Ytgbgcaaekpgapac.Plain
open Go.Conc Go.RowKit
section
variable {P : Program} {ops : Array Oper} {Q : Exit → Act → World → Prop} {a : Act} {w : World}
/-- From the operations l of a region on the walk comes to an end of which Q holds. -/
def OpsTo (P : Program) (ops : Array Oper) (Q : Exit → Act → World → Prop) (l : List Nat) (a : Act) (w : World) : Prop :=
  ∀ (b : Frame) (k : List Item) (cs : List Frame), ∃ e a' w', Q e a' w' ∧ Arrives P (lone (b.at a (.inRegion ops l :: k)) cs w) b k cs e a' w'
theorem opsTo_end (h : Q .normal a w) : OpsTo P ops Q [] a w := fun _ _ _ => ⟨.normal, a, w, h, .one step_region_end⟩
theorem opsTo_region {id : Nat} (h : OpsTo P ops Q (List.range ops.size) a w) : (Code.region id ops false).wp P Q a w := fun b k cs =>
  let ⟨e, a', w', q, r⟩ := h b k cs
  ⟨e, a', w', q, .of_steps (.one step_region) r⟩
theorem opsTo_value {i : Nat} {rest : List Nat} {o : Oper} {v : Value} {w' : World} (ho : ops[i]? = some o) (hw : Region.wanted o (yielded ops a.tmps) = true) (hr : (execOp a.eval o).run P w = .ok (.value v) w')
    (h : OpsTo P ops Q rest (a.put o.dst v) w') : OpsTo P ops Q (i :: rest) a w := by
  intro b k cs
  obtain ⟨e, a', w₂, hq, harr⟩ := h b k cs
  refine ⟨e, a', w₂, hq, .of_steps (.one (step_lone_go ?_)) harr⟩
  have hf := Frame.finish_at b a ops i rest k v
  rw [ho] at hf
  rw [stepG_op ho hw]
  simp [stepG.apply, hr, hf]
theorem comm_step {i : Nat} {rest : List Nat} {o : Oper} {cases : Array CommCase} {blocking : Bool} {shape : CommShape} {w' : World} (ho : ops[i]? = some o) (hw : Region.wanted o (yielded ops a.tmps) = true)
    (hr : (execOp a.eval o).run P w = .ok (.comm cases blocking shape) w') (b : Frame) (k : List Item) (cs : List Frame) :
    ∃ es, stepG P true (G (b.at a (.inRegion ops (i :: rest) :: k)) cs) w = .comm (G (b.at a (.inRegion ops (i :: rest) :: k)) cs) cases blocking shape w' es := by
  have h : stepG P true (G (b.at a (.inRegion ops (i :: rest) :: k)) cs) w = stepG.apply P true (b.at a (.inRegion ops (i :: rest) :: k)) cs none (execOp a.eval o) w := stepG_op ho hw
  rw [h]
  simp only [stepG.apply, Sem.runT_eq, hr]
  split <;> exact ⟨_, rfl⟩
theorem opsTo_send {i : Nat} {rest : List Nat} {o : Oper} {c cap s r : Nat} {buf : Array Value} {v z' : Value} {tm : Bool} (ho : ops[i]? = some o) (hw : Region.wanted o (yielded ops a.tmps) = true)
    (hr : (execOp a.eval o).run P w = .ok (.comm #[scase c v z'] true .send) w) (hc : w.heap[c]? = some (.chan cap buf false s r tm)) (hroom : buf.size < cap)
    (h : OpsTo P ops Q rest (a.put o.dst undef) (w.setChan c cap (buf.push v) false (s + 1) r tm)) : OpsTo P ops Q (i :: rest) a w := by
  intro b k cs
  obtain ⟨e, a', w₂, hq, harr⟩ := h b k cs
  obtain ⟨es, hs⟩ := comm_step (P := P) ho hw hr b k cs
  have hst := step_lone_send_room hs hc hroom
  have hf := Frame.finish_at b a ops i rest k undef
  rw [ho] at hf
  rw [hf] at hst
  exact ⟨e, a', w₂, hq, .of_steps (.one hst) harr⟩
theorem opsTo_recv {i : Nat} {rest : List Nat} {o : Oper} {c cap s r : Nat} {buf : Array Value} {z : Value} {closed tm : Bool} (ho : ops[i]? = some o) (hw : Region.wanted o (yielded ops a.tmps) = true)
    (hr : (execOp a.eval o).run P w = .ok (.comm #[rcase c z] true (.recv true)) w) (hc : w.heap[c]? = some (.chan cap buf closed s r tm)) (hsome : 0 < buf.size)
    (h : OpsTo P ops Q rest (a.put o.dst (.tuple #[buf.getD 0 undef, .bool true])) (w.setChan c cap (buf.extract 1 buf.size) closed s (r + 1) tm)) : OpsTo P ops Q (i :: rest) a w := by
  intro b k cs
  obtain ⟨e, a', w₂, hq, harr⟩ := h b k cs
  obtain ⟨es, hs⟩ := comm_step (P := P) ho hw hr b k cs
  have hst := step_lone_recv_buf true hs hc hsome
  have hf := Frame.finish_at b a ops i rest k (got true (buf.getD 0 undef) true)
  rw [ho] at hf
  rw [hf] at hst
  exact ⟨e, a', w₂, hq, .of_steps (.one hst) harr⟩
theorem opsTo_shut {i : Nat} {rest : List Nat} {o : Oper} {c cap s r : Nat} {z : Value} {tm : Bool} (ho : ops[i]? = some o) (hw : Region.wanted o (yielded ops a.tmps) = true)
    (hr : (execOp a.eval o).run P w = .ok (.comm #[rcase c z] true (.recv true)) w) (hc : w.heap[c]? = some (.chan cap #[] true s r tm))
    (h : OpsTo P ops Q rest (a.put o.dst (.tuple #[z, .bool false])) w) : OpsTo P ops Q (i :: rest) a w := by
  intro b k cs
  obtain ⟨e, a', w₂, hq, harr⟩ := h b k cs
  obtain ⟨es, hs⟩ := comm_step (P := P) ho hw hr b k cs
  have hst := step_lone_recv_shut true hs hc
  have hf := Frame.finish_at b a ops i rest k (got true z false)
  rw [ho] at hf
  rw [hf] at hst
  exact ⟨e, a', w₂, hq, .of_steps (.one hst) harr⟩
end
end Go.Proofs.Ytgbgcaaekpgapac.Plain
/- What the search for a kernel of the program keeps: the kernel that it builds, its channel, what stays of them at each kind of write. No conditions beyond those that each states. -/
namespace Go.Proofs.Ytgbgcaaekpgapac
open Go.ChangeShapes Go.WideShapes Go.ChangeAt Go.RowKit
open Go.PlainAid Plain Go.Conc
set_option linter.unusedVariables false
namespace Kern
open Seqs Mins
/-- The row of the places of those that digits lead to. -/
def fAt (m : Sq) (b i : Nat) : Sq := (kF m b (b * i)).getD i m
def kRow (m : Sq) (b i r : Nat) : List Int := (List.range r).map fun j => ((atQ (kF m b (b * i + j)) (sub (fAt m b i) (j : Int)) : Nat) : Int)
def kRows (m : Sq) (b i : Nat) : List (List Int) := (List.range i).map fun i => kRow m b i b
theorem kRow_len (m : Sq) (b i r : Nat) : (kRow m b i r).length = r := by simp [kRow]
theorem kRow_succ (m : Sq) (b i r : Nat) : kRow m b i (r + 1) = kRow m b i r ++ [((atQ (kF m b (b * i + r)) (sub (fAt m b i) (r : Int)) : Nat) : Int)] := by simp [kRow, List.range_succ]
theorem kRows_succ (m : Sq) (b i : Nat) : kRows m b (i + 1) = kRows m b i ++ [kRow m b i b] := by simp [kRows, List.range_succ]
theorem kRows_len (m : Sq) (b i : Nat) : (kRows m b i).length = i := by simp [kRows]
theorem kRow_set (m : Sq) (b i r n : Nat) (h : r < n) (x : Int) (hx : ((atQ (kF m b (b * i + r)) (sub (fAt m b i) (r : Int)) : Nat) : Int) = x) : ((kRow m b i r ++ List.replicate (n - r) (0 : Int)).map (Value.int .i64)).set r (.int .i64 x) = (kRow m b i (r + 1) ++ List.replicate (n - (r + 1)) (0 : Int)).map (Value.int .i64) := by
  rw [← List.map_set, List.set_append_right _ _ (by rw [kRow_len]; omega), kRow_len, Nat.sub_self, show n - r = (n - (r + 1)) + 1 from by omega, List.replicate_succ, List.set_cons_zero, kRow_succ, hx, List.append_assoc]
  rfl
theorem grown_setChan (w : World) (c cap : Nat) (buf : Array Value) (cl : Bool) (s r : Nat) (tm : Bool) : w.grownBy (w.setChan c cap buf cl s r tm) (some c) :=
  ⟨rfl, rfl, rfl, by rw [size_setChan]; exact Nat.le_refl _, fun k _ hk => by
    have : c ≠ k := fun e => hk (by rw [e])
    simp only [World.setChan]
    rw [Array.getElem?_setIfInBounds_ne this]⟩
theorem grown_cell' (w : World) (g j : Nat) (v : Value) : w.grownBy (w.setCell ⟨g, j, none⟩ v) (some g) :=
  ⟨rfl, rfl, rfl, by rw [size_setCell']; exact Nat.le_refl _, fun k _ hk => by
    have : k ≠ g := fun e => hk (by rw [e])
    exact heap_setCell_other w ⟨g, j, none⟩ k v this⟩
theorem touch_of_grown {w w' : World} {g : Nat} (h : w.grownBy w' (some g)) : Plain.Touch g (g + 1) w w' := ⟨h.os, h.tape, h.output, h.size, fun k hk hn => h.block k hk (fun e => by have := Option.some.inj e; omega)⟩
theorem below_of_none {w w' : World} (h : w.grownBy w' none) : Below w.heap.size w w' := ⟨h.os, h.tape, h.output, h.size, fun k hk => h.block k hk (by simp)⟩
theorem Elems.grown {w w' : World} {lo : Nat} {E : List El} {r : Option Nat} (h : Elems w lo E) (hg : w.grownBy w' r) (ha : ∀ g, r = some g → Avoid E g) : Elems w' lo E := by
  cases r with
  | none => exact h.below (below_of_none hg)
  | some g => exact h.touch (touch_of_grown hg) (ha g rfl)
theorem HasRows.block {w : World} {lo hi : Nat} {v : Value} {rows : List (List Int)} (h : HasRows w lo hi v rows) : ∀ k, v.ownBlock = some k → (lo ≤ k ∧ k < w.heap.size) ∧ ∃ cur, w.heap[k]? = some (.cells cur 23 (0, 0)) := by
  obtain ⟨us, h1, _⟩ := h
  intro k hk
  refine ⟨h1.lt k hk, ?_⟩
  rcases h1.2 with ⟨rfl, _⟩ | ⟨g, cap, cur, rfl, _, hg, _⟩
  · cases hk
  · obtain rfl := Option.some.inj hk
    exact ⟨cur, hg⟩
theorem OwnQ.block {w : World} {base : Nat} {v : Value} {L : List QV} (h : OwnQ w base v L) : ∀ k, v.ownBlock = some k → ∃ cur, w.heap[k]? = some (.cells cur 30 (0, 0)) := by
  intro k hk
  rcases h.2 with ⟨rfl, _⟩ | ⟨g, cap, cur, rfl, _, hg, _⟩
  · cases hk
  · obtain rfl := Option.some.inj hk
    exact ⟨cur, hg⟩
theorem HasRows.write {w w' : World} {lo hi g : Nat} {v : Value} {rows : List (List Int)} (h : HasRows w lo hi v rows) (hg : w.grownBy w' (some g)) (hhi : hi ≤ g) (hn : v.ownBlock ≠ some g) : HasRows w' lo hi v rows := by
  obtain ⟨us, h1, h2, h3, h4⟩ := h
  exact ⟨us, h1.grown hg (.inr hn), ⟨h2.len, fun i u r hu hr => (h2.row i u r hu hr).grown hg (fun k hk => by have := Option.some.inj hk; omega), h2.apart⟩, h3, Nat.le_trans h4 hg.size⟩
/-- 'v = append(v, x)', x a row made behind all the others; where the new slice lies. -/
theorem wpList_append_row3 {P : Program} {wr : World} {lo hi : Nat} {rows : List (List Int)} {ops : Array Oper} {rest : List Oper} {o : Oper} {a : Act} {Q : Exit → Act → World → Prop} (hgd : o.guard = none) (s x : Operand) (t : TypeId)
    (ho : o.op = .call { callee := .builtin .append, args := #[s, x], argTypes := #[t, t] })
    (i : TypeInfo) (ht : P.underlying t = some (.slice 23)) (hi' : P.info? 23 = some i) (hz : i.zero = some (.slice none 0 0))
    (hsize : i.size = 1) (hby : i.bytes = 24) (v : Value) (hs : a.eval s = v) (hown : HasRows wr lo hi v rows) (u : Value) (r : List Int) (hu : Has (Value.int .i64) 3 wr hi u r)
    (g : Nat) (hx : a.eval x = .slice (some ⟨g, 0, none⟩) 1 1) (hgs : g = wr.heap.size) (hlen : rows.length ≤ 100000)
    (h : ∀ v' w', HasRows w' lo w'.heap.size v' (rows ++ [r]) → wr.grownBy w' v.ownBlock → (∀ k, v'.ownBlock = some k → v.ownBlock = some k ∨ wr.heap.size ≤ k) → wpList P ops Q rest (a.put o.dst v') w') :
    wpList P ops Q (o :: rest) a (wr.alloc (.cells #[u] 23)) := by
  subst hgs
  obtain ⟨us, h1, h2, h3, h4⟩ := hown
  have hu1 : u.oneCell' = true := by
    obtain ⟨a, c, h5, _⟩ := hu.form
    rw [h5]
    rfl
  have hul := h2.len
  refine wpList_append_list (enc := id) (e := 23) hgd s x t ho lo i (.slice none 0 0) 24 ht hi' hz hsize hby rfl v us hs (has_alloc h1 _) (.slice (some ⟨wr.heap.size, 0, none⟩) 1 1) [u] hx (lies_lit1v u rfl) (fun y hy => by simp at hy; subst hy; exact hu1) (by simp; omega) (by simp; omega) (by simp; omega) ?_
  intro v' w' hv' hg hb
  have hg' : wr.grownBy w' v.ownBlock := grown_alloc hg
  have hI : OwnI wr hi wr.heap.size u r := ⟨hu, fun k hk => (hu.lt k hk).2, Nat.le_refl _⟩
  have h5 := h2.snoc hI h3 h4
  have h6 := h5.top_grown h1 hg'
  exact h v' w' ⟨us ++ [u], hv', h6.mono hg'.size (Nat.le_refl _), Nat.le_trans h3 (Nat.le_trans h4 hg'.size), Nat.le_refl _⟩ hg' (fun k hk => (hb k hk).imp id (fun h => by simp at h; omega))
/-- 'v = append(v, q)'; where the new slice lies. -/
theorem wpList_append_q3 {P : Program} {wr : World} {base : Nat} {L : List QV} {ops : Array Oper} {rest : List Oper} {o : Oper} {a : Act} {Q : Exit → Act → World → Prop} {x0 : Int} {x1 x2 : Value} (hgd : o.guard = none) (s x : Operand) (t : TypeId)
    (ho : o.op = .call { callee := .builtin .append, args := #[s, x], argTypes := #[t, t] })
    (i : TypeInfo) (ht : P.underlying t = some (.slice 30)) (hi : P.info? 30 = some i) (hz : i.zero = some (.agg #[.int .i64 0, .slice none 0 0, .slice none 0 0]))
    (hsize : i.size = 3) (hby : i.bytes = 56) (v : Value) (hs : a.eval s = v) (hown : OwnQ wr base v L) (g : Nat) (hx : a.eval x = .slice (some ⟨g, 0, none⟩) 1 1) (hgs : g = wr.heap.size)
    (h1 : x1.oneCell' = true) (h2 : x2.oneCell' = true) (hlen : L.length ≤ 100000) (hb : base ≤ wr.heap.size)
    (h : ∀ v' w', OwnQ w' base v' (L ++ [(x0, x1, x2)]) → wr.grownBy w' v.ownBlock → (∀ k, v'.ownBlock = some k → v.ownBlock = some k ∨ wr.heap.size ≤ k) → wpList P ops Q rest (a.put o.dst v') w') :
    wpList P ops Q (o :: rest) a (wr.alloc (.cells #[.int .i64 x0, x1, x2] 30)) := by
  subst hgs
  have hal : Below wr.heap.size wr (wr.alloc (.cells #[.int .i64 x0, x1, x2] 30)) := (Below.refl _ _).alloc (Nat.le_refl _) _
  refine wpList_append_own_at _ hgd s x t ho base 30 i _ 3 56 ht hi hz hsize hby rfl (by decide) v L.length (flatQ L) hs (hown.below hal) ⟨wr.heap.size, 0, none⟩ 1 1 (flatQ [(x0, x1, x2)]) hx rfl (fun j u hj => ?_) (fun u hu => ?_) (by unfold maxLen; omega) (by omega) (by simp; omega) ?_
  · rw [addr_add]
    have hcell : ∀ j u, [Value.int .i64 x0, x1, x2][j]? = some u → (wr.alloc (.cells #[.int .i64 x0, x1, x2] 30)).cell? ⟨wr.heap.size, j, none⟩ = some u := fun j u hj => (CellsN.new wr 30 [.int .i64 x0, x1, x2]).at_ hj
    exact hcell j u hj
  · rw [flatQ_one] at hu
    rcases List.mem_cons.1 hu with rfl | hu
    · rfl
    · rcases List.mem_cons.1 hu with rfl | hu
      · exact h1
      · rw [List.mem_singleton.1 hu]; exact h2
  · intro v' w' ho' hg' _ hb'
    refine h v' w' ?_ (grown_alloc hg') (fun k hk => by
      rcases hb' with h1 | h1
      · exact .inl (h1 ▸ hk)
      · rw [h1] at hk
        have := Option.some.inj hk
        simp at this
        exact .inr (by omega))
    show w'.ownsRow _ _ _ _ _ _
    rw [List.length_append, flatQ_append]
    exact ho'
/-- What the search keeps: k the kernel's block, c the channel's. -/
structure KS (w wr : World) (x0 x1 x2 : Value) (k c : Nat) (vf vn : Value) (E : List El) (rows : List (List Int)) (hi : Nat) (buf : List Value) (cl : Bool) : Prop where
  below : Below w.heap.size w wr
  box : Cells3 wr w.heap.size 30 x0 x1 x2
  res : CellsN wr (w.heap.size + 1) 45 [.slice none 0 0, .slice none 0 0]
  ker : CellsN wr k 45 [vf, vn]
  chan : ∃ s r, wr.heap[c]? = some (.chan 40 buf.toArray cl s r false)
  own : OwnQ wr (w.heap.size + 2) vf (E.map El.q)
  els : Elems wr w.heap.size E
  next : HasRows wr (w.heap.size + 2) hi vn rows
  av : ∀ g, vn.ownBlock = some g → Avoid E g
  hk : w.heap.size + 2 ≤ k
  hc : w.heap.size + 2 ≤ c
  hkc : k ≠ c
section
variable {w wr w' w5 : World} {x0 x1 x2 : Value} {k c hi : Nat} {vf vn : Value} {E : List El} {rows : List (List Int)} {buf : List Value} {cl : Bool}
theorem KS.clt (h : KS w wr x0 x1 x2 k c vf vn E rows hi buf cl) : c < wr.heap.size := by
  obtain ⟨s, r, hc⟩ := h.chan
  exact (Array.getElem?_eq_some_iff.1 hc).1
theorem KS.call (h : KS w wr x0 x1 x2 k c vf vn E rows hi buf cl) (hb : Below wr.heap.size wr w') : KS w w' x0 x1 x2 k c vf vn E rows hi buf cl :=
  ⟨h.below.trans (hb.mono h.below.size), h.box.below hb, h.res.below hb, h.ker.below hb, by obtain ⟨s, r, hc⟩ := h.chan; exact ⟨s, r, (hb.block c h.clt).trans hc⟩, h.own.below hb, h.els.below hb, h.next.below hb, h.av, h.hk, h.hc, h.hkc⟩
theorem KS.vf_ne_chan (h : KS w wr x0 x1 x2 k c vf vn E rows hi buf cl) : vf.ownBlock ≠ some c := fun e => by
  obtain ⟨s, r, hc⟩ := h.chan
  obtain ⟨cur, h1⟩ := h.own.block c e
  rw [hc] at h1; cases h1
theorem KS.vn_ne_chan (h : KS w wr x0 x1 x2 k c vf vn E rows hi buf cl) : vn.ownBlock ≠ some c := fun e => by
  obtain ⟨s, r, hc⟩ := h.chan
  obtain ⟨_, cur, h1⟩ := HasRows.block h.next c e
  rw [hc] at h1; cases h1
theorem KS.vf_ne_ker (h : KS w wr x0 x1 x2 k c vf vn E rows hi buf cl) : vf.ownBlock ≠ some k := fun e => by
  obtain ⟨cur, h1⟩ := h.own.block k e
  rw [h.ker.row] at h1
  simp at h1
theorem KS.vn_ne_ker (h : KS w wr x0 x1 x2 k c vf vn E rows hi buf cl) : vn.ownBlock ≠ some k := fun e => by
  obtain ⟨_, cur, h1⟩ := HasRows.block h.next k e
  rw [h.ker.row] at h1
  simp at h1
theorem KS.vf_ne_vn (h : KS w wr x0 x1 x2 k c vf vn E rows hi buf cl) : ∀ g, vf.ownBlock = some g → vn.ownBlock ≠ some g := fun g e e' => by
  obtain ⟨cur, h1⟩ := h.own.block g e
  obtain ⟨_, cur', h2⟩ := HasRows.block h.next g e'
  rw [h1] at h2
  simp at h2
/-- The channel turns. -/
theorem KS.set (h : KS w wr x0 x1 x2 k c vf vn E rows hi buf cl) (buf' : List Value) (a : Array Value) (ha : a = buf'.toArray) (cl' : Bool) (s' r' : Nat) : KS w (wr.setChan c 40 a cl' s' r' false) x0 x1 x2 k c vf vn E rows hi buf' cl' := by
  subst ha
  have hg := grown_setChan wr c 40 buf'.toArray cl' s' r' false
  obtain ⟨s, r, hc⟩ := h.chan
  have hkp : KeepsIR wr (wr.setChan c 40 buf'.toArray cl' s' r' false) := KeepsIR.of_grown hg (fun cur e fr h1 => by rw [hc] at h1; cases h1)
  have h0 := h.hk
  have h1 := h.hc
  exact ⟨below_setChan h.below (by omega) _ _ _ _ _ _, h.box.grown hg (fun e => by have := Option.some.inj e; omega), h.res.grown hg (fun e => by have := Option.some.inj e; omega), h.ker.grown hg (fun e => h.hkc (Option.some.inj e).symm),
    ⟨s', r', heap_setChan wr c 40 _ _ _ _ _ h.clt⟩, h.own.kept hg (.inr h.vf_ne_chan), h.els.keep hkp, HasRows.keep h.next hkp, h.av, h.hk, h.hc, h.hkc⟩
/-- A block of ints that is the call's own turns. -/
theorem KS.write (h : KS w wr x0 x1 x2 k c vf vn E rows hi buf cl) {g : Nat} (j : Nat) (u : Value) {cur : Array Value} (hI : wr.heap[g]? = some (.cells cur 3 (0, 0))) (hlo : w.heap.size + 2 ≤ g) (hhi : hi ≤ g) (ha : Avoid E g) : KS w (wr.setCell ⟨g, j, none⟩ u) x0 x1 x2 k c vf vn E rows hi buf cl := by
  have hg := grown_cell' wr g j u
  have n1 : g ≠ k := fun e => by subst e; rw [h.ker.row] at hI; simp at hI
  have n2 : g ≠ c := fun e => by subst e; obtain ⟨s, r, hc⟩ := h.chan; rw [hc] at hI; cases hI
  have n3 : vf.ownBlock ≠ some g := fun e => by obtain ⟨cur, h1⟩ := h.own.block g e; rw [hI] at h1; simp at h1
  have n4 : vn.ownBlock ≠ some g := fun e => by obtain ⟨_, cur, h1⟩ := HasRows.block h.next g e; rw [hI] at h1; simp at h1
  exact ⟨h.below.setCell (p := ⟨g, j, none⟩) (by show _ ≤ g; omega) _, h.box.grown hg (fun e => by have := Option.some.inj e; omega), h.res.grown hg (fun e => by have := Option.some.inj e; omega), h.ker.grown hg (fun e => n1 (Option.some.inj e)),
    by obtain ⟨s, r, hc⟩ := h.chan; exact ⟨s, r, (hg.block c h.clt (fun e => n2 (Option.some.inj e).symm)).trans hc⟩, h.own.kept hg (.inr n3), h.els.grown hg (fun g' e => by cases e; exact ha), HasRows.write h.next hg hhi n4, h.av, h.hk, h.hc, h.hkc⟩
/-- A sequence is put behind those found. -/
theorem KS.add (h : KS w wr x0 x1 x2 k c vf vn E rows hi buf cl) {v' : Value} (e : El) (ho : OwnQ w5 (w.heap.size + 2) v' ((E ++ [e]).map El.q)) (hg : wr.grownBy w5 vf.ownBlock) (hE : Elems wr w.heap.size (E ++ [e])) (hav : ∀ g, vn.ownBlock = some g → Avoid (E ++ [e]) g) : KS w (w5.setCell ⟨k, 0, none⟩ v') x0 x1 x2 k c v' vn (E ++ [e]) rows hi buf cl := by
  have hk5 := h.ker.grown hg h.vf_ne_ker
  have hg2 := grown_cell' w5 k 0 v'
  have hkp1 := h.own.keepsIR hg
  have hkp2 : KeepsIR w5 (w5.setCell ⟨k, 0, none⟩ v') := KeepsIR.of_grown hg2 (fun cur e fr h1 => by rw [hk5.row] at h1; simp at h1; rcases h1 with ⟨_, h1, _⟩; rw [← h1]; decide)
  have h0 := h.hk
  have h1 := h.hc
  have hlt := h.own.lt
  have hb : Below w.heap.size w w5 := h.own.frame h.below (by omega) hg
  refine ⟨hb.setCell (p := ⟨k, 0, none⟩) (by show _ ≤ k; omega) _, (h.box.grown hg (fun e => by have := (hlt _ e).1; omega)).grown hg2 (fun e => by have := Option.some.inj e; omega), (h.res.grown hg (fun e => by have := (hlt _ e).1; omega)).grown hg2 (fun e => by have := Option.some.inj e; omega), hk5.set 0 v', ?_, ho.kept hg2 (.inr (fun e => ?_)), (hE.keep hkp1).keep hkp2, HasRows.keep (HasRows.keep h.next hkp1) hkp2, hav, h.hk, h.hc, h.hkc⟩
  · obtain ⟨s, r, hc⟩ := h.chan
    have hc5 := (hg.block c h.clt (Ne.symm h.vf_ne_chan)).trans hc
    exact ⟨s, r, (hg2.block c (Array.getElem?_eq_some_iff.1 hc5).1 (fun e => h.hkc (Option.some.inj e).symm)).trans hc5⟩
  · obtain ⟨cur, h1⟩ := ho.block k e
    rw [hk5.row] at h1
    simp at h1
/-- A row is put behind the rows. -/
theorem KS.put (h : KS w wr x0 x1 x2 k c vf vn E rows hi buf cl) {v' : Value} {rows' : List (List Int)} (ho : HasRows w5 (w.heap.size + 2) w5.heap.size v' rows') (hg : wr.grownBy w5 vn.ownBlock) (hb' : ∀ k, v'.ownBlock = some k → vn.ownBlock = some k ∨ wr.heap.size ≤ k) : KS w (w5.setCell ⟨k, 1, none⟩ v') x0 x1 x2 k c vf v' E rows' w5.heap.size buf cl := by
  have hk5 := h.ker.grown hg h.vn_ne_ker
  have hg2 := grown_cell' w5 k 1 v'
  have hkp2 : KeepsIR w5 (w5.setCell ⟨k, 1, none⟩ v') := KeepsIR.of_grown hg2 (fun cur e fr h1 => by rw [hk5.row] at h1; simp at h1; rcases h1 with ⟨_, h1, _⟩; rw [← h1]; decide)
  have h0 := h.hk
  have h1 := h.hc
  have hlt := fun k e => (HasRows.block h.next k e).1
  have hb : Below w.heap.size w w5 := HasRows.frame h.next h.below (by omega) hg
  have ho5 : OwnQ w5 (w.heap.size + 2) vf (E.map El.q) := h.own.kept hg (by
    cases hv : vf.ownBlock with
    | none => exact .inl rfl
    | some g => exact .inr (fun e => h.vf_ne_vn g hv e.symm))
  refine ⟨hb.setCell (p := ⟨k, 1, none⟩) (by show _ ≤ k; omega) _, (h.box.grown hg (fun e => by have := (hlt _ e).1; omega)).grown hg2 (fun e => by have := Option.some.inj e; omega), (h.res.grown hg (fun e => by have := (hlt _ e).1; omega)).grown hg2 (fun e => by have := Option.some.inj e; omega), hk5.set 1 v', ?_, ho5.kept hg2 (.inr (fun e => ?_)), (h.els.grown hg h.av).keep hkp2, ?_, fun g e => ?_, h.hk, h.hc, h.hkc⟩
  · obtain ⟨s, r, hc⟩ := h.chan
    have hc5 := (hg.block c h.clt (Ne.symm h.vn_ne_chan)).trans hc
    exact ⟨s, r, (hg2.block c (Array.getElem?_eq_some_iff.1 hc5).1 (fun e => h.hkc (Option.some.inj e).symm)).trans hc5⟩
  · exact h.vf_ne_ker e
  · exact HasRows.keep ho hkp2
  · rcases hb' g e with h1 | h1
    · exact h.av g h1
    · exact Avoid.new h.els h1
end
end Kern
end Go.Proofs.Ytgbgcaaekpgapac
/- Contracts of the laws' markSequenceS and heldSequenceS over a slice of sequences of the call's own. No conditions beyond those that each states. -/
namespace Go.Proofs.Ytgbgcaaekpgapac
open Go.ChangeShapes Go.WideShapes Go.ChangeAt Go.RowKit
open Go.PlainAid Plain
set_option linter.unusedVariables false
namespace Kern
open Seqs Mins
/-- How many marks a sequence takes, and all of them. -/
def szQ (s : Sq) : Nat := 1 + tot s.r + s.o.length
def totQ (L : List Sq) : Nat := (L.map szQ).sum
theorem totQ_append (A B : List Sq) : totQ (A ++ B) = totQ A + totQ B := by simp only [totQ, List.map_append, List.sum_append]
theorem totQ_take (L : List Sq) (i : Nat) (s : Sq) (h : L[i]? = some s) : totQ (L.take (i + 1)) = totQ (L.take i) + szQ s := by
  obtain ⟨h1, rfl⟩ := List.getElem?_eq_some_iff.1 h
  rw [List.take_succ_eq_append_getElem h1, totQ_append]
  simp [totQ]
theorem totQ_le (L : List Sq) (i : Nat) : totQ (L.take i) ≤ totQ L := by
  have h := congrArg totQ (List.take_append_drop i L)
  rw [totQ_append] at h
  omega
/-- A sequence with its marks from k on. -/
def markSq (k : Int) (s : Sq) : Sq := ⟨k, markedR (k + 1) s.r, Ints.marks (k + 1 + tot s.r) s.o.length⟩
def markedQ (k : Int) (L : List Sq) : List Sq := L.mapIdx fun j s => markSq (k + totQ (L.take j)) s
theorem markedQ_at (k : Int) (L : List Sq) (j : Nat) (s : Sq) (h : L[j]? = some s) : (markedQ k L)[j]? = some (markSq (k + totQ (L.take j)) s) := by simp [markedQ, h]
theorem markedQ_len (k : Int) (L : List Sq) : (markedQ k L).length = L.length := by simp [markedQ]
/-- A slice of sequences of the call's own, all in one interval of blocks. -/
def QS (w : World) (lo hi : Nat) (v : Value) (L : List Sq) : Prop := ∃ E : List El, OwnQ w lo v (E.map El.q) ∧ (∀ k, v.ownBlock = some k → k < hi) ∧ Elems w lo E ∧ (∀ e ∈ E, e.d ≤ hi) ∧ hi ≤ w.heap.size ∧ E.map El.s = L
theorem QS.lies {w : World} {lo hi : Nat} {v : Value} {L : List Sq} (h : QS w lo hi v L) : ∃ lo hi, QS w lo hi v L := ⟨lo, hi, h⟩
theorem QS.below {w w' : World} {lo hi : Nat} {v : Value} {L : List Sq} (h : QS w lo hi v L) (hb : Below w.heap.size w w') : QS w' lo hi v L := by
  obtain ⟨E, h1, h2, h3, h4, h5, h6⟩ := h
  exact ⟨E, h1.below hb, h2, h3.below hb, h4, Nat.le_trans h5 hb.size, h6⟩
theorem QS.touch {w w' : World} {lo hi lo' hi' : Nat} {v : Value} {L : List Sq} (h : QS w lo hi v L) (ht : Plain.Touch lo' hi' w w') (hd : hi ≤ lo' ∨ hi' ≤ lo) : QS w' lo hi v L := by
  obtain ⟨E, h1, h2, h3, h4, h5, h6⟩ := h
  refine ⟨E, ?_, h2, ⟨fun e he => (h3.own e he).touch ht ?_, h3.lo, h3.pw⟩, h4, Nat.le_trans h5 ht.size, h6⟩
  · refine ⟨h1.1, ?_⟩
    rcases h1.2 with h7 | ⟨g, cap, cur, hv, hg, hc, r⟩
    · exact .inl h7
    · refine .inr ⟨g, cap, cur, hv, hg, ?_, r⟩
      have hgh := h2 g (by rw [hv]; rfl)
      rw [← hc]
      exact ht.block g (by omega) (by omega)
  · have := h4 e he
    have := (h3.lo e he).1
    omega
theorem QS.form {w : World} {lo hi : Nat} {v : Value} {L : List Sq} (h : QS w lo hi v L) : ∃ a c, v = .slice a L.length c := by
  obtain ⟨E, h1, _, _, _, _, h6⟩ := h
  obtain ⟨a, c, hv, _⟩ := h1.form
  exact ⟨a, c, by rw [hv, ← h6, List.length_map, List.length_map]⟩
def GivesQ (L : List Sq) (k : Bool) (w : World) (en : Ending) (w' : World) : Prop := ∃ v, en = .returned (.tuple #[v, .bool k]) ∧ QS w' w.heap.size w'.heap.size v L ∧ Below w.heap.size w w'
theorem gives_q {L : List Sq} {k : Bool} {w : World} {en : Ending} {w' : World} (h : GivesKer L k w en w') : GivesQ L k w en w' := by
  obtain ⟨v, E, he, h1, h2, h3, h4⟩ := h
  exact ⟨v, he, ⟨E, h1, fun k hk => (h1.lt k hk).2, h2, fun e hm => (h2.own e hm).le, Nat.le_refl _, h3⟩, h4⟩
theorem eqQS (u v : Value) (L : List Sq) (w : World) (h1 : ∃ lo hi, QS w lo hi u L) (h2 : ∃ lo hi, QS w lo hi v L) :
    Calls Try.prog 9 #[u, v] w fun e w' => e = .returned (.bool true) ∧ Below w.heap.size w w' := by
  obtain ⟨lo, hi, E, a1, _, a3, _, _, a6⟩ := h1
  obtain ⟨lo', hi', F, b1, _, b3, _, _, b6⟩ := h2
  exact eqQ u v E F lo lo' lo lo' w a1 b1 a3 b3 (a6.trans b6.symm)
theorem flat_set : ∀ (L : List QV) (i : Nat) (q : QV) (x : Int), L[i]? = some q → (flatQ L).set (i * 3) (.int .i64 x) = flatQ (L.set i (x, q.2.1, q.2.2))
  | [], i, q, x, h => by simp at h
  | p :: L, 0, q, x, h => by
    obtain rfl := Option.some.inj h
    rfl
  | p :: L, i + 1, q, x, h => by
    have ih := flat_set L i q x h
    rw [show (i + 1) * 3 = i * 3 + 3 from by omega]
    show (Value.int .i64 p.1 :: p.2.1 :: p.2.2 :: flatQ L).set (i * 3 + 3) _ = _
    rw [List.set_cons_succ, List.set_cons_succ, List.set_cons_succ, ih]
    rfl
/-- A base is written. -/
theorem OwnQ.write {w : World} {base g c i : Nat} {q : QV} {L : List QV} (h : OwnQ w base (.slice (some ⟨g, 0, none⟩) L.length c) L) (hq : L[i]? = some q) (x : Int) :
    OwnQ (w.setCell ⟨g, i * 3, none⟩ (.int .i64 x)) base (.slice (some ⟨g, 0, none⟩) L.length c) (L.set i (x, q.2.1, q.2.2)) ∧ w.grownBy (w.setCell ⟨g, i * 3, none⟩ (.int .i64 x)) (some g) ∧ w.frozen? ⟨g, i * 3, none⟩ = false := by
  have h1 : w.ownsRow base 30 3 (.slice (some ⟨g, 0, none⟩) L.length c) L.length (flatQ L) := h
  have h2 := h1.stored (i * 3) (.int .i64 x)
  refine ⟨?_, h2.2, h1.frozenAt (i * 3)⟩
  show World.ownsRow _ _ _ _ _ _ _
  rw [List.length_set, ← flat_set L i q x hq]
  exact h2.1
/-- What marking rows and terms makes of a sequence. -/
theorem marked_own {w W1 W2 : World} {lo hi : Nat} {b k m : Int} {vn vo : Value} {us : List Value} {rows : List (List Int)} {out : List Int} (hn : OwnR w lo hi vn us rows) (ho : OwnRows w lo hi (us ++ [vo]) (rows ++ [out]))
    (hr : OwnRows W1 lo hi us (markedR k rows)) (hw : Wrote us w W1) (hh : Has (Value.int .i64) 3 W2 lo vo (Ints.marks m out.length)) (hg : W1.grownBy W2 vo.ownBlock) :
    OwnS W2 lo hi (.agg #[.int .i64 b, vn, vo]) b (markedR k rows) (Ints.marks m out.length) ∧ Plain.Touch lo hi w W2 := by
  have hlen : us.length = rows.length := hn.rows.len
  have HAP := ho.apart
  have hin : ∀ x ∈ us, ∃ y, OwnI w lo hi x y := fun x hx => by
    obtain ⟨j, hj⟩ := List.getElem?_of_mem hx
    obtain ⟨y, hy⟩ : ∃ y, rows[j]? = some y := ⟨_, List.getElem?_eq_getElem (by rw [← hlen]; exact (List.getElem?_eq_some_iff.1 hj).1)⟩
    exact ⟨y, hn.rows.row j x y hj hy⟩
  have hL1 : OwnI W1 lo hi vo out := ho.last.wrote hw (fun x hx => by
    obtain ⟨j, hj⟩ := List.getElem?_of_mem hx
    have hjl := (List.getElem?_eq_some_iff.1 hj).1
    exact HAP us.length j vo x (by simp) (by rw [List.getElem?_append_left hjl]; exact hj) (by omega))
  have hT1 : Has id 23 W1 lo vn us := hn.top.of_same fun k hk => hw.block k (hn.top.lt k hk).2 fun x hx e => by
    obtain ⟨y, hy⟩ := hin x hx
    rcases hn.top.ne_top hy.has with h2 | h2
    · rw [h2] at hk; cases hk
    · exact h2 (hk.trans e.symm)
  have hO : OwnI W2 lo hi vo (Ints.marks m out.length) := ⟨hh, hL1.lt, Nat.le_trans hL1.le hg.size⟩
  have hR : OwnRows W2 lo hi us (markedR k rows) := ⟨hr.len, fun j x r hj hr' => (hr.row j x r hj hr').wrote (Wrote.of_grown hg) (fun y hy => by
    obtain rfl : y = vo := by simpa using hy
    have hjl := (List.getElem?_eq_some_iff.1 hj).1
    exact HAP j us.length x y (by rw [List.getElem?_append_left hjl]; exact hj) (by simp) (by omega)), hr.apart⟩
  have hT : Has id 23 W2 lo vn us := hT1.of_same fun k hk => hg.block k (hT1.lt k hk).2 fun e => by
    rcases hT1.ne_top hL1.has with h2 | h2
    · rw [h2] at hk; cases hk
    · exact h2 (hk.trans e)
  refine ⟨⟨vn, vo, us, rfl, ⟨hT, hn.lt, hO.le, hR⟩, ⟨by simp [markedR_len, hlen], fun j x r hj hr' => ?_, HAP⟩⟩, ?_⟩
  · by_cases hjl : j < us.length
    · rw [List.getElem?_append_left hjl] at hj
      rw [List.getElem?_append_left (by rw [markedR_len]; omega)] at hr'
      exact hR.row j x r hj hr'
    · have e1 : j = us.length := by have := (List.getElem?_eq_some_iff.1 hj).1; simp at this; omega
      subst e1
      rw [List.getElem?_append_right (Nat.le_refl _)] at hj
      rw [hlen, ← markedR_len k rows, List.getElem?_append_right (Nat.le_refl _)] at hr'
      simp at hj hr'
      subst hj; subst hr'
      exact hO
  · have t1 : Plain.Touch lo hi w W1 := Touch.of_wrote hw fun x hx q hq => by
      obtain ⟨y, hy⟩ := hin x hx
      exact hy.range q hq
    have t2 : Plain.Touch lo hi W1 W2 := Touch.of_wrote (Wrote.of_grown hg) fun x hx q hq => by
      obtain rfl : x = vo := by simpa using hx
      exact hL1.range q hq
    exact t1.trans t2
/-- One sequence is marked, the others lie in other blocks. -/
theorem Elems.mark {w w' : World} {lo i : Nat} {E : List El} {e : El} (h : Elems w lo E) (he : E[i]? = some e) (q : QV) (s : Sq) (ho : OwnS w' e.c e.d (encQ q) s.b s.r s.o) (ht : Plain.Touch e.c e.d w w') : Elems w' lo (E.set i ⟨q, s, e.c, e.d⟩) := by
  have hi := (List.getElem?_eq_some_iff.1 he).1
  have hat : ∀ (j : Nat) (x : El), (E.set i ⟨q, s, e.c, e.d⟩)[j]? = some x → (j = i ∧ x = ⟨q, s, e.c, e.d⟩) ∨ (j ≠ i ∧ E[j]? = some x) := fun j x hx => by
    by_cases hj : j = i
    · subst hj
      rw [List.getElem?_set_self hi] at hx
      exact .inl ⟨rfl, (Option.some.inj hx).symm⟩
    · rw [List.getElem?_set_ne (Ne.symm hj)] at hx
      exact .inr ⟨hj, hx⟩
  have pw : ∀ (j k : Nat) (x y : El), j < k → E[j]? = some x → E[k]? = some y → x.d ≤ y.c := fun j k x y hjk hx hy => by
    obtain ⟨h1, rfl⟩ := List.getElem?_eq_some_iff.1 hx
    obtain ⟨h2, rfl⟩ := List.getElem?_eq_some_iff.1 hy
    exact List.pairwise_iff_getElem.1 h.pw j k h1 h2 hjk
  refine ⟨fun x hx => ?_, fun x hx => ?_, ?_⟩
  · obtain ⟨j, hj⟩ := List.getElem?_of_mem hx
    rcases hat j x hj with ⟨_, rfl⟩ | ⟨hne, hxj⟩
    · exact ho
    · refine (h.own x (List.mem_of_getElem? hxj)).touch ht ?_
      rcases Nat.lt_or_gt_of_ne hne with hl | hl
      · exact .inl (pw j i x e hl hxj he)
      · exact .inr (pw i j e x hl he hxj)
  · obtain ⟨j, hj⟩ := List.getElem?_of_mem hx
    rcases hat j x hj with ⟨_, rfl⟩ | ⟨hne, hxj⟩
    · exact h.lo e (List.mem_of_getElem? he)
    · exact h.lo x (List.mem_of_getElem? hxj)
  · rw [List.pairwise_iff_getElem]
    intro j k hj hk hjk
    have e1 := hat j _ (List.getElem?_eq_getElem hj)
    have e2 := hat k _ (List.getElem?_eq_getElem hk)
    rcases e1 with ⟨rfl, e1⟩ | ⟨_, e1⟩
    · rcases e2 with ⟨rfl, e2⟩ | ⟨_, e2⟩
      · omega
      · rw [e1]; exact pw j k e _ hjk he e2
    · rcases e2 with ⟨rfl, e2⟩ | ⟨_, e2⟩
      · rw [e2]; exact pw j k _ e hjk e1 he
      · exact pw j k _ _ hjk e1 e2
theorem take_set {α : Type} {A B : List α} {i : Nat} {x : α} (h : A.length = B.length) (hx : A[i]? = some x) : (A.take i ++ B.drop i).set i x = A.take (i + 1) ++ B.drop (i + 1) := by
  obtain ⟨h1, rfl⟩ := List.getElem?_eq_some_iff.1 hx
  rw [List.drop_eq_getElem_cons (by omega), List.take_succ_eq_append_getElem h1, List.append_assoc]
  exact set_mid _ _ _ _ i (by rw [List.length_take]; omega)
/-- Slices of sequences that are the call's own share no block with slices of ints that are. -/
theorem OwnQ.wrote {w w' : World} {base lo hi : Nat} {v : Value} {L : List QV} {us : List Value} (h : OwnQ w base v L) (hu : ∀ x ∈ us, ∃ r, OwnI w lo hi x r) (hw : Wrote us w w') : OwnQ w' base v L := by
  refine ⟨h.1, ?_⟩
  rcases h.2 with h7 | ⟨g, cap, cur, hv, hg, hc, r⟩
  · exact .inl h7
  · refine .inr ⟨g, cap, cur, hv, hg, ?_, r⟩
    rw [← hc]
    refine hw.block g (Array.getElem?_eq_some_iff.1 hc).1 fun x hx e => ?_
    obtain ⟨y, hy⟩ := hu x hx
    rcases hy.has.2 with ⟨rfl, _⟩ | ⟨g', cap', cur', hv', _, hc', _⟩
    · cases e
    · rw [hv'] at e
      have e2 : g' = g := by simpa [Value.ownBlock] using e
      subst e2
      rw [hc] at hc'
      have := (Obj.cells.inj (Option.some.inj hc')).2.1
      exact absurd this (by decide)
theorem touch_mono {lo hi lo' hi' : Nat} {w w' : World} (h : Plain.Touch lo' hi' w w') (h1 : lo ≤ lo') (h2 : hi' ≤ hi) : Plain.Touch lo hi w w' := ⟨h.os, h.tape, h.output, h.size, fun k hk hn => h.block k hk (by omega)⟩
theorem last_wrote {w W1 : World} {lo hi : Nat} {vo : Value} {us : List Value} {rows : List (List Int)} {out : List Int} (hl : us.length = rows.length) (ho : OwnRows w lo hi (us ++ [vo]) (rows ++ [out])) (hw : Wrote us w W1) : OwnI W1 lo hi vo out :=
  ho.last.wrote hw (fun x hx => by
    obtain ⟨j, hj⟩ := List.getElem?_of_mem hx
    have hjl := (List.getElem?_eq_some_iff.1 hj).1
    exact ho.apart us.length j vo x (by simp) (by rw [List.getElem?_append_left hjl]; exact hj) (by omega))
theorem encQ_parts {q : QV} {b : Int} {vn vo : Value} (h : encQ q = .agg #[.int .i64 b, vn, vo]) : q.2.1 = vn ∧ q.2.2 = vo := by
  obtain ⟨x, y, z⟩ := q
  simp only [encQ, Value.agg.injEq, Array.mk.injEq, List.cons.injEq, and_true, Value.int.injEq, true_and] at h
  exact h.2
set_option maxHeartbeats 2000000 in
theorem markQk (v : Value) (L : List Sq) (w : World) (lo hi : Nat) (k : Int) (h : QS w lo hi v L) (h0 : 0 ≤ k) (h1 : k + totQ L ≤ 9223372036854775807) :
    Calls Try.prog 12 #[v, .int .i64 k] w fun e w' => e = .returned (.int .i64 (k + totQ L)) ∧ QS w' lo hi v (markedQ k L) ∧ Plain.Touch lo hi w w' := by
  obtain ⟨a, c, rfl⟩ := h.form
  obtain ⟨E0, a1, a2, a3, a4, a5, a6⟩ := h
  have hln : E0.length = L.length := by rw [← a6, List.length_map]
  have hsm : L.length ≤ 9223372036854775807 := by have := a1.small; rw [List.length_map] at this; omega
  have HO := Lib.hid a1
  have HE := Lib.hid a3
  have HD : Hid ((∀ k, Value.ownBlock (.slice a L.length c) = some k → k < hi) ∧ hi ≤ w.heap.size) := ⟨a2, a5⟩
  have HDE := Lib.hid a4
  have HS : Hid (E0.map El.s = (markedQ k L).take 0 ++ L.drop 0) := by show _ = _; simpa using a6
  have HML := Lib.hid (markedQ_len k L)
  clear a1 a3 a2 a4 a5 a6 hln
  go_enter Try.func12, Try.ntmps12
  go_wp2
  go_loopw [1, 5] (fun k' i' wr => ∃ (i : Nat) (m : Int) (E : List El), i ≤ L.length ∧ k' = .int .i64 m ∧ Hid (m = k + totQ (L.take i)) ∧ 0 ≤ m ∧ i' = .int .i64 i ∧ Hid (OwnQ wr lo (.slice a L.length c) (E.map El.q)) ∧ Hid (Elems wr lo E) ∧ Hid (∀ e ∈ E, e.d ≤ hi) ∧ Hid (E.map El.s = (markedQ k L).take i ++ L.drop i) ∧ Hid (Plain.Touch lo hi w wr)) (fun _ i' _ => L.length - (intOf i').toNat)
  case atStart => exact ⟨0, k, E0, Nat.zero_le _, rfl, (by show k = k + totQ []; simp [totQ]), h0, rfl, HO, HE, HDE, HS, ⟨rfl, rfl, rfl, Nat.le_refl _, fun _ _ _ => rfl⟩⟩
  case round =>
    obtain ⟨i, m, E, hile, rfl, hm, hm0, rfl, HO, HE, HDE, HS, HT⟩ := hrel
    by_cases hlt : i < L.length
    · obtain ⟨s, hs⟩ : ∃ s, L[i]? = some s := ⟨_, List.getElem?_eq_getElem hlt⟩
      have hEl : E.length = L.length := by
        have := congrArg List.length HS.out
        rw [List.length_map, List.length_append, List.length_take, List.length_drop, HML.out] at this
        omega
      obtain ⟨e, he⟩ : ∃ e, E[i]? = some e := ⟨_, List.getElem?_eq_getElem (by omega)⟩
      have hes : e.s = s := by
        have h2 : (E.map El.s)[i]? = some e.s := by rw [List.getElem?_map, he]; rfl
        rw [HS.out, List.getElem?_append_right (by rw [List.length_take, HML.out]; omega), List.length_take, HML.out, List.getElem?_drop, show i + (i - min i L.length) = i from by omega, hs] at h2
        exact (Option.some.inj h2).symm
      have hEq : (E.map El.q)[i]? = some e.q := by rw [List.getElem?_map, he]; rfl
      have HSN : Hid (∀ q : QV, (E.set i ⟨q, markSq m s, e.c, e.d⟩).map El.s = (markedQ k L).take (i + 1) ++ L.drop (i + 1)) := fun q => by
        have hmk := markedQ_at k L i s hs
        rw [← hm.out] at hmk
        rw [List.map_set, HS.out]
        exact take_set HML.out hmk
      have HTK := Lib.hid (totQ_take L i s hs)
      have htl := totQ_le L (i + 1)
      have hmb : m + szQ s ≤ 9223372036854775807 := by have := HTK.out; have := hm.out; omega
      have HSZ : Hid (szQ s = 1 + tot s.r + s.o.length) := rfl
      obtain ⟨a', c', hv', hag⟩ := HO.out.form
      have hml : (E.map El.q).length = L.length := by rw [List.length_map]; exact hEl
      obtain ⟨g, hga, hg1, hg2⟩ : ∃ g, a = some ⟨g, 0, none⟩ ∧ lo ≤ g ∧ g < wr.heap.size ∧ ∃ cur, wr.heap[g]? = some (.cells cur 30 (0, 0)) := by
        have h7 := hag (by omega)
        injection hv' with e1 e2 e3
        rw [← e1] at h7
        exact h7
      subst hga
      have HOW : Hid (OwnQ wr lo (.slice (some ⟨g, 0, none⟩) (E.map El.q).length c) (E.map El.q)) := by rw [hml]; exact HO
      obtain ⟨p0, p1, p2⟩ := HOW.out.cells hEq
      obtain ⟨ho1, hgr, hfr⟩ := HOW.out.write hEq m
      have hgl : g < hi := HD.out.1 g rfl
      have HGC := Lib.hid hg2
      subst hes
      have HMB := Lib.hid hmb
      have HEI := Lib.hid he
      have HHM := Lib.hid hm.out
      have hm1 : m ≤ 9223372036854775806 := by have := HSZ.out; omega
      have HIN := Lib.hid hEq
      have hkeep : KeepsIR wr (wr.setCell ⟨g, i * 3, none⟩ (.int .i64 m)) := KeepsIR.of_grown hgr (fun cur e fr hc => by
        obtain ⟨_, cur', hc'⟩ := hg2
        rw [hc] at hc'
        have := (Obj.cells.inj (Option.some.inj hc')).2.1
        subst this
        decide)
      have HE1 := Lib.hid (HE.out.keep hkeep)
      have HO1 := Lib.hid ho1
      have HT1 : Hid (Plain.Touch lo hi w (wr.setCell ⟨g, i * 3, none⟩ (.int .i64 m))) := HT.out.trans (Touch.of_set (a := ⟨g, i * 3, none⟩) _ hg1 hgl)
      clear hs htl hmb ho1 hgr hkeep hEq p1 p2 hag hv'
      go_upto_region 5 with (fail)
      obtain ⟨W1, hW1⟩ : ∃ W, W = wr.setCell ⟨g, i * 3, none⟩ (.int .i64 m) := ⟨_, rfl⟩
      rw [← hW1] at HE1 HO1 HT1 ⊢
      clear hW1 p0 hfr
      obtain ⟨vn, vo, us, hqe, hn, hoo⟩ := HE1.out.own e (List.mem_of_getElem? HEI.out)
      obtain ⟨hq1, hq2⟩ := encQ_parts hqe
      have hset : ((E.map El.q).set i (m, e.q.2.1, e.q.2.2))[i]? = some (m, vn, vo) := by
        rw [List.getElem?_set_self (List.getElem?_eq_some_iff.1 HIN.out).1, hq1, hq2]
      rw [hq1, hq2] at HO1
      have HO1' : Hid (OwnQ W1 lo (.slice (some ⟨g, 0, none⟩) ((E.map El.q).set i (m, vn, vo)).length c) ((E.map El.q).set i (m, vn, vo))) := by
        rw [List.length_set]
        exact HO1
      rw [hq1, hq2] at hset
      have q1 := (HO1'.out.cells hset).2.1
      have HNN := Lib.hid hn
      have HOO := Lib.hid hoo
      have HSET := Lib.hid hset
      have hul := hn.rows.len
      have HIU : Hid (∀ x ∈ us, ∃ r, OwnI W1 e.c e.d x r) := fun x hx => by
        obtain ⟨j, hj⟩ := List.getElem?_of_mem hx
        obtain ⟨y, hy⟩ : ∃ y, e.s.r[j]? = some y := ⟨_, List.getElem?_eq_getElem (by rw [← HNN.out.rows.len]; exact (List.getElem?_eq_some_iff.1 hj).1)⟩
        exact ⟨y, HNN.out.rows.row j x y hj hy⟩
      have HUL := Lib.hid hul
      have HCD := Lib.hid (HE1.out.lo e (List.mem_of_getElem? HEI.out))
      have HCD2 := Lib.hid (HDE.out e (List.mem_of_getElem? HEI.out))
      have hb1 : m + 1 + tot e.s.r ≤ 9223372036854775807 := by have := HSZ.out; have := HMB.out; omega
      have hb2 : m + 1 + tot e.s.r + e.s.o.length ≤ 9223372036854775807 := by have := HSZ.out; have := HMB.out; omega
      clear hqe hn hoo hset hul HO1
      go_wp2_with fail
      refine (markR vn us e.s.r W1 e.c e.d (m + 1) HNN.out (by omega) hb1).mono ?_
      rintro e' W2 ⟨rfl, hr, hw⟩
      have HO2 := Lib.hid (HO1'.out.wrote HIU.out hw)
      have HL2 := Lib.hid (last_wrote HUL.out HOO.out hw)
      have q2 := (HO2.out.cells HSET.out).2.2
      have HR := Lib.hid hr
      have HW := Lib.hid hw
      clear hr hw q1
      go_wp2_with fail
      refine (Ints.mark vo e.s.o W2 e.c (m + 1 + tot e.s.r) HL2.out.has (by omega) hb2).mono ?_
      rintro e'' W3 ⟨rfl, hh, hg⟩
      have hM := marked_own (b := m) HNN.out HOO.out HR.out HW.out hh hg
      have HO3 := Lib.hid (HO2.out.wrote (us := [vo]) (fun x hx => ⟨e.s.o, by have := List.mem_singleton.1 hx; subst this; exact HL2.out⟩) (Wrote.of_grown hg))
      have HE3 : Hid (Elems W3 lo (E.set i ⟨(m, vn, vo), markSq m e.s, e.c, e.d⟩)) := HE1.out.mark HEI.out (m, vn, vo) (markSq m e.s) hM.1 hM.2
      have HT3 := Lib.hid (HT1.out.trans (touch_mono hM.2 HCD.out.1 HCD2.out))
      have HD3 : Hid (∀ x ∈ E.set i ⟨(m, vn, vo), markSq m e.s, e.c, e.d⟩, x.d ≤ hi) := fun x hx => by
        rcases List.mem_or_eq_of_mem_set hx with h | rfl
        · exact HDE.out x h
        · exact HCD2.out
      have HQ3 : Hid (OwnQ W3 lo (.slice (some ⟨g, 0, none⟩) L.length c) ((E.set i ⟨(m, vn, vo), markSq m e.s, e.c, e.d⟩).map El.q)) := by
        have h := HO3.out
        rw [List.length_set, hml] at h
        rw [List.map_set]
        exact h
      have HS3 := Lib.hid (HSN.out (m, vn, vo))
      clear hh hg hM q2 hml hEl
      go_wp2
      go_roundw
      case rel => exact ⟨i + 1, m + 1 + tot e.s.r + e.s.o.length, _, by omega, rfl, (by show m + 1 + (tot e.s.r : Int) + (e.s.o.length : Int) = k + totQ (L.take (i + 1)); have := HTK.out; have := HHM.out; have := HSZ.out; omega), by omega, by go_num, HQ3, HE3, HD3, HS3, HT3⟩
      case measure => simp [intOf] <;> omega
    · have hE : m = k + totQ L := by
        have := hm.out
        rw [List.take_of_length_le (by omega)] at this
        exact this
      have HR := Lib.hid hE
      have HSE : Hid (E.map El.s = markedQ k L) := by
        have h := HS.out
        rw [List.take_of_length_le (by rw [HML.out]; omega), List.drop_of_length_le (by omega), List.append_nil] at h
        exact h
      clear hE
      go_wp2
      go_ret
      exact ⟨congrArg (fun x : Int => Ending.returned (.int .i64 x)) HR.out, ⟨E, HO.out, HD.out.1, HE.out, HDE.out, Nat.le_trans HD.out.2 HT.out.size, HSE.out⟩, HT.out⟩
theorem markQ (v : Value) (L : List Sq) (T : Nat) (w : World) (lo hi : Nat) (hT : T = totQ L) (h : QS w lo hi v L) (h1 : T ≤ 4194304) :
    Calls Try.prog 12 #[v, .int .i64 1] w fun e w' => e = .returned (.int .i64 (1 + T)) ∧ QS w' lo hi v (markedQ 1 L) ∧ Plain.Touch lo hi w w' := by
  subst hT
  exact markQk v L w lo hi 1 h (by omega) (by omega)
set_option maxHeartbeats 2000000 in
theorem heldQk (v : Value) (L : List Sq) (w : World) (k : Int) (h : ∃ lo hi, QS w lo hi v (markedQ k L)) (h0 : 0 ≤ k) (h1 : k + totQ L ≤ 9223372036854775807) :
    Calls Try.prog 13 #[v, .int .i64 k] w fun e w' => e = .returned (.int .i64 (k + totQ L)) ∧ w = w' := by
  obtain ⟨lo, hi, h⟩ := h
  obtain ⟨a, c, rfl⟩ := h.form
  obtain ⟨E, a1, _, a3, _, _, a6⟩ := h
  have hml := markedQ_len k L
  have hln : E.length = L.length := by rw [← hml, ← a6, List.length_map]
  have hsm : L.length ≤ 9223372036854775807 := by have := a1.small; rw [List.length_map] at this; omega
  rw [hml] at a1 ⊢
  have HO := Lib.hid a1
  have HE := Lib.hid a3
  have HS := Lib.hid a6
  have HLN := Lib.hid hln
  clear a1 a3 a6 hln hml
  go_enter Try.func13, Try.ntmps13
  go_wp2
  go_loop [1, 5] (fun k' i' => ∃ (i : Nat) (m : Int), i ≤ L.length ∧ k' = .int .i64 m ∧ Hid (m = k + totQ (L.take i)) ∧ 0 ≤ m ∧ i' = .int .i64 i) (fun _ i' => L.length - (intOf i').toNat)
  case atStart => exact ⟨0, k, Nat.zero_le _, rfl, (by show k = k + totQ []; simp [totQ]), h0, rfl⟩
  case round =>
    obtain ⟨i, m, hile, rfl, hm, hm0, rfl⟩ := hrel
    by_cases hlt : i < L.length
    · obtain ⟨s, hs⟩ : ∃ s, L[i]? = some s := ⟨_, List.getElem?_eq_getElem hlt⟩
      have hmk := markedQ_at k L i s hs
      rw [← hm.out, ← HS.out] at hmk
      obtain ⟨g, c', a1, c1, a2, c2, hv, p0, p1, p2, hls⟩ := elem_at HO.out HE.out hmk
      injection hv with hv1 hv2 hv3
      subst hv1; subst hv3
      clear hv2
      have HTK := Lib.hid (totQ_take L i s hs)
      have htl := totQ_le L (i + 1)
      have hmb : m + szQ s ≤ 9223372036854775807 := by have := HTK.out; have := hm.out; omega
      have HSZ : Hid (szQ s = 1 + tot s.r + s.o.length) := rfl
      obtain ⟨vn, vo, he, hl1, hl2⟩ := hls
      simp only [Value.agg.injEq, Array.mk.injEq, List.cons.injEq, and_true, true_and] at he
      obtain ⟨rfl, rfl⟩ := he
      have HL1 := Lib.hid hl1
      have HL2 := Lib.hid hl2
      have hb1 : m + 1 + tot s.r ≤ 9223372036854775807 := by have := HSZ.out; omega
      have hb2 : m + 1 + tot s.r + s.o.length ≤ 9223372036854775807 := by have := HSZ.out; omega
      have hd1 := decide_eq_false (show ¬ m + 1 + (tot s.r : Int) < 0 by omega)
      have hd2 := decide_eq_false (show ¬ m + 1 + (tot s.r : Int) + (s.o.length : Int) < 0 by omega)
      have hdm : (m != m) = false := by simp
      clear hs hmk hl1 hl2 htl hmb
      dsimp only [markSq] at p0 p1 p2
      go_wp2_with fail
      refine (heldR _ s.r _ (m + 1) HL1.out (by omega) hb1).mono ?_
      rintro e W1 ⟨rfl, rfl⟩
      go_wp2_with fail
      refine (Ints.held _ s.o.length _ (m + 1 + tot s.r) HL2.out (by omega) hb2).mono ?_
      rintro e W1 ⟨rfl, rfl⟩
      go_wp2
      go_round
      case rel => exact ⟨i + 1, m + 1 + tot s.r + s.o.length, by omega, rfl, (by show m + 1 + (tot s.r : Int) + (s.o.length : Int) = k + totQ (L.take (i + 1)); have := HTK.out; have := hm.out; have := HSZ.out; omega), by omega, by go_num⟩
      case measure => simp [intOf] <;> omega
    · have HE : Hid (m = k + totQ L) := by
        have := hm.out
        rw [List.take_of_length_le (by omega)] at this
        exact this
      go_wp2
      go_ret
      exact ⟨congrArg (fun x : Int => Ending.returned (.int .i64 x)) HE.out, rfl⟩
theorem heldQ (v : Value) (L : List Sq) (T : Nat) (w : World) (hT : T = totQ L) (h : ∃ lo hi, QS w lo hi v (markedQ 1 L)) (h1 : T ≤ 4194304) :
    Calls Try.prog 13 #[v, .int .i64 1] w fun e w' => e = .returned (.int .i64 (1 + T)) ∧ w = w' := by
  subst hT
  exact heldQk v L w 1 h (by omega) (by omega)
end Kern
end Go.Proofs.Ytgbgcaaekpgapac
