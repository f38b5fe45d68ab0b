/- Contract of the model's IsGrowing. No conditions beyond those that each states. -/
import Derived.Test.YtejbonnkgejngaaAddI
import Derived.Deep.RegionHeld3
namespace Go.Proofs.Ytejbonnkgejngaa
open Go.ChangeShapes Go.WideShapes Go.ChangeAt Go.RowKit
open Go.PlainAid Plain
set_option linter.unusedVariables false
namespace Mor
open Seqs
/-- Does the list hold the number? -/
def inM (x : Int) (xs : List Int) : Bool := decide (x ∈ xs)
theorem inM_yes {x : Int} {xs : List Int} (h : x ∈ xs) : inM x xs = true := decide_eq_true h
theorem inM_no {x : Int} {xs : List Int} (h : x ∉ xs) : inM x xs = false := decide_eq_false h
theorem inM_at {x y : Int} {xs : List Int} {k : Nat} (h : xs[k]? = some y) (e : y = x) : inM x xs = true := inM_yes (e ▸ List.mem_of_getElem? h)
theorem inM_none {x : Int} {xs : List Int} (h : ∀ (j : Nat) (y : Int), xs[j]? = some y → ¬ y = x) : inM x xs = false := inM_no fun hm => by
  obtain ⟨j, hj⟩ := List.getElem?_of_mem hm
  exact h j x hj rfl
theorem spec_hasM (v : Value) (xs : List Int) (x : Int) (w : World) (h : Lies (Value.int .i64) w v xs) (c : Bool) (hc : inM x xs = c) :
    Calls Try.prog 41 #[v, .int .i64 x] w fun e w' => e = .returned (.bool c) ∧ w' = w := by
  obtain ⟨hl, a, ca, rfl, _, hca⟩ := h
  have HA := Lib.hid hca
  have HC := Lib.hid hc
  clear hca hc
  go_enter Try.func41, Try.ntmps41
  go_wp2
  go_loop [5] (fun i' => ∃ k : Nat, k ≤ xs.length ∧ i' = .int .i64 k ∧ Hid (∀ (j : Nat) (y : Int), j < k → xs[j]? = some y → ¬ y = x)) (fun i' => xs.length - (intOf i').toNat)
  case atStart => exact ⟨0, Nat.zero_le _, rfl, fun j y h => by omega⟩
  case round =>
    obtain ⟨k, hk, rfl, HI⟩ := hrel
    by_cases hlt : k < xs.length
    · obtain ⟨y, hy⟩ : ∃ y, xs[k]? = some y := ⟨_, List.getElem?_eq_getElem hlt⟩
      obtain ⟨p, o, rfl, hcl⟩ := HA.out k y hy
      have HY := Lib.hid hy
      clear hy
      by_cases he : y = x
      · have hd : (y == x) = true := by simpa using he
        have HE := Lib.hid (HC.out.symm.trans (inM_at HY.out he))
        clear he
        go_wp2
        go_ret
        exact ⟨ret_b HE.out.symm, rfl⟩
      · have hd : (y == x) = false := by simpa using he
        have HN : Hid (∀ (j : Nat) (z : Int), j < k + 1 → xs[j]? = some z → ¬ z = x) := fun j z hj hz => by
          by_cases e : j = k
          · subst e
            obtain rfl := Option.some.inj (HY.out.symm.trans hz)
            exact he
          · exact HI.out j z (by omega) hz
        clear he
        go_wp2
        go_round
        case rel => exact ⟨k + 1, by omega, by go_num, HN⟩
        case measure => simp [intOf]; omega
    · have HE := Lib.hid (HC.out.symm.trans (inM_none fun j y hj => HI.out j y (by have := (List.getElem?_eq_some_iff.1 hj).1; omega) hj))
      go_wp2
      go_ret
      exact ⟨ret_b HE.out.symm, rfl⟩
theorem hasM_quiet {v : Value} {xs : List Int} {x : Int} {w : World} {n : Nat} {c : Bool} (h : Lies (Value.int .i64) w v xs) (hc : inM x xs = c) :
    Calls Try.prog 41 #[v, .int .i64 x] (w.drewN n) fun e w' => e = .returned (.bool c) ∧ ∃ m, w' = w.drewN m :=
  (spec_hasM v xs x _ (h.below (below_drewN (Below.refl _ _) n)) c hc).mono fun _ _ ⟨he, hw⟩ => ⟨he, n, hw⟩
/-- A slice of ints that is not empty: its cells. -/
theorem intsM_at {w : World} {v : Value} {xs : List Int} (h : Lies (Value.int .i64) w v xs) (hp : 0 < xs.length) : ∃ q s c, v = .slice (some ⟨q, s, none⟩) xs.length c ∧ ∀ (k : Nat) (x : Int), xs[k]? = some x → w.cell? ⟨q, s + k, none⟩ = some (.int .i64 x) := by
  obtain ⟨_, a, c, rfl, _, hc⟩ := h
  obtain ⟨q, s, rfl, _⟩ := hc 0 _ (List.getElem?_eq_getElem hp)
  refine ⟨q, s, c, rfl, fun k x hx => ?_⟩
  obtain ⟨q', s', h1, h2⟩ := hc k x hx
  injection h1 with h1
  injection h1 with h1 h3
  subst h1; subst h3
  exact h2

theorem grow_no1 {m : List (List Int)} {a : Int} (h : morB m = false) : growB m a = false := by simp [growB, h]
theorem grow_no2 {m : List (List Int)} {a : Int} (h : a < 0 ∨ (m.length : Int) ≤ a) : growB m a = false := by
  have : letB m a = false := decide_eq_false (by omega)
  unfold growB
  rw [this]
  simp
theorem grow_no3 {m : List (List Int)} {n : Nat} {r : List Int} (hr : m[n]? = some r) (h : r.length < 2 ∨ ¬ r.getD 0 0 = (n : Int)) : growB m n = false := by
  have : decide (2 ≤ (img m n).length ∧ (img m n).getD 0 0 = (n : Int)) = false := by
    rw [img_at hr]
    exact decide_eq_false fun hh => by rcases h with h | h <;> omega
  unfold growB
  rw [this]
  simp
theorem grow_yes {m : List (List Int)} {n : Nat} {r : List Int} (hm : morB m = true) (hn : n < m.length) (hr : m[n]? = some r) (h2 : 2 ≤ r.length) (h0 : r.getD 0 0 = (n : Int)) : growB m n = !allVan m m.length (r.drop 1) := by
  have h1 : letB m n = true := decide_eq_true (by omega)
  have h3 : decide (2 ≤ (img m n).length ∧ (img m n).getD 0 0 = (n : Int)) = true := by rw [img_at hr]; exact decide_eq_true ⟨h2, h0⟩
  unfold growB
  rw [hm, h1, h3, img_at hr]
  simp
theorem lies_drop1 {w : World} {b off n c : Nat} {xs : List Int} (h : Lies (Value.int .i64) w (.slice (some ⟨b, off, none⟩) n c) xs) (h1 : 1 ≤ xs.length) (hc : xs.length ≤ c) : Lies (Value.int .i64) w (.slice (some ⟨b, off + 1, none⟩) (xs.length - 1) (c - 1)) (xs.drop 1) := by
  obtain ⟨hl, a', c', hv, _, hcell⟩ := h
  injection hv with e1 e2 e3
  subst e1
  refine ⟨by rw [List.length_drop]; omega, some ⟨b, off + 1, none⟩, c - 1, by rw [List.length_drop], (fun h => by simp at h), fun i x hx => ?_⟩
  rw [List.getElem?_drop] at hx
  obtain ⟨b', o', h3, h4⟩ := hcell _ x hx
  injection h3 with h3
  injection h3 with h3 h5
  subst h3; subst h5
  exact ⟨b, off + 1, rfl, by rw [show off + 1 + i = off + (1 + i) from by omega]; exact h4⟩
theorem cell_kept {w w' : World} {b o : Nat} {v : Value} (hb : Below w.heap.size w w') (h : w.cell? ⟨b, o, none⟩ = some v) : w'.cell? ⟨b, o, none⟩ = some v := (hb.cell (p := ⟨b, o, none⟩) (World.block_lt_of_cell? w _ h)).trans h
theorem lies_el' {w : World} {q s n c : Nat} {xs : List Int} {i : Nat} {x : Int} (h : Lies (Value.int .i64) w (.slice (some ⟨q, s, none⟩) n c) xs) (hx : xs[i]? = some x) : w.cell? ⟨q, s + i, none⟩ = some (.int .i64 x) := by
  obtain ⟨b, off, h1, h2⟩ := lies_el h hx
  injection h1 with h1
  injection h1 with h1 h3
  subst h1; subst h3
  exact h2
theorem dist_bd {m : List (List Int)} (hm : IsMor m) {u r : List Int} (hu : ∀ x ∈ u, 0 ≤ x ∧ x < (m.length : Int)) (hr : ∀ x ∈ r, 0 ≤ x ∧ x < (m.length : Int)) (k : Nat) : (addAll (dist (appL m u)) (r.take k)).length ≤ 16 := by
  have h1 := nodup_bounded (addAll (dist (appL m u)) (r.take k)) m.length (addAll_nodup _ _ (dist_nodup _)) fun x hx => by
    rcases (mem_addAll _ _ _).1 hx with h | h
    · exact hm.app_in hu x (mem_dist.1 h)
    · exact hr x (List.mem_of_mem_take h)
  have := hm.2.1
  omega
theorem dist_next {m : List (List Int)} {R : List Int} {i : Nat} {x : Int} (hx : R[i]? = some x) : dist (appL m (R.take (i + 1))) = addAll (dist (appL m (R.take i))) (img m x) := by
  rw [appL_take_succ hx]
  exact addAll_append _ _ _
theorem add_old {A r : List Int} {k : Nat} {x : Int} (hx : r[k]? = some x) (h : x ∈ addAll A (r.take k)) : addAll A (r.take (k + 1)) = addAll A (r.take k) := by
  obtain ⟨h1, h2⟩ := List.getElem?_eq_some_iff.1 hx
  rw [List.take_succ_eq_append_getElem h1, h2, addAll_snoc, addTo_in h]
theorem add_new {A r : List Int} {k : Nat} {x : Int} (hx : r[k]? = some x) (h : x ∉ addAll A (r.take k)) : addAll A (r.take (k + 1)) = addAll A (r.take k) ++ [x] := by
  obtain ⟨h1, h2⟩ := List.getElem?_eq_some_iff.1 hx
  rw [List.take_succ_eq_append_getElem h1, h2, addAll_snoc, addTo_new h]
set_option maxRecDepth 100000 in
set_option maxHeartbeats 2000000 in
theorem spec_grow (v : Value) (m : List (List Int)) (a : Int) (w : World) (h : OwnedM w v m) :
    Calls Try.prog 28 #[v, .int .i64 a] w fun e w' => e = .returned (.bool (growB m a)) ∧ Below w.heap.size w w' := by
  obtain ⟨i0, hi, hz0, hz1, hz2⟩ := info_parts Ints.infoI
  obtain ⟨an, cn, rfl⟩ := h.lies.form
  have HO := Lib.hid h
  have HM := Lib.hid h.lies
  have hml := rows_small h.lies.rows
  have HB : Hid (Below w.heap.size w (w.alloc (Obj.cells #[Value.slice an m.length cn] 31))) := (Below.refl _ _).alloc (Nat.le_refl _) _
  have HC := Lib.hid (Cells1.new w 31 (.slice an m.length cn))
  clear h
  go_enter Try.func28, Try.ntmps28
  go_wp2_with fail
  refine (spec_mor _ m _ (HM.out.below HB.out)).mono ?_
  rintro e W1 ⟨rfl, hb⟩
  have HB1 := Lib.hid (HB.out.trans (hb.mono HB.out.size))
  have HC1 := Lib.hid (HC.out.below hb)
  have k0 := HC1.out.c0
  clear hb HC HB
  obtain ⟨c, hc⟩ : ∃ c, morB m = c := ⟨_, rfl⟩
  rw [hc]
  have HMB := Lib.hid hc
  clear hc
  cases c with
  | false =>
    have HE := Lib.hid (grow_no1 (a := a) HMB.out)
    go_wp2
    go_ret
    exact ⟨ret_b HE.out.symm, HB1.out⟩
  | true =>
    by_cases ha0 : a < 0
    · have hd := decide_eq_true ha0
      have HE := Lib.hid (grow_no2 (m := m) (.inl ha0))
      go_wp2
      go_ret
      exact ⟨ret_b HE.out.symm, HB1.out⟩
    · have hd := decide_eq_false ha0
      by_cases ha1 : (m.length : Int) ≤ a
      · have hd1 := decide_eq_true ha1
        have HE := Lib.hid (grow_no2 (m := m) (.inr ha1))
        go_wp2
        go_ret
        exact ⟨ret_b HE.out.symm, HB1.out⟩
      · have hd1 := decide_eq_false ha1
        obtain ⟨n, rfl⟩ : ∃ n : Nat, a = n := ⟨a.toNat, by omega⟩
        have hn : n < m.length := by omega
        have hd1n := decide_eq_false (show ¬ m.length ≤ n by omega)
        obtain ⟨r, hr⟩ : ∃ r, m[n]? = some r := ⟨_, List.getElem?_eq_getElem hn⟩
        obtain ⟨p, o, ua, uc, rfl, hcr, hlr, huc⟩ := (HO.out.below HB1.out).row hr
        have HR := Lib.hid hr
        have HLR := Lib.hid hlr
        clear hr hlr
        by_cases h2 : r.length < 2
        · have hd2 := decide_eq_true (show (r.length : Int) < 2 by omega)
          have HE := Lib.hid (grow_no3 HR.out (.inl h2))
          go_wp2
          go_ret
          exact ⟨ret_b HE.out.symm, HB1.out⟩
        · have hd2 := decide_eq_false (show ¬ (r.length : Int) < 2 by omega)
          have h02 : 0 < r.length := by omega
          have huc1 : ¬ uc = 1 := by omega
          have h02i : (0 : Int) < (r.length : Int) := by omega
          obtain ⟨x, hx⟩ : ∃ x, r[0]? = some x := ⟨_, List.getElem?_eq_getElem h02⟩
          have HX0 : Hid (r.getD 0 0 = x) := by show _ = _; simp [List.getD, hx]
          obtain ⟨q, s, rfl, hcx⟩ := lies_el HLR.out hx
          rw [Nat.add_zero] at hcx
          clear hx
          by_cases he : x = (n : Int)
          · have hd3 : (x != (n : Int)) = false := by rw [he]; simp
            have HE := Lib.hid (grow_yes HMB.out hn HR.out (by omega) (HX0.out.trans he))
            clear he
            go_wp2
            have HD : Hid (Lies (Value.int .i64) W1 (.slice (some ⟨q, s + 1, none⟩) (r.length - 1) (uc - 1)) (r.drop 1)) := lies_drop1 HLR.out (by omega) huc
            have HMM := Lib.hid (morB_out HMB.out)
            have hm16 := HMM.out.2.1
            have HDI : Hid (∀ x ∈ r.drop 1, 0 ≤ x ∧ x < (m.length : Int)) := fun y hy => (HMM.out.2.2 r (List.mem_of_getElem? HR.out)).2 y (List.mem_of_mem_drop hy)
            have hDl : (r.drop 1).length = r.length - 1 := by rw [List.length_drop]
            obtain ⟨D, hDD⟩ : ∃ D, D = r.drop 1 := ⟨_, rfl⟩
            rw [← hDD] at HE HD HDI hDl
            rw [← hDl] at HD ⊢
            clear hd hd1 hd1n hd2 hd3 hcr hcx k0 h02 h02i huc1 huc h2 hDD hDl
            go_loopw [5, 6] (fun o' i' wr => ∃ (j : Nat) (vr : Value), j ≤ m.length + 1 ∧ i' = .int .i64 j ∧ vr = o' ∧ Hid (Lies (Value.int .i64) wr vr (rst m D j)) ∧ Hid (Cells1 wr w.heap.size 31 (.slice (some ⟨p, o, none⟩) m.length cn)) ∧ Hid (Below w.heap.size w wr)) (fun _ i' _ => m.length + 1 - (intOf i').toNat)
            case atStart => exact ⟨0, _, by omega, rfl, rfl, HD, HC1, HB1⟩
            case round =>
              obtain ⟨j, vr, hj, rfl, rfl, HLr, HCr, HBr⟩ := hrel
              by_cases hlt : j ≤ m.length
              · have hdj := decide_eq_true (show (j : Int) ≤ (m.length : Int) by omega)
                have k0 := HCr.out.c0
                obtain ⟨R, hR⟩ : ∃ R, R = rst m D j := ⟨_, rfl⟩
                have HRI : Hid (∀ x ∈ R, 0 ≤ x ∧ x < (m.length : Int)) := by show ∀ x ∈ R, _; rw [hR]; exact rst_in HMM.out HDI.out j
                have HRS : Hid (rst m D (j + 1) = dist (appL m R)) := by show _ = _; rw [hR]; rfl
                rw [← hR] at HLr
                clear hR
                obtain ⟨hRl, ra, rc, rfl, _, _⟩ := id HLr.out
                obtain ⟨W0, rfl⟩ : ∃ W : World, W = wr := ⟨_, rfl⟩
                have HN0 : Hid (Has (Value.int .i64) 3 (W0.alloc (Obj.cells #[] 3)) W0.heap.size (.slice (some ⟨W0.heap.size, 0, none⟩) 0 0) []) := has_lit0 rfl (Nat.le_refl _)
                have HW0 : Hid (Below W0.heap.size W0 (W0.alloc (Obj.cells #[] 3))) := (Below.refl _ _).alloc (Nat.le_refl _) _
                go_wp2
                clear k0 hdj
                generalize W0.alloc (Obj.cells #[] 3) = W4 at HN0 HW0 ⊢
                go_loopw [7, 8] (fun n' i' wr => ∃ (i : Nat) (vn : Value), i ≤ R.length ∧ i' = .int .i64 i ∧ vn = n' ∧ Hid (Has (Value.int .i64) 3 wr W0.heap.size vn (dist (appL m (R.take i)))) ∧ Hid (Below W0.heap.size W0 wr)) (fun _ i' _ => R.length - (intOf i').toNat)
                case atStart => exact ⟨0, _, Nat.zero_le _, rfl, rfl, HN0, HW0⟩
                case round =>
                  obtain ⟨i, vn, hi', rfl, rfl, HNr, HBi⟩ := hrel
                  by_cases hlt2 : i < R.length
                  · obtain ⟨y, hy⟩ : ∃ y, R[i]? = some y := ⟨_, List.getElem?_eq_getElem hlt2⟩
                    have hyb := HRI.out y (List.mem_of_getElem? hy)
                    obtain ⟨yn, rfl⟩ := Int.eq_ofNat_of_zero_le hyb.1
                    have hyn : yn < m.length := by omega
                    obtain ⟨hri, hri8, hriI⟩ := HMM.out.img hyb.1 hyb.2
                    have HDN := Lib.hid (dist_next (m := m) hy)
                    obtain ⟨ri, hrie⟩ : ∃ ri, ri = img m (yn : Int) := ⟨_, rfl⟩
                    rw [← hrie] at hri hri8 hriI HDN
                    rw [show ((yn : Int).toNat) = yn from by omega] at hri
                    obtain ⟨q2, s2, rfl, hcy⟩ := lies_el HLr.out hy
                    obtain ⟨p2, o2, ua2, uc2, hpo, hcr2, hlr2, _⟩ := (HO.out.below HBr.out).row hri
                    injection hpo with hpo
                    injection hpo with hpo1 hpo2
                    subst hpo1; subst hpo2
                    have HCY := Lib.hid hcy
                    have HCR := Lib.hid hcr2
                    have HLR2 := Lib.hid hlr2
                    have HRII := Lib.hid hriI
                    have hril : (ri.length : Int) ≤ 8 := by omega
                    clear hy hri hyb hriI hrie hcy hcr2 hlr2
                    obtain ⟨W5, rfl⟩ : ∃ W : World, W = wr := ⟨_, rfl⟩
                    go_wp2
                    go_loopw [7, 9] (fun n' k' wr => ∃ (k : Nat) (vn : Value), k ≤ ri.length ∧ k' = .int .i64 k ∧ vn = n' ∧ Hid (Has (Value.int .i64) 3 wr W0.heap.size vn (addAll (dist (appL m (R.take i))) (ri.take k))) ∧ Hid (Below W0.heap.size W0 wr)) (fun _ k' _ => ri.length - (intOf k').toNat)
                    case atStart => exact ⟨0, _, Nat.zero_le _, rfl, rfl, HNr, HBi⟩
                    case round =>
                      obtain ⟨k, vn, hk, rfl, rfl, HNk, HBk⟩ := hrel
                      have k0 := (HCr.out.below HBk.out).c0
                      have k1 := cell_kept HBk.out HCY.out
                      have k2 := cell_kept HBk.out HCR.out
                      by_cases hlk : k < ri.length
                      · obtain ⟨x2, hx2⟩ : ∃ x, ri[k]? = some x := ⟨_, List.getElem?_eq_getElem hlk⟩
                        have HX2 := Lib.hid hx2
                        obtain ⟨q3, s3, rfl, hcz⟩ := lies_el HLR2.out hx2
                        have HCZ := Lib.hid hcz
                        have k3 := cell_kept HBk.out HCZ.out
                        clear hx2 hcz
                        go_wp2
                        go_quiet (fail)
                        have hbd := below_drewN (Below.refl wr.heap.size wr) nq
                        have HN6 := Lib.hid (HNk.out.below hbd)
                        have HB6 := Lib.hid (HBk.out.trans (hbd.mono HBk.out.size))
                        clear hbd HNk HBk k0 k1 k2 k3
                        obtain ⟨W6, hW6⟩ : ∃ W, W = wr.drewN nq := ⟨_, rfl⟩
                        rw [← hW6] at HN6 HB6 ⊢
                        clear hW6
                        have k0 := (HCr.out.below HB6.out).c0
                        have k1 := cell_kept HB6.out HCY.out
                        have k2 := cell_kept HB6.out HCR.out
                        have k3 := cell_kept HB6.out HCZ.out
                        obtain ⟨AL, hAL⟩ : ∃ AL, AL = addAll (dist (appL m (R.take i))) (ri.take k) := ⟨_, rfl⟩
                        have HAL := Lib.hid hAL
                        have HA16 : Hid (AL.length ≤ 16) := by show _ ≤ _; rw [hAL]; exact dist_bd HMM.out (fun y hy => HRI.out y (List.mem_of_mem_take hy)) HRII.out k
                        rw [← hAL] at HN6
                        clear hAL
                        by_cases hin : x2 ∈ AL
                        · have HE : Hid (addAll (dist (appL m (R.take i))) (ri.take (k + 1)) = AL) := by show _ = _; rw [add_old HX2.out (by rw [← HAL.out]; exact hin), HAL.out]
                          have HI := Lib.hid (inM_yes hin)
                          clear hin
                          go_wp2
                          go_quiet ((go_at_call 41; exact hasM_quiet HN6.out.lies HI.out))
                          have hbd := below_drewN (Below.refl W6.heap.size W6) nq
                          have HN7 : Hid (Has (Value.int .i64) 3 (W6.drewN nq) W0.heap.size vn (addAll (dist (appL m (R.take i))) (ri.take (k + 1)))) := by show Has _ _ _ _ _ _; rw [HE.out]; exact HN6.out.below hbd
                          have HB7 := Lib.hid (HB6.out.trans (hbd.mono HB6.out.size))
                          clear hbd
                          go_wp2
                          go_roundw
                          case rel => exact ⟨k + 1, vn, by omega, by go_num, rfl, HN7, HB7⟩
                          case measure => simp [intOf]; omega
                        · have HE : Hid (addAll (dist (appL m (R.take i))) (ri.take (k + 1)) = AL ++ [x2]) := by show _ = _; rw [add_new HX2.out (by rw [← HAL.out]; exact hin), HAL.out]
                          have HI := Lib.hid (inM_no hin)
                          clear hin
                          go_wp2
                          go_quiet ((go_at_call 41; exact hasM_quiet HN6.out.lies HI.out))
                          have hbd := below_drewN (Below.refl W6.heap.size W6) nq
                          have HN7 := Lib.hid (HN6.out.below hbd)
                          have HB7 := Lib.hid (HB6.out.trans (hbd.mono HB6.out.size))
                          clear hbd HN6 HB6 k0 k1 k2 k3
                          go_wp2_with fail
                          obtain ⟨W7, hW7⟩ : ∃ W, W = W6.drewN nq := ⟨_, rfl⟩
                          rw [← hW7] at HN7 HB7 ⊢
                          clear hW7
                          have k0 := (HCr.out.below HB7.out).c0
                          have k1 := cell_kept HB7.out HCY.out
                          have k2 := cell_kept HB7.out HCR.out
                          have k3 := cell_kept HB7.out HCZ.out
                          have hal := HA16.out
                          have HZ7 : Hid (W0.heap.size ≤ W7.heap.size) := HB7.out.size
                          go_region_law
                            ((refine step_append_list (enc := Value.int .i64) (e := 3) rfl (.tmp 91) (.tmp 103) 22 rfl W0.heap.size i0 (.int .i64 0) 8 Try.underlying22 hi hz0 hz1 hz2 rfl vn AL rfl (by repeat (first | with_reducible exact HN7.out | with_reducible apply has_drew | with_reducible apply has_alloc)) (Value.slice (some ⟨_, 0, none⟩) 1 1) [x2] rfl (by repeat (first | with_reducible apply lies_drew | (with_reducible refine lies_lit1 (enc := Value.int .i64) _ rfl) | with_reducible apply lies_alloc)) (fun _ _ => rfl) (by simp only [List.length_cons, List.length_nil]; omega) (by simp only [List.length_cons, List.length_nil]; omega) (by have := HZ7.out; simp; omega) ?_; intro vo w1 ho hg; refine with_fact (T := W7.grownBy w1 vn.ownBlock) ?_ ?_; (focus (first | exact grown_alloc (grown_drew hg) | exact grown_alloc hg)); intro hg1))
                          all_goals
                            have HN8 : Hid (Has (Value.int .i64) 3 w1 W0.heap.size vo (addAll (dist (appL m (R.take i))) (ri.take (k + 1)))) := by
                              show Has _ _ _ _ _ _
                              rw [HE.out]
                              exact ho
                            have HB8 := Lib.hid (HN7.out.frame HB7.out (Nat.le_refl _) hg1)
                            clear hg hg1 ho k0 k1 k2 k3
                            go_wp2
                            go_roundw
                            case rel => exact ⟨k + 1, vo, by omega, by go_num, rfl, HN8, HB8⟩
                            case measure => simp [intOf]; omega
                      · go_wp2
                        go_quiet (fail)
                        have hbd := below_drewN (Below.refl wr.heap.size wr) nq
                        have HN6 : Hid (Has (Value.int .i64) 3 (wr.drewN nq) W0.heap.size vn (dist (appL m (R.take (i + 1))))) := by
                          show Has _ _ _ _ _ _
                          have h1 := HNk.out.below hbd
                          have hk8 : k = ri.length := by omega
                          rw [hk8, List.take_length] at h1
                          rw [HDN.out]
                          exact h1
                        have HB6 := Lib.hid (HBk.out.trans (hbd.mono HBk.out.size))
                        clear hbd HNk HBk k0 k1 k2
                        go_wp2
                        go_roundw
                        case rel =>
                          exact ⟨i + 1, vn, by omega, by go_num, rfl, HN6, HB6⟩
                        case measure => simp [intOf]; omega
                  · have HL9 : Hid (Lies (Value.int .i64) wr vn (rst m D (j + 1))) := by
                      show Lies _ _ _ _
                      have h1 := HNr.out.lies
                      rw [List.take_of_length_le (by omega)] at h1
                      rw [HRS.out]
                      exact h1
                    have HC9 := Lib.hid (HCr.out.below HBi.out)
                    have HB9 := Lib.hid (HBr.out.trans (HBi.out.mono HBr.out.size))
                    clear HNr HBi
                    go_wp2
                    go_roundw
                    case rel => exact ⟨j + 1, vn, by omega, by go_num, rfl, HL9, HC9, HB9⟩
                    case measure => simp [intOf]; omega
              · have hdj := decide_eq_false (show ¬ (j : Int) ≤ (m.length : Int) by omega)
                have k0 := HCr.out.c0
                obtain rfl : j = m.length + 1 := by omega
                have HEN : Hid (growB m n = decide (0 < (rst m D (m.length + 1)).length)) := HE.out.trans (rst_end HMM.out HDI.out).symm
                obtain ⟨hRl, ra, rc, rfl, _, _⟩ := id HLr.out
                go_wp2
                go_ret
                exact ⟨ret_b HEN.out.symm, HBr.out⟩
          · have hd3 : (x != (n : Int)) = true := by simpa using he
            have HE := Lib.hid (grow_no3 HR.out (.inr (by rw [HX0.out]; exact he)))
            clear he
            go_wp2
            go_ret
            exact ⟨ret_b HE.out.symm, HB1.out⟩
end Mor
end Go.Proofs.Ytejbonnkgejngaa
