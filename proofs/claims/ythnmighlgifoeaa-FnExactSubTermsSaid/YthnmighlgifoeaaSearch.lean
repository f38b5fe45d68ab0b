/- Contract of the function that keeps the states that can be reached. No conditions beyond those that each states. -/
import Derived.Test.YthnmighlgifoeaaReach
import Derived.Test.YthnmighlgifoeaaSeqBuild
import Derived.Test.YthnmighlgifoeaaSeqCopy
import Derived.Deep.RegionHeld3
namespace Go.Proofs.Ythnmighlgifoeaa
open Go.ChangeShapes Go.WideShapes Go.ChangeAt Go.RowKit
open Go.PlainAid Plain
set_option linter.unusedVariables false
namespace Mins
open Seqs
theorem index_any (v : Value) (xs : List Int) (x : Int) (w : World) (h : Lies (Value.int .i64) w v xs) (hx : x ∈ xs) (hn : xs.Nodup) :
    Calls Try.prog 96 #[v, .int .i64 x] w fun e w' => e = .returned (.int .i64 (ix xs x)) ∧ w = w' := by
  have hl := idxOf_lt hx
  obtain ⟨q, s, c', rfl, hcl⟩ := ints_at h (by omega)
  have gd : ∀ j < xs.length, xs[j]? = some (xs.getD j 0) := fun j hj => by
    rw [List.getD_eq_getElem?_getD, List.getElem?_eq_getElem hj]
    rfl
  refine (Try.slices_Index_int q s xs.length c' xs x w (Nat.le_refl _) h.1 (fun j hj => hcl j _ (gd j hj))).mono fun _ _ ⟨he, hw⟩ => ⟨?_, hw.symm⟩
  rw [he, List.take_length]
  have h1 : xs.getD (ix xs x) 0 = x := Option.some.inj ((gd _ hl).symm.trans (get_idxOf hx))
  have h2 := Lib.idxFrom_hit x xs (ix xs x) 0 hl h1 (fun j hj e => by
    have h3 := gd j (by omega)
    rw [e] at h3
    have := idxOf_get hn h3
    omega)
  show Ending.returned (.int .i64 (Lib.idxFrom xs x 0)) = _
  rw [h2, Nat.zero_add]
/-- What a round finds. -/
theorem search_facts {b : Int} {rows : List (List Int)} {out : List Int} (hv : IsSeq b rows out) {i : Nat} (hi : i < (reached rows).length) :
    ∃ (sn : Nat) (r : List Int) (o : Int), (reached rows)[i]? = some (sn : Int) ∧ sn < rows.length ∧ rows[sn]? = some r ∧ out[sn]? = some o ∧ (r.length : Int) = b ∧ 0 < r.length ∧ r.length ≤ 4 ∧ (∀ x ∈ r, x ∈ reached rows) ∧ minRow rows (reached rows) sn = r.map (fun x => (ix (reached rows) x : Int)) ∧ out.getD ((sn : Int)).toNat 0 = o := by
  have hc := hv.closed
  have h1 : (reached rows)[i]? = some (reached rows)[i] := List.getElem?_eq_getElem hi
  have h2 := (reachI_ok hc rows.length).2 _ (List.getElem_mem hi)
  have h2' : 0 ≤ (reached rows)[i] ∧ (reached rows)[i] < (rows.length : Int) := h2
  have h3 := rowOf_get h2'.1 h2'.2
  have h4 := hv.2.2.2.2.2.1 _ (rowOf_mem h2'.1 h2'.2)
  have h5 := hv.1
  have h6 := hv.2.1
  have h7 := hv.2.2.2.2.1
  obtain ⟨sn, hsn⟩ : ∃ sn : Nat, (sn : Int) = (reached rows)[i] := ⟨(reached rows)[i].toNat, by omega⟩
  rw [← hsn] at h1 h2' h3 h4
  rw [Int.toNat_natCast] at h3
  obtain ⟨o, ho⟩ : ∃ o, out[sn]? = some o := ⟨_, List.getElem?_eq_getElem (by omega)⟩
  refine ⟨sn, rowOf rows sn, o, h1, by omega, h3, ho, h4.1, by omega, by omega, fun x hx => reached_next hc (List.mem_of_getElem? h1) hx, rfl, ?_⟩
  rw [Int.toNat_natCast, List.getD_eq_getElem?_getD, ho]
  rfl
theorem take_map_snoc {α β : Type} {l : List α} {i : Nat} {x : α} (f : α → β) (h : l[i]? = some x) : (l.take (i + 1)).map f = (l.take i).map f ++ [f x] := by
  obtain ⟨hk, rfl⟩ := List.getElem?_eq_some_iff.1 h
  rw [List.take_succ_eq_append_getElem hk, List.map_append]
  rfl
theorem fill_ix {l : List Int} {n i : Nat} (c : Int) (hl : l.length = i) (h : i < n) : ((l ++ List.replicate (n - i) 0).map (Value.int .i64)).set i (.int .i64 c) = ((l ++ [c]) ++ List.replicate (n - (i + 1)) 0).map (Value.int .i64) := by
  rw [show n - i = (n - (i + 1)) + 1 from by omega, List.replicate_succ, List.map_append, List.map_cons, set_mid _ _ _ _ i (by rw [List.length_map]; exact hl), List.append_assoc, List.map_append]
  rfl
set_option maxHeartbeats 2000000 in
theorem searched_any (v : Value) (b : Int) (rows : List (List Int)) (out : List Int) (w : World) (h : LiesS w v b rows out) (hv : IsSeq b rows out) :
    Calls Try.prog 85 #[v] w (GivesS b (searchR rows) (searchO rows out) w) := by
  obtain ⟨i0, hi0, hz0, hz1, hz2⟩ := info_parts Ints.infoI
  obtain ⟨i2, hi2, hz20, hz21, hz22⟩ := info_parts infoR
  have HS := Lib.hid h
  obtain ⟨an, cn, ao, co, rfl⟩ := h.form
  clear h
  have HB : Hid (Below w.heap.size w (w.alloc (Obj.cells #[Value.int .i64 b, Value.slice an rows.length cn, Value.slice ao out.length co] 27))) := (Below.refl _ _).alloc (Nat.le_refl _) _
  have HC := Lib.hid (Cells3.new w 27 (.int .i64 b) (.slice an rows.length cn) (.slice ao out.length co))
  have HV := Lib.hid hv
  have HQ := Lib.hid (seqB_yes hv)
  obtain ⟨bn, rfl⟩ : ∃ bn : Nat, b = (bn : Int) := ⟨b.toNat, by have := hv.1; omega⟩
  have hb2 : 2 ≤ bn := by have := hv.1; omega
  have hb4 : bn ≤ 4 := by have := hv.2.1; omega
  have hn16 : rows.length ≤ 16 := hv.2.2.2.1
  obtain ⟨R, hR⟩ : ∃ R, R = reached rows := ⟨_, rfl⟩
  have HRE := Lib.hid hR
  have hR16 : R.length ≤ 16 := by rw [hR]; have := reached_len hv.closed; omega
  have hR1 : 0 < R.length := by rw [hR]; exact (List.getElem?_eq_some_iff.1 (reached_zero rows)).1
  have HRN : Hid R.Nodup := by rw [hR]; exact (reachI_ok hv.closed _).1
  clear hv hR
  have HB1 := Lib.hid (HB.out.alloc (by simp) (Obj.cells #[Value.int .i64 0, Value.slice none 0 0, Value.slice none 0 0] 27))
  have HC1 := Lib.hid (HC.out.alloc (Obj.cells #[Value.int .i64 0, Value.slice none 0 0, Value.slice none 0 0] 27))
  have hZ := Cells3.new (w.alloc (Obj.cells #[Value.int .i64 (bn : Int), Value.slice an rows.length cn, Value.slice ao out.length co] 27)) 27 (.int .i64 0) (.slice none 0 0) (.slice none 0 0)
  rw [size_alloc'] at hZ
  have HZ1 := Lib.hid hZ
  have k0 := HC1.out.c0
  have k1 := HC1.out.c1
  have k2 := HC1.out.c2
  clear hZ HB HC
  go_enter Try.func85, Try.ntmps85
  go_wp2_with fail
  refine (impl_reach_yes _ _ rows out _ (HS.out.below HB1.out) HQ.out).mono ?_
  rintro e W1 ⟨rv, rfl, hrv, b1⟩
  have HB2 := Lib.hid (HB1.out.trans (b1.mono HB1.out.size))
  have HC2 := Lib.hid (HC1.out.below b1)
  have HZ2 := Lib.hid (HZ1.out.below b1)
  rw [← HRE.out] at hrv
  obtain ⟨ra, rc, rfl, hra⟩ := hrv.form
  obtain ⟨rq, rfl⟩ := hra hR1
  have HRV := Lib.hid (hrv.mono HB1.out.size)
  clear hrv b1 hra HB1 HC1 HZ1 k0 k1 k2
  have k0 := HC2.out.c0
  have k1 := HC2.out.c1
  have k2 := HC2.out.c2
  go_wp2_with fail
  have HS2 : Hid (w.heap.size + 2 ≤ W1.heap.size) := by have := HZ2.out.lt; show _ ≤ _; omega
  have hBx : Below W1.heap.size W1 (W1.alloc (Obj.cells #[Value.int .i64 (bn : Int), Value.slice none 0 0, Value.slice none 0 0] 27)) := (Below.refl _ _).alloc (Nat.le_refl _) _
  have hB3 := Lib.hid (HB2.out.trans (hBx.mono HB2.out.size))
  have hC3 := Lib.hid (HC2.out.below hBx)
  have hZ3 := Lib.hid (HZ2.out.below hBx)
  have hP3 := Lib.hid (Cells3.new W1 27 (.int .i64 (bn : Int)) (.slice none 0 0) (.slice none 0 0))
  have hV3 := Lib.hid (HRV.out.below hBx)
  obtain ⟨p, hp⟩ : ∃ p, p = W1.heap.size := ⟨_, rfl⟩
  obtain ⟨W2, hW2⟩ : ∃ W, W = W1.alloc (Obj.cells #[Value.int .i64 (bn : Int), Value.slice none 0 0, Value.slice none 0 0] 27) := ⟨_, rfl⟩
  rw [← hW2] at hB3 hC3 hZ3 hP3 hV3 ⊢
  rw [← hp] at hP3 HS2 ⊢
  obtain ⟨BB, hBB⟩ : ∃ B, B = W2.heap.size := ⟨_, rfl⟩
  have hBL : Hid (Building W2 BB BB p (bn : Int) (.slice none 0 0) (.slice none 0 0) [] ((R.take 0).map (minRow rows R)) ((R.take 0).map fun s => out.getD s.toNat 0)) := Building.start hP3.out (by rw [hBB]; exact Nat.le_refl _)
  have hRV3 : Hid (OwnI W2 w.heap.size BB (.slice (some ⟨rq, 0, none⟩) R.length rc) R) := ⟨hV3.out, fun k hk => by rw [hBB]; exact (hV3.out.lt k hk).2, by rw [hBB]; exact Nat.le_refl _⟩
  have HBB : Hid (p < BB ∧ w.heap.size + 2 ≤ BB) := by
    have h1 := hP3.out.lt
    have h2 := HS2.out
    show _ ∧ _
    omega
  clear hW2 hp hBB hBx hP3 hV3 HB2 HC2 HZ2 HRV k0 k1 k2
  go_loopw [17] (fun i' wr => ∃ (i : Nat) (vn vo : Value) (us : List Value) (hi : Nat), i ≤ R.length ∧ i' = .int .i64 i ∧ Hid (Building wr BB hi p (bn : Int) vn vo us ((R.take i).map (minRow rows R)) ((R.take i).map fun s => out.getD s.toNat 0)) ∧ Hid (OwnI wr w.heap.size BB (.slice (some ⟨rq, 0, none⟩) R.length rc) R) ∧ Hid (Cells3 wr w.heap.size 27 (.int .i64 (bn : Int)) (.slice an rows.length cn) (.slice ao out.length co)) ∧ Hid (Cells3 wr (w.heap.size + 1) 27 (.int .i64 0) (.slice none 0 0) (.slice none 0 0)) ∧ Hid (Below w.heap.size w wr)) (fun i' _ => R.length - (intOf i').toNat)
  case atStart => exact ⟨0, _, _, [], BB, Nat.zero_le _, rfl, hBL, hRV3, hC3, hZ3, hB3⟩
  case round =>
    clear hBL hRV3 hC3 hZ3 hB3
    obtain ⟨i, vn, vo, us, hi, hil, rfl, hBL, hRV, hC, hZ, hB⟩ := hrel
    obtain ⟨W3, rfl⟩ : ∃ W : World, W = wr := ⟨_, rfl⟩
    obtain ⟨na, nc, oa, oc, hvn, hvo⟩ := hBL.out.form
    by_cases hlt : i < R.length
    case neg =>
      obtain rfl : i = R.length := by omega
      have HE : Hid ((R.take R.length).map (minRow rows R) = searchR rows ∧ ((R.take R.length).map fun s => out.getD s.toNat 0) = searchO rows out) := by
        show _ ∧ _
        rw [List.take_length, HRE.out]
        exact ⟨rfl, rfl⟩
      have HW : Hid (OwnS W3 BB W3.heap.size (.agg #[.int .i64 (bn : Int), vn, vo]) (bn : Int) (searchR rows) (searchO rows out)) := by
        have h1 := hBL.out.seq
        rw [HE.out.1, HE.out.2] at h1
        exact h1
      have hP := hBL.out.cells
      subst hvn; subst hvo
      have m0 := hP.c0
      have m1 := hP.c1
      have m2 := hP.c2
      have z0 := hZ.out.c0
      have z1 := hZ.out.c1
      have z2 := hZ.out.c2
      have z3 := hZ.out.f
      obtain ⟨l1, hl1⟩ : ∃ l, l = ((R.take R.length).map (minRow rows R)).length := ⟨_, rfl⟩
      obtain ⟨l2, hl2⟩ : ∃ l, l = ((R.take R.length).map fun s => out.getD s.toNat 0).length := ⟨_, rfl⟩
      rw [← hl1] at m1 HW
      rw [← hl2] at m2 HW
      clear hP hl1 hl2
      go_wp2
      have hZ3 := (((hZ.out.set0 (.int .i64 (bn : Int))).set1 (.slice na l1 nc)).set2 (.slice oa l2 oc))
      have n0 := hZ3.c0
      have n1 := hZ3.c1
      have n2 := hZ3.c2
      refine bodyPost_ret (v := .agg #[.int .i64 (bn : Int), .slice na l1 nc, .slice oa l2 oc]) (by simp [results, Try.results85, go_sem, n0, n1, n2]) rfl ⟨_, rfl, ?_, ?_⟩
      · have T0 : Plain.Touch w.heap.size (w.heap.size + 2) W3 (((W3.setCell ⟨w.heap.size + 1, 0, none⟩ (.int .i64 (bn : Int))).setCell ⟨w.heap.size + 1, 1, none⟩ (.slice na l1 nc)).setCell ⟨w.heap.size + 1, 2, none⟩ (.slice oa l2 oc)) :=
          ((Plain.Touch.of_set _ (by show _ ≤ _ + 1; omega) (by show _ + 1 < _; omega)).trans (Plain.Touch.of_set _ (by show _ ≤ _ + 1; omega) (by show _ + 1 < _; omega))).trans (Plain.Touch.of_set _ (by show _ ≤ _ + 1; omega) (by show _ + 1 < _; omega))
        have := (HW.out.touch T0 (.inr HBB.out.2)).lower (show w.heap.size ≤ BB by have := HBB.out.2; omega)
        simpa only [size_setCell'] using this
      · exact ((hB.out.setCell (by show _ ≤ _ + 1; omega) _).setCell (by show _ ≤ _ + 1; omega) _).setCell (by show _ ≤ _ + 1; omega) _
    case pos =>
      obtain ⟨sn, r, o, hs, hsn, hr, ho, hrl, hr0, hr4, hrB, hmr, hoo⟩ := search_facts HV.out (i := i) (by rw [← HRE.out]; exact hlt)
      rw [← HRE.out] at hs hrB hmr
      obtain ⟨l1, hl1⟩ : ∃ l, l = ((R.take i).map (minRow rows R)).length := ⟨_, rfl⟩
      obtain ⟨l2, hl2⟩ : ∃ l, l = ((R.take i).map fun s => out.getD s.toNat 0).length := ⟨_, rfl⟩
      have hl1' : l1 ≤ 16 := by rw [hl1]; simp; omega
      have hl2' : l2 ≤ 16 := by rw [hl2]; simp; omega
      have HUSL : Hid (us.length = l1) := by show _ = _; rw [hl1]; exact hBL.out.len
      have HL2 := Lib.hid hl2
      rw [← hl1] at hvn
      rw [← hl2] at hvo
      subst hvn; subst hvo
      clear hl1 hl2
      have HSI := Lib.hid hs
      have HRR := Lib.hid hr
      have HOO := Lib.hid ho
      have HRB := Lib.hid hrB
      have HMR := Lib.hid hmr
      have HOV := Lib.hid hoo
      have hrl' : r.length = bn := by omega
      have HRL := Lib.hid hrl'
      have o1 := (ints_at hRV.out.lies hR1)
      obtain ⟨q1, s1, c1', hv1, hcl1⟩ := o1
      injection hv1 with e1 e2 e3
      injection e1 with e1
      injection e1 with e1 e4
      subst e1; subst e4
      have o1 := hcl1 i _ hs
      rw [Nat.zero_add] at o1
      obtain ⟨pa, off, hpa, q, t, c, o2', hcl⟩ := seq_row HS.out hr hr0
      have o2 := old_cell hB.out o2'
      have HCL := Lib.hid hcl
      have k0 := hC.out.c0
      have k1 := hC.out.c1
      have k2 := hC.out.c2
      rw [hpa] at k1
      clear hpa
      have hii0 : (0 : Int) ≤ (i : Int) := Int.natCast_nonneg _
      have hsn0 : (0 : Int) ≤ (sn : Int) := Int.natCast_nonneg _
      have hiR : (i : Int) < (R.length : Int) := by omega
      have hsN : (sn : Int) < (rows.length : Int) := by omega
      clear hs hr ho hrB hmr hoo hrl hrl' hcl1 hcl o2' e2 e3
      go_wp2_with (at_make; refine wpList_make_full W3 rfl _ _ 23 rfl W3.heap.size 3 i0 (.int .i64 0) 1 Try.underlying23 hi0 hz0 hz1 .i64 .i64 _ _ bn rfl rfl rfl rfl (by rw [hz2]; omega) (by unfold maxLen; omega) (Nat.le_refl _) ?_; intro w1 hown hgrow; have hbw := below_of_grown hgrow; have o2'' := old_cell hbw o2; have k1' := old_cell hbw k1)
      have hO : Hid (w1.ownsRow W3.heap.size 3 1 (.slice (some ⟨W3.heap.size, 0, none⟩) bn bn) bn (((r.take 0).map (fun x => (ix R x : Int)) ++ List.replicate (bn - 0) (0 : Int)).map (Value.int .i64))) := by
        show w1.ownsRow _ _ _ _ _ _
        rw [Ints.zero_made] at hown
        simpa using hown
      have hBW := Lib.hid hbw
      obtain ⟨zb, hzb⟩ : ∃ z, z = W3.heap.size := ⟨_, rfl⟩
      have HZB := Lib.hid hzb
      rw [← hzb] at hO ⊢
      clear hown hgrow hbw hzb o2'' k1' k0 k1 k2 o1 o2
      go_loopw [30] (fun k' wr => ∃ k : Nat, k ≤ r.length ∧ k' = .int .i64 k ∧ Hid (wr.ownsRow zb 3 1 (.slice (some ⟨zb, 0, none⟩) bn bn) bn (((r.take k).map (fun x => (ix R x : Int)) ++ List.replicate (bn - k) (0 : Int)).map (Value.int .i64))) ∧ Hid (Below W3.heap.size W3 wr)) (fun k' _ => r.length - (intOf k').toNat)
      case atStart => exact ⟨0, Nat.zero_le _, rfl, hO, hBW⟩
      case round =>
        clear hO hBW
        obtain ⟨k, hkl, rfl, hO, hBW⟩ := hrel
        by_cases hlk : k < r.length
        case pos =>
          obtain ⟨x, hx⟩ : ∃ x, r[k]? = some x := ⟨_, List.getElem?_eq_getElem hlk⟩
          have HX := Lib.hid hx
          have hxR := HRB.out x (List.mem_of_getElem? hx)
          have o3 := old_cell hBW.out (old_cell hB.out (HCL.out k x hx))
          have HRV := Lib.hid ((hRV.out.has.below hBW.out).lies)
          have hL : ((r.take k).map (fun x => (ix R x : Int))).length = k := by simp; omega
          have HL := Lib.hid hL
          have hst0 := fill_ix (n := bn) (ix R x : Int) hL (by have := HRL.out; omega)
          rw [← take_map_snoc (fun x => (ix R x : Int)) hx] at hst0
          obtain ⟨m, hm⟩ : ∃ m : Nat, m = ix R x := ⟨_, rfl⟩
          rw [← hm] at hst0
          have HM := Lib.hid hm
          have q1 := hO.out.cellAt k (by have := HRL.out; omega)
          have q2 := hO.out.frozenAt k
          have hst := hO.out.stored k (.int .i64 (m : Int))
          rw [hst0] at hst
          have HS3 := Lib.hid hst
          rw [List.getElem?_map, List.getElem?_append_right (by rw [hL]; exact Nat.le_refl _), List.getElem?_replicate, if_pos (by rw [hL]; have := HRL.out; omega)] at q1
          have hkb : (k : Int) < (bn : Int) := by have := HRL.out; omega
          have hkb2 : k < bn := by have := HRL.out; omega
          have hk0 : (0 : Int) ≤ (k : Int) := Int.natCast_nonneg _
          have hkr : (k : Int) < (r.length : Int) := by omega
          have HXR := Lib.hid hxR
          clear hx hxR hL hst0 hst hm
          go_wp2_with (go_at_call 96; refine (index_any _ _ _ _ HRV.out HXR.out HRN.out).mono ?_; rintro e w' ⟨rfl, rfl⟩; rw [← HM.out])
          go_roundw
          case rel => exact ⟨k + 1, by omega, by go_num, HS3.out.1, hBW.out.trans (by
            have h1 := (Below.refl W3.heap.size wr).grown HS3.out.2 hBW.out.size (fun k hk => by have e2 : zb = k := Option.some.inj hk; have := HZB.out; omega)
            exact h1)⟩
          case measure => simp [intOf]; omega
        case neg =>
          obtain rfl : k = r.length := by omega
          obtain ⟨W4, rfl⟩ : ∃ W : World, W = wr := ⟨_, rfl⟩
          have HU : Hid (Has (Value.int .i64) 3 W4 hi (.slice (some ⟨zb, 0, none⟩) bn bn) (minRow rows R sn)) := by
            have h1 := hO.out
            rw [List.take_length, HRL.out, Nat.sub_self, List.replicate_zero, List.append_nil] at h1
            have h2 : Has (Value.int .i64) 3 W4 W3.heap.size (.slice (some ⟨zb, 0, none⟩) bn bn) (minRow rows R sn) := by
              show W4.ownsRow _ _ _ _ _ _
              rw [HMR.out, List.length_map, HRL.out]
              rw [HZB.out] at h1 ⊢
              exact h1
            exact h2.mono hBL.out.le
          have HBL4 := Lib.hid (hBL.out.below hBW.out)
          have HRV4 := Lib.hid (hRV.out.below hBW.out)
          have HC4 := Lib.hid (hC.out.below hBW.out)
          have HZ4 := Lib.hid (hZ.out.below hBW.out)
          have HB4 := Lib.hid (hB.out.trans (hBW.out.mono hB.out.size))
          have HLT := Lib.hid (take_map_snoc (minRow rows R) HSI.out)
          have HLO := Lib.hid (take_map_snoc (fun s : Int => out.getD s.toNat 0) HSI.out)
          obtain ⟨po, oo, hpo, ho1⟩ : ∃ po oo, ao = some ⟨po, oo, none⟩ ∧ w.cell? ⟨po, oo + sn, none⟩ = some (.int .i64 o) := by
            obtain ⟨q', s', h1, h2⟩ := HS.out.cells.2 sn o HOO.out
            exact ⟨q', s', h1, h2⟩
          have HPO := Lib.hid hpo
          have HO1 := Lib.hid ho1
          have hsO : (sn : Int) < (out.length : Int) := by have := HV.out.2.2.2.2.1; omega
          have hsO2 : sn < out.length := by omega
          have d1 := HBL4.out.cells.c1
          have d2 := (HBL4.out.cells.alloc (.cells #[Value.slice (some ⟨zb, 0, none⟩) bn bn] 23)).c1
          have hpl := HBL4.out.cells.lt
          have HNP := Lib.hid (has_ne_c3 HBL4.out.top HBL4.out.cells (by decide))
          have HNC := Lib.hid (has_ne_c3 HBL4.out.top HC4.out (by decide))
          have HNZ := Lib.hid (has_ne_c3 HBL4.out.top HZ4.out (by decide))
          have HLO4 := Lib.hid (show BB ≤ W4.heap.size from Nat.le_trans HBL4.out.lo HBL4.out.le)
          clear hO hBL hRV hC hZ hB hBW hpo ho1
          go_wp2_with (at_builtin; refine wpList_append_list (enc := id) (e := 23) rfl _ _ 22 rfl BB i2 (.slice none 0 0) 24 Try.underlying22 hi2 hz20 hz21 hz22 rfl (.slice na l1 nc) us rfl (has_alloc HBL4.out.top _) (.slice (some ⟨W4.heap.size, 0, none⟩) 1 1) [.slice (some ⟨zb, 0, none⟩) bn bn] rfl (lies_lit1v _ rfl) (fun y hy => by simp at hy; subst hy; rfl) (by rw [HUSL.out]; simp; omega) (by rw [HUSL.out]; simp; omega) (by have := HLO4.out; simp; omega) ?_; intro v' w2 hv' hg2 _; obtain ⟨a2, c2, hvf, _⟩ := hv'.form; rw [show (us ++ [Value.slice (some ⟨zb, 0, none⟩) bn bn]).length = l1 + 1 from by rw [List.length_append, HUSL.out]; rfl] at hvf; subst hvf; have hg3 := grown_alloc hg2; have hc2 := HBL4.out.cells.grown hg3 HNP.out; have d3 := hc2.c1; have df := hc2.f)
          obtain ⟨l3, hl3⟩ : ∃ l, l = l1 + 1 := ⟨_, rfl⟩
          rw [← hl3] at hv' ⊢
          have HBL5 := Lib.hid (HBL4.out.row HU.out hv' hg3)
          have HG5 : Hid (BB ≤ w2.heap.size) := Nat.le_trans HLO4.out hg3.size
          have hne1 : (p : Nat) ≠ w.heap.size := by have := HS2.out; omega
          have hne2 : (p : Nat) ≠ w.heap.size + 1 := by have := HS2.out; omega
          have hne3 : w.heap.size ≤ p := by have := HS2.out; omega
          have HC5 := Lib.hid ((HC4.out.grown hg3 HNC.out).other (a := ⟨p, 1, none⟩) hne1 (.slice a2 l3 c2))
          have HZ5 := Lib.hid ((HZ4.out.grown hg3 HNZ.out).other (a := ⟨p, 1, none⟩) hne2 (.slice a2 l3 c2))
          have HB5 : Hid (Below w.heap.size w (w2.setCell ⟨p, 1, none⟩ (.slice a2 l3 c2))) := (HBL4.out.top.frame HB4.out (by have := HBB.out.2; omega) hg3).setCell hne3 _
          have HRV5 : Hid (OwnI (w2.setCell ⟨p, 1, none⟩ (.slice a2 l3 c2)) w.heap.size BB (.slice (some ⟨rq, 0, none⟩) R.length rc) R) :=
            (HRV4.out.grown hg3 (fun k hk => .inr (HBL4.out.top.lt k hk).1)).set (a := ⟨p, 1, none⟩) (has_ne_c3 (HRV4.out.grown hg3 (fun k hk => .inr (HBL4.out.top.lt k hk).1)).has hc2 (by decide)) _
          have HG6 : Hid (BB ≤ (w2.setCell ⟨p, 1, none⟩ (.slice a2 l3 c2)).heap.size) := by show _ ≤ _; rw [size_setCell']; exact HG5.out
          obtain ⟨W5, hW5⟩ : ∃ W, W = w2.setCell ⟨p, 1, none⟩ (.slice a2 l3 c2) := ⟨_, rfl⟩
          rw [← hW5] at HBL5 HC5 HZ5 HB5 HRV5 HG6 ⊢
          have HW5 := Lib.hid (show w2.heap.size = W5.heap.size by rw [hW5, size_setCell'])
          rw [HW5.out] at HBL5
          clear hv' hg2 hg3 hc2 d1 d2 d3 df hpl HBL4 HC4 HZ4 HB4 HRV4 hW5 hl3 HNP HNC HNZ HLO4 HG5
          have HVO := Lib.hid HBL5.out.terms
          have hOL : ((R.take i).map fun s => out.getD s.toNat 0).length = l2 := HL2.out.symm
          have HOL := Lib.hid hOL
          have c3 := HBL5.out.cells.c2
          have c4 := (HBL5.out.cells.alloc (.cells #[Value.int .i64 o] 3)).c2
          have kk2 := HC5.out.c2
          rw [HPO.out] at kk2
          have ko := old_cell HB5.out HO1.out
          have hpl := HBL5.out.cells.lt
          have HNO := Lib.hid (has_ne_c3 HVO.out.has HBL5.out.cells (by decide))
          have HNC := Lib.hid (has_ne_c3 HVO.out.has HC5.out (by decide))
          have HNZ := Lib.hid (has_ne_c3 HVO.out.has HZ5.out (by decide))
          clear hOL
          go_region_law ((refine step_append_at_list (enc := Value.int .i64) (e := 3) rfl (.tmp 49) (.tmp 55) 23 rfl BB i0 (.int .i64 0) 8 Try.underlying23 hi0 hz0 hz1 hz2 rfl (.slice oa l2 oc) ((R.take i).map fun s => out.getD s.toNat 0) rfl (by repeat (first | with_reducible exact HVO.out.has | with_reducible apply has_drew | with_reducible apply has_alloc)) (Value.slice (some ⟨_, 0, none⟩) 1 1) [o] rfl (by repeat (first | with_reducible apply lies_drew | (with_reducible refine lies_lit1 (enc := Value.int .i64) _ rfl) | with_reducible apply lies_alloc)) (fun _ _ => rfl) (by rw [HOL.out]; simp; omega) (by rw [HOL.out]; simp; omega) (by have := HG6.out; simp; omega) ?_; intro vt w6 ho6 hg6 hb6; obtain ⟨a6, c6, hvf, _⟩ := ho6.form; rw [show ((R.take i).map (fun s => out.getD s.toNat 0) ++ [o]).length = l2 + 1 from by rw [List.length_append, HOL.out]; rfl] at hvf; subst hvf; refine with_fact (T := W5.grownBy w6 (Value.slice oa l2 oc).ownBlock) ?_ ?_; (focus (exact grown_alloc (grown_drew hg6))); intro hg7; have hc7 := HBL5.out.cells.grown hg7 HNO.out; have r1 := hc7.c2; have r3 := hc7.f))
          all_goals
            have HBL7 := Lib.hid (HBL5.out.term ho6 hg7 (fun k hk => (hb6 k hk).imp id (fun h => by simp at h; omega)))
            have HG8 : Hid (BB ≤ w6.heap.size) := Nat.le_trans HG6.out hg7.size
            have HC7 := Lib.hid ((HC5.out.grown hg7 HNC.out).other (a := ⟨p, 2, none⟩) hne1 (.slice a6 (l2 + 1) c6))
            have HZ7 := Lib.hid ((HZ5.out.grown hg7 HNZ.out).other (a := ⟨p, 2, none⟩) hne2 (.slice a6 (l2 + 1) c6))
            have HB7 : Hid (Below w.heap.size w (w6.setCell ⟨p, 2, none⟩ (.slice a6 (l2 + 1) c6))) := (HVO.out.has.frame HB5.out (by have := HBB.out.2; omega) hg7).setCell hne3 _
            have HRV7 : Hid (OwnI (w6.setCell ⟨p, 2, none⟩ (.slice a6 (l2 + 1) c6)) w.heap.size BB (.slice (some ⟨rq, 0, none⟩) R.length rc) R) :=
              (HRV5.out.grown hg7 (fun k hk => .inr (HVO.out.has.lt k hk).1)).set (a := ⟨p, 2, none⟩) (has_ne_c3 (HRV5.out.grown hg7 (fun k hk => .inr (HVO.out.has.lt k hk).1)).has hc7 (by decide)) _
            rw [← HLT.out] at HBL7
            have HBL8 : Hid (Building (w6.setCell ⟨p, 2, none⟩ (.slice a6 (l2 + 1) c6)) BB w6.heap.size p (bn : Int) (.slice a2 l3 c2) (.slice a6 (l2 + 1) c6) (us ++ [.slice (some ⟨zb, 0, none⟩) bn bn]) ((R.take (i + 1)).map (minRow rows R)) ((R.take (i + 1)).map fun s => out.getD s.toNat 0)) := by
              have h1 := HBL7.out
              rw [← HOV.out, ← HLO.out] at h1
              exact h1
            clear ho6 hb6 hg6 hg7 hc7 r1 r3 c3 c4 kk2 ko hpl HBL5 HVO HNO HNC HNZ HBL7
            go_wp2
            go_roundw
            case rel => exact ⟨i + 1, _, _, _, w6.heap.size, by omega, by go_num, HBL8, HRV7, HC7, HZ7, HB7⟩
            case measure => simp [intOf]; omega
end Mins
end Go.Proofs.Ythnmighlgifoeaa
