/- Several texts of this proof, one behind the other: each says ahead of it what it shows and under which conditions. -/
import Derived.Test.YtgbgcaaekpgapacFM2
import Derived.Deep.RegionHeld3
import Derived.Deep.DeepCutAuto
import Derived.Test.YtgbgcaaekpgapacFM1
import Derived.Maps.OwnOps
import Derived.Maps.OwnSet
import Derived.Maps.RangeWalk
import Derived.DeepKeys4
/- Contracts of ReachedStates, of the program and of the model. No conditions beyond those that each states. -/
namespace Go.Proofs.Ytgbgcaaekpgapac
open Go.ChangeShapes Go.WideShapes Go.ChangeAt Go.RowKit
open Go.PlainAid Plain
set_option linter.unusedVariables false
namespace Mins
open Seqs
/-- Does the list hold the number? -/
def inB (x : Int) (xs : List Int) : Bool := decide (x ∈ xs)
theorem inB_yes {x : Int} {xs : List Int} (h : x ∈ xs) : inB x xs = true := decide_eq_true h
theorem inB_no {x : Int} {xs : List Int} (h : x ∉ xs) : inB x xs = false := decide_eq_false h
theorem inB_at {x y : Int} {xs : List Int} {k : Nat} (h : xs[k]? = some y) (e : y = x) : inB x xs = true := inB_yes (e ▸ List.mem_of_getElem? h)
theorem inB_none {x : Int} {xs : List Int} (h : ∀ (j : Nat) (y : Int), xs[j]? = some y → ¬ y = x) : inB x xs = false := inB_no fun hm => by
  obtain ⟨j, hj⟩ := List.getElem?_of_mem hm
  exact h j x hj rfl
/-- A slice of ints that is not empty: its cells. -/
theorem ints_at {w : World} {v : Value} {xs : List Int} (h : Lies (Value.int .i64) w v xs) (hp : 0 < xs.length) : ∃ q s c, v = .slice (some ⟨q, s, none⟩) xs.length c ∧ ∀ (k : Nat) (x : Int), xs[k]? = some x → w.cell? ⟨q, s + k, none⟩ = some (.int .i64 x) := by
  obtain ⟨_, a, c, rfl, _, hc⟩ := h
  obtain ⟨q, s, rfl, _⟩ := hc 0 _ (List.getElem?_eq_getElem hp)
  refine ⟨q, s, c, rfl, fun k x hx => ?_⟩
  obtain ⟨q', s', h1, h2⟩ := hc k x hx
  injection h1 with h1
  injection h1 with h1 h3
  subst h1; subst h3
  exact h2
theorem impl_has (v : Value) (xs : List Int) (x : Int) (w : World) (h : Lies (Value.int .i64) w v xs) (c : Bool) (hc : inB x xs = c) :
    Calls Try.prog 61 #[v, .int .i64 x] w fun e w' => e = .returned (.bool c) ∧ w = w' := by
  have hin : xs.contains x = c := by rw [← hc, inB, List.contains_eq_mem]
  rcases Nat.eq_zero_or_pos xs.length with h0 | h0
  · have hx : xs = [] := List.eq_nil_of_length_eq_zero h0
    subst hx
    obtain ⟨_, a, ca, rfl, _, _⟩ := h
    exact (Try.slices_Contains_int_empty a ca x w).mono fun _ _ ⟨he, hw⟩ => ⟨by rw [he, ← hin]; rfl, hw.symm⟩
  · obtain ⟨q, s, c', rfl, hcl⟩ := ints_at h h0
    refine (Try.slices_Contains_int q s xs.length c' xs x w (Nat.le_refl _) h.1 (fun j hj => ?_)).mono fun _ _ ⟨he, hw⟩ => ⟨?_, hw.symm⟩
    · rw [hcl j _ (List.getElem?_eq_getElem hj), List.getD_eq_getElem?_getD, List.getElem?_eq_getElem hj]
      rfl
    · rw [he, List.take_length, hin]
theorem old_cell {w w' : World} {p o : Nat} {u : Value} (hb : Below w.heap.size w w') (h : w.cell? ⟨p, o, none⟩ = some u) : w'.cell? ⟨p, o, none⟩ = some u := (hb.cell (p := ⟨p, o, none⟩) (World.block_lt_of_cell? w _ h)).trans h
/-- A row of a sequence that is not empty: its slice's cell and its own cells. -/
theorem seq_row {w : World} {b : Int} {rows : List (List Int)} {out : List Int} {an ao : Option Addr} {cn co : Nat} (h : LiesS w (.agg #[.int .i64 b, .slice an rows.length cn, .slice ao out.length co]) b rows out) {i : Nat} {r : List Int} (hr : rows[i]? = some r) (hp : 0 < r.length) :
    ∃ pa off, an = some ⟨pa, off, none⟩ ∧ ∃ q s c, w.cell? ⟨pa, off + i, none⟩ = some (.slice (some ⟨q, s, none⟩) r.length c) ∧ ∀ (k : Nat) (x : Int), r[k]? = some x → w.cell? ⟨q, s + k, none⟩ = some (.int .i64 x) := by
  obtain ⟨p, o, a', c', h1, h2, h3⟩ := h.cells.1 i r hr
  obtain ⟨q, s, rfl, _⟩ := h3 0 _ (List.getElem?_eq_getElem hp)
  refine ⟨p, o, h1, q, s, c', h2, fun k x hx => ?_⟩
  obtain ⟨q', s', h4, h5⟩ := h3 k x hx
  injection h4 with h4
  injection h4 with h4 h6
  subst h4; subst h6
  exact h5
theorem four_cells {w w' : World} {a0 b0 a1 b1 a2 b2 a3 b3 : Nat} {u0 u1 u2 u3 : Value} (hb : Below w.heap.size w w') (h0 : w.cell? ⟨a0, b0, none⟩ = some u0) (h1 : w.cell? ⟨a1, b1, none⟩ = some u1) (h2 : w.cell? ⟨a2, b2, none⟩ = some u2) (h3 : w.cell? ⟨a3, b3, none⟩ = some u3) :
    w'.cell? ⟨a0, b0, none⟩ = some u0 ∧ w'.cell? ⟨a1, b1, none⟩ = some u1 ∧ w'.cell? ⟨a2, b2, none⟩ = some u2 ∧ w'.cell? ⟨a3, b3, none⟩ = some u3 := ⟨old_cell hb h0, old_cell hb h1, old_cell hb h2, old_cell hb h3⟩
theorem take_snoc' {xs : List Int} {k : Nat} {x : Int} (h : xs[k]? = some x) : xs.take (k + 1) = xs.take k ++ [x] := by
  obtain ⟨hk, rfl⟩ := List.getElem?_eq_some_iff.1 h
  exact List.take_succ_eq_append_getElem hk
theorem addAll_old {l xs : List Int} {k : Nat} {x : Int} (h : xs[k]? = some x) (hm : x ∈ addAll l (xs.take k)) : addAll l (xs.take (k + 1)) = addAll l (xs.take k) := by
  rw [take_snoc' h, addAll_snoc, addTo_in hm]
theorem addAll_new {l xs : List Int} {k : Nat} {x : Int} (h : xs[k]? = some x) (hm : x ∉ addAll l (xs.take k)) : addAll l (xs.take (k + 1)) = addAll l (xs.take k) ++ [x] := by
  rw [take_snoc' h, addAll_snoc, addTo_new hm]
/-- What a round of the search starts from. -/
theorem round_facts {b : Int} {rows : List (List Int)} {out : List Int} (hv : IsSeq b rows out) {i : Nat} (hi : i < (reachI rows i).length) :
    ∃ (sn : Nat) (r : List Int), (reachI rows i)[i]? = some (sn : Int) ∧ sn < rows.length ∧ rows[sn]? = some r ∧ (r.length : Int) = b ∧ 0 < r.length ∧ r.length ≤ 4 ∧ (∀ x ∈ r, 0 ≤ x ∧ x < (rows.length : Int)) ∧ reachI rows (i + 1) = addAll (reachI rows i) r ∧ i < rows.length ∧ rows.length ≤ 16 := by
  have hc := hv.closed
  have h1 : (reachI rows i)[i]? = some (reachI rows i)[i] := List.getElem?_eq_getElem hi
  have h2 := (reachI_ok hc i).2 _ (List.getElem_mem hi)
  have h3 := rowOf_get h2.1 h2.2
  have h4 := hv.2.2.2.2.2.1 _ (rowOf_mem h2.1 h2.2)
  have h5 := hv.1
  have h6 := hv.2.1
  have h7 := reachI_len hc i
  refine ⟨(reachI rows i)[i].toNat, rowOf rows (reachI rows i)[i], by rw [h1]; congr 1; omega, by omega, h3, h4.1, by omega, by omega, h4.2, reachI_step h1, by omega, hv.2.2.2.1⟩
/-- What stands in the middle of a round. -/
theorem mid_facts {rows : List (List Int)} (hc : Closed rows) {i k : Nat} {r : List Int} (hr : ∀ x ∈ r, 0 ≤ x ∧ x < (rows.length : Int)) (hi : i < (reachI rows i).length) :
    (addAll (reachI rows i) (r.take k)).length ≤ rows.length ∧ i < (addAll (reachI rows i) (r.take k)).length := by
  refine ⟨nodup_bounded _ _ (addAll_nodup _ _ (reachI_ok hc i).1) fun x hx => ?_, ?_⟩
  · rcases (mem_addAll _ _ _).1 hx with h | h
    · exact (reachI_ok hc i).2 x h
    · exact hr x (List.mem_of_mem_take h)
  · exact Nat.lt_of_lt_of_le hi (addAll_prefix _ _).length_le

theorem impl_reach_no (v : Value) (b : Int) (rows : List (List Int)) (out : List Int) (w : World) (h : LiesS w v b rows out) (hq : seqB b rows out = false) :
    Calls Try.prog 54 #[v] w (Gives (Value.int .i64) 3 [] w) := by
  have HS := Lib.hid h
  obtain ⟨an, cn, ao, co, rfl⟩ := h.form
  clear h
  have HB : Hid (Below w.heap.size w (w.alloc (Obj.cells #[Value.int .i64 b, Value.slice an rows.length cn, Value.slice ao out.length co] 30))) := (Below.refl _ _).alloc (Nat.le_refl _) _
  have HC := Lib.hid (Cells3.new w 30 (.int .i64 b) (.slice an rows.length cn) (.slice ao out.length co))
  have HQ := Lib.hid hq
  have k0 := HC.out.c0
  have k1 := HC.out.c1
  have k2 := HC.out.c2
  clear hq HC
  go_enter Try.func54, Try.ntmps54
  go_wp2_with fail
  refine (impl_is _ b rows out _ (HS.out.below HB.out)).mono ?_
  rintro e W1 ⟨rfl, b1⟩
  rw [HQ.out]
  have HB3 := Lib.hid (HB.out.trans (b1.mono HB.out.size))
  clear b1
  go_wp2
  go_ret
  exact ⟨_, rfl, World.ownsRow_nil _ _ _ _, HB3.out⟩
set_option maxHeartbeats 1000000 in
theorem impl_reach_yes (v : Value) (b : Int) (rows : List (List Int)) (out : List Int) (w : World) (h : LiesS w v b rows out) (hq : seqB b rows out = true) :
    Calls Try.prog 54 #[v] w (Gives (Value.int .i64) 3 (reached rows) w) := by
  obtain ⟨i0, hi, hz0, hz1, hz2⟩ := info_parts Ints.infoI
  have HS := Lib.hid h
  obtain ⟨an, cn, ao, co, rfl⟩ := h.form
  clear h
  have HB : Hid (Below w.heap.size w (w.alloc (Obj.cells #[Value.int .i64 b, Value.slice an rows.length cn, Value.slice ao out.length co] 30))) := (Below.refl _ _).alloc (Nat.le_refl _) _
  have HC := Lib.hid (Cells3.new w 30 (.int .i64 b) (.slice an rows.length cn) (.slice ao out.length co))
  have HQ := Lib.hid hq
  have HV := Lib.hid (seqB_out hq)
  clear hq
  have hN : rows.length ≤ 16 := HV.out.2.2.2.1
  have k0 := HC.out.c0
  have k1 := HC.out.c1
  have k2 := HC.out.c2
  go_enter Try.func54, Try.ntmps54
  go_wp2_with fail
  refine (impl_is _ b rows out _ (HS.out.below HB.out)).mono ?_
  rintro e W1 ⟨rfl, b1⟩
  rw [HQ.out]
  have HB3 := Lib.hid (HB.out.trans (b1.mono HB.out.size))
  have HC3 := Lib.hid (HC.out.below b1)
  have HZ3 : Hid (w.heap.size + 1 ≤ W1.heap.size) := by
    have := b1.size
    rw [size_alloc'] at this
    exact this
  have hO4 : Hid (Has (Value.int .i64) 3 (W1.alloc (.cells #[.int .i64 0] 3)) (w.heap.size + 1) (.slice (some ⟨W1.heap.size, 0, none⟩) 1 1) (reachI rows 0)) := has_lit1 (enc := Value.int .i64) 0 rfl HZ3.out
  have hB4 : Hid (Below w.heap.size w (W1.alloc (.cells #[.int .i64 0] 3))) := HB3.out.alloc HB3.out.size _
  have hC4 := Lib.hid (HC3.out.alloc (.cells #[.int .i64 0] 3))
  have hZ4 : Hid (w.heap.size + 1 ≤ (W1.alloc (.cells #[.int .i64 0] 3)).heap.size) := by have := HZ3.out; show _ ≤ _; simp; omega
  clear b1 HB HC k0 k1 k2 HB3 HC3 HZ3
  go_wp2_with fail
  go_loopw [3, 4] (fun o' i' wr => ∃ i : Nat, i ≤ (reachI rows i).length ∧ i' = .int .i64 i ∧ Hid (Has (Value.int .i64) 3 wr (w.heap.size + 1) o' (reachI rows i)) ∧ Hid (Cells3 wr w.heap.size 30 (.int .i64 b) (.slice an rows.length cn) (.slice ao out.length co)) ∧ Hid (Below w.heap.size w wr) ∧ Hid (w.heap.size + 1 ≤ wr.heap.size)) (fun _ i' _ => rows.length - (intOf i').toNat)
  case atStart => exact ⟨0, Nat.zero_le _, rfl, hO4, hC4, hB4, hZ4⟩
  case round =>
    obtain ⟨i, hil, rfl, hown, hC, hB, hZ⟩ := hrel
    by_cases hlt : i < (reachI rows i).length
    case neg =>
      have HE := Lib.hid (reachI_end HV.out.closed (i := i) (by omega))
      have hd : decide ((i : Int) < ((reachI rows i).length : Int)) = false := decide_eq_false (by omega)
      have HX : Hid (Has (Value.int .i64) 3 wr w.heap.size u3 (reached rows)) := by rw [← HE.out]; exact hown.out.mono (Nat.le_succ _)
      obtain ⟨oa, oc, rfl, _⟩ := hown.out.form
      go_wp2
      go_ret
      exact ⟨_, rfl, HX.out, hB.out⟩
    case pos =>
      obtain ⟨sn, r, hs, hsn, hr, hrb, hr0, hr4, hrB, hst, hi1, _⟩ := round_facts HV.out hlt
      have HS1 := Lib.hid hs
      have HR := Lib.hid hr
      have HRB := Lib.hid hrB
      have HST := Lib.hid hst
      have HRBL := Lib.hid hrb
      clear hs hr hrB hst hrb
      obtain ⟨q0, s0, c0, rfl, hoc⟩ := ints_at hown.out.lies (by omega)
      have o1 := hoc i _ HS1.out
      obtain ⟨pa, off, hpa, q, s, c, o2', hcl⟩ := seq_row HS.out HR.out hr0
      have o2 := old_cell hB.out o2'
      have HCL := Lib.hid hcl
      clear hoc hcl o2'
      have hd0 : decide ((i : Int) < ((reachI rows i).length : Int)) = true := decide_eq_true (by omega)
      have k0 := hC.out.c0
      have k1 := hC.out.c1
      have k2 := hC.out.c2
      rw [hpa] at k1
      clear hpa
      go_wp2
      go_quiet (fail)
      have HBD := Lib.hid (below_drewN (Below.refl wr.heap.size wr) nq)
      have hC2 := Lib.hid (hC.out.below HBD.out)
      have hB2 := Lib.hid (hB.out.trans (HBD.out.mono hB.out.size))
      have hO2 := Lib.hid (hown.out.below HBD.out)
      have hZ2 := Lib.hid (Nat.le_trans hZ.out HBD.out.size)
      go_wp2_with fail
      obtain ⟨W2, hW2⟩ : ∃ W, W = wr.drewN nq := ⟨_, rfl⟩
      rw [← hW2] at hO2 hC2 hB2 hZ2 ⊢
      clear hW2 HBD k0 k1 k2 o1 o2 hown hC hB hZ
      go_loopw [3, 26] (fun o' k' wr => ∃ k : Nat, k ≤ r.length ∧ k' = .int .i64 k ∧ Hid (Has (Value.int .i64) 3 wr (w.heap.size + 1) o' (addAll (reachI rows i) (r.take k))) ∧ Hid (Cells3 wr w.heap.size 30 (.int .i64 b) (.slice an rows.length cn) (.slice ao out.length co)) ∧ Hid (Below w.heap.size w wr) ∧ Hid (w.heap.size + 1 ≤ wr.heap.size)) (fun _ k' _ => r.length - (intOf k').toNat)
      case atStart => exact ⟨0, Nat.zero_le _, rfl, hO2, hC2, hB2, hZ2⟩
      case round =>
        clear hO2 hC2 hB2 hZ2
        obtain ⟨k, hk, rfl, hown, hC, hB, hZ⟩ := hrel
        by_cases hlk : k < r.length
        case neg =>
          have HT : Hid (reachI rows (i + 1) = addAll (reachI rows i) (r.take k)) := by show _ = _; rw [HST.out, List.take_of_length_le (by omega)]
          have hm := mid_facts HV.out.closed (i := i) (k := k) HRB.out hlt
          have hH : Has (Value.int .i64) 3 wr (w.heap.size + 1) u3 (reachI rows (i + 1)) := by rw [HT.out]; exact hown.out
          have HH := Lib.hid hH
          have hle : i + 1 ≤ (reachI rows (i + 1)).length := by rw [HT.out]; exact hm.2
          clear hm hH
          go_wp2
          go_roundw
          case rel => exact ⟨i + 1, hle, by go_num, HH, hC, hB, hZ⟩
          case measure => simp [intOf]; omega
        case pos =>
          obtain ⟨x, hx⟩ : ∃ x, r[k]? = some x := ⟨_, List.getElem?_eq_getElem hlk⟩
          have HX := Lib.hid hx
          clear hx
          have hm := mid_facts HV.out.closed (i := i) (k := k) HRB.out hlt
          have hml : (addAll (reachI rows i) (r.take k)).length ≤ 16 := by have := hm.1; omega
          clear hm
          have o3 := old_cell hB.out (HCL.out k x HX.out)
          by_cases hin : x ∈ addAll (reachI rows i) (r.take k)
          · have HE := Lib.hid (addAll_old HX.out hin)
            have HI := Lib.hid (inB_yes hin)
            clear hin
            obtain ⟨oa, oc, rfl, _⟩ := hown.out.form
            go_wp2_with (go_at_call 61; refine (impl_has _ _ _ _ hown.out.lies _ HI.out).mono ?_; rintro e w' ⟨rfl, rfl⟩)
            have hO2 : Hid (Has (Value.int .i64) 3 wr (w.heap.size + 1) (.slice oa (addAll (reachI rows i) (r.take k)).length oc) (addAll (reachI rows i) (r.take (k + 1)))) := by
              show Has _ _ _ _ _ _
              rw [HE.out]
              exact hown.out
            go_roundw
            case rel => exact ⟨k + 1, by omega, by go_num, hO2, hC, hB, hZ⟩
            case measure => simp [intOf]; omega
          · have HE := Lib.hid (addAll_new HX.out hin)
            have HI := Lib.hid (inB_no hin)
            clear hin
            go_wp2_with (first | (go_at_call 61; refine (impl_has _ _ _ _ hown.out.lies _ HI.out).mono ?_; rintro e w' ⟨rfl, rfl⟩) | (at_builtin; refine append_one (enc := Value.int .i64) (e := 3) wr rfl _ _ 23 rfl (w.heap.size + 1) i0 (.int .i64 0) 8 Try.underlying23 hi hz0 hz1 hz2 rfl u3 (addAll (reachI rows i) (r.take k)) rfl hown.out x rfl (fun _ => rfl) (by omega) (by omega) hZ.out ?_; intro v' w' hown' hgrow'))
            have hB4 : Hid (Below w.heap.size w w') := hown.out.frame hB.out (Nat.le_succ _) hgrow'
            have hC4 := Lib.hid (hC.out.grown hgrow' (fun e => by have := (hown.out.lt _ e).1; omega))
            have hO4 : Hid (Has (Value.int .i64) 3 w' (w.heap.size + 1) v' (addAll (reachI rows i) (r.take (k + 1)))) := by show Has _ _ _ _ _ _; rw [HE.out]; exact hown'
            have hZ4 := Lib.hid (Nat.le_trans hZ.out hgrow'.size)
            clear hown' hgrow' hown hC hB hZ o3
            go_wp2
            go_roundw
            case rel => exact ⟨k + 1, by omega, by go_num, hO4, hC4, hB4, hZ4⟩
            case measure => simp [intOf]; omega
theorem reach_ends {b : Int} {rows : List (List Int)} {out : List Int} : (reachV b rows out).length ≤ 16 := by
  unfold reachV
  split
  · rename_i h
    have hv := seqB_out h
    have := reached_len hv.closed
    have := hv.2.2.2.1
    omega
  · simp
theorem impl_reach (v : Value) (b : Int) (rows : List (List Int)) (out : List Int) (w : World) (h : LiesS w v b rows out) : Calls Try.prog 54 #[v] w (Gives (Value.int .i64) 3 (reachV b rows out) w) := by
  cases hq : seqB b rows out with
  | false => rw [reachV, if_neg (by simp [hq])]; exact impl_reach_no v b rows out w h hq
  | true => rw [reachV, if_pos hq]; exact impl_reach_yes v b rows out w h hq
end Mins
end Go.Proofs.Ytgbgcaaekpgapac
/- Contracts of the model's StateClasses and of the function that numbers equal lists. No conditions beyond those that each states. -/
namespace Go.Proofs.Ytgbgcaaekpgapac
open Go.ChangeShapes Go.WideShapes Go.ChangeAt Go.RowKit
open Go.PlainAid Plain
set_option linter.unusedVariables false
namespace Mins
open Seqs
theorem same_q {u v : Value} {xs ys : List Int} {w : World} {n : Nat} {c : Bool} (h1 : Lies (Value.int .i64) w u xs) (h2 : Lies (Value.int .i64) w v ys) (hc : decide (xs = ys) = c) :
    Calls Try.prog 34 #[u, v] (w.drewN n) fun e w' => e = .returned (.bool c) ∧ ∃ m, w' = w.drewN m :=
  (same_ints u v xs ys _ (h1.below (below_drewN (Below.refl _ _) n)) (h2.below (below_drewN (Below.refl _ _) n))).mono fun _ _ ⟨he, m, hm⟩ => ⟨by rw [he, hc], n + m, by rw [hm, World.drewN_drewN]⟩
/-- What the search for an equal key has found. -/
def FoundR (keys : List (List Int)) (i : Nat) (key : List Int) (k : Nat) (f : Int) : Prop := (f = -1 ∧ ∀ j < k, keys[j]? ≠ some key) ∨ (0 ≤ f ∧ key ∈ keys.take i ∧ f = (ix (dist (keys.take i)) key : Int))
theorem found_end {keys : List (List Int)} {i : Nat} {key : List Int} {k : Nat} {f : Int} (hi : keys[i]? = some key) (h : FoundR keys i key k f) (he : k = i ∨ 0 ≤ f) (hk : k ≤ i) :
    (f = -1 ∧ numb (keys.take (i + 1)) = numb (keys.take i) ++ [((dist (keys.take i)).length : Int)] ∧ (dist (keys.take (i + 1))).length = (dist (keys.take i)).length + 1) ∨
    (0 ≤ f ∧ numb (keys.take (i + 1)) = numb (keys.take i) ++ [f] ∧ (dist (keys.take (i + 1))).length = (dist (keys.take i)).length) := by
  have ht : keys.take (i + 1) = keys.take i ++ [key] := by
    obtain ⟨hk, rfl⟩ := List.getElem?_eq_some_iff.1 hi
    exact List.take_succ_eq_append_getElem hk
  rcases h with ⟨rfl, hn⟩ | ⟨h0, hm, rfl⟩
  · have hki : k = i := by omega
    subst hki
    have hno : key ∉ keys.take k := fun hm => by
      obtain ⟨j, hj⟩ := List.getElem?_of_mem hm
      have hjl := (List.getElem?_eq_some_iff.1 hj).1
      rw [List.length_take] at hjl
      rw [List.getElem?_take, if_pos (by omega)] at hj
      exact hn j (by omega) hj
    refine .inl ⟨rfl, ?_, ?_⟩
    · rw [ht, numb_new hno]
    · rw [ht, dist_snoc, addTo_new (fun h => hno (mem_dist.1 h))]
      simp
  · refine .inr ⟨h0, ?_, ?_⟩
    · rw [ht, numb_old hm]
    · rw [ht, dist_snoc, addTo_in (mem_dist.2 hm)]
/-- A row's slice and its cells in a slice of rows. -/
theorem rows_at {w : World} {v : Value} {rows : List (List Int)} (h : LiesR w v rows) (hp : 0 < rows.length) : ∃ p o c, v = .slice (some ⟨p, o, none⟩) rows.length c ∧ rows.length ≤ 9223372036854775807 ∧
    ∀ (i : Nat) (r : List Int), rows[i]? = some r → ∃ u, w.cell? ⟨p, o + i, none⟩ = some u ∧ Lies (Value.int .i64) w u r := by
  obtain ⟨a, cap, rfl, hl, hc⟩ := h.row
  obtain ⟨p, o, u, rfl, _, _⟩ := hc 0 _ (List.getElem?_eq_getElem hp)
  refine ⟨p, o, cap, rfl, hl, fun i r hr => ?_⟩
  obtain ⟨p', o', u', h1, h2, h3⟩ := hc i r hr
  injection h1 with h1
  injection h1 with h1 h4
  subst h1; subst h4
  exact ⟨u', h2, h3⟩
set_option maxHeartbeats 1000000 in
theorem number_any (v : Value) (keys : List (List Int)) (w : World) (h : LiesR w v keys) (hk : keys.length ≤ 1000) :
    Calls Try.prog 40 #[v] w (Gives (Value.int .i64) 3 (numb keys) w) := by
  obtain ⟨i0, hi, hz0, hz1, hz2⟩ := info_parts Ints.infoI
  have HS := Lib.hid h
  obtain ⟨va, vc, rfl, hl63, _⟩ := h.row
  clear h
  have hO : Hid (Has (Value.int .i64) 3 (w.alloc (.cells #[] 3)) w.heap.size (.slice (some ⟨w.heap.size, 0, none⟩) 0 0) (numb (keys.take 0))) := has_lit0 (enc := Value.int .i64) rfl (Nat.le_refl _)
  have hB : Hid (Below w.heap.size w (w.alloc (.cells #[] 3))) := (Below.refl _ _).alloc (Nat.le_refl _) _
  go_enter Try.func40, Try.ntmps40
  go_wp2_with fail
  obtain ⟨W0, hW0⟩ : ∃ W, W = w.alloc (.cells #[] 3) := ⟨_, rfl⟩
  rw [← hW0] at hO hB ⊢
  clear hW0
  go_loopw [3, 4, 5] (fun o' n' i' wr => ∃ (i c : Nat), i ≤ keys.length ∧ i' = .int .i64 i ∧ n' = .int .i64 c ∧ Hid (c = (dist (keys.take i)).length) ∧ c ≤ i ∧ Hid (Has (Value.int .i64) 3 wr w.heap.size o' (numb (keys.take i))) ∧ Hid (Below w.heap.size w wr)) (fun _ _ i' _ => keys.length - (intOf i').toNat)
  case atStart => exact ⟨0, 0, Nat.zero_le _, rfl, rfl, rfl, Nat.le_refl _, hO, hB⟩
  case round =>
    clear hO hB
    obtain ⟨i, c, hil, rfl, rfl, hc, hci, hO, hB⟩ := hrel
    by_cases hlt : i < keys.length
    case neg =>
      have HX : Hid (Has (Value.int .i64) 3 wr w.heap.size u3 (numb keys)) := by
        have h1 := hO.out
        rw [List.take_of_length_le (by omega)] at h1
        exact h1
      obtain ⟨oa, oc, rfl, _⟩ := hO.out.form
      go_wp2
      go_ret
      exact ⟨_, rfl, HX.out, hB.out⟩
    case pos =>
      obtain ⟨key, hkey⟩ : ∃ x, keys[i]? = some x := ⟨_, List.getElem?_eq_getElem hlt⟩
      have HKEY := Lib.hid hkey
      have HNL : Hid ((numb (keys.take i)).length = i) := by show _ = _; rw [numb_len, List.length_take]; omega
      obtain ⟨vp, vo, vcap, hv, _, hrow⟩ := rows_at (HS.out.below hB.out) (by omega)
      injection hv with e1 e2 e3
      subst e1; subst e3
      have HROW := Lib.hid hrow
      clear hkey hrow e2
      obtain ⟨oa, oc, rfl, _⟩ := hO.out.form
      have HOC := Lib.hid hO.out.lies
      go_wp2
      go_loopw [6, 7] (fun f' k' wx => ∃ (k : Nat) (f : Int), k ≤ i ∧ k' = .int .i64 k ∧ f' = .int .i64 f ∧ Hid (FoundR keys i key k f) ∧ Hid (Below wr.heap.size wr wx)) (fun _ k' _ => i - (intOf k').toNat)
      case atStart => exact ⟨0, -1, Nat.zero_le _, rfl, rfl, .inl ⟨rfl, fun j hj => by omega⟩, Below.refl _ _⟩
      case round =>
        obtain ⟨k, f, hki, rfl, rfl, hF, hBx⟩ := hrel
        by_cases hgo : k < i ∧ f < 0
        case pos =>
          obtain ⟨hk2, hf⟩ := hgo
          have hdf := decide_eq_true hf
          obtain ⟨kx, hkx⟩ : ∃ x, keys[k]? = some x := ⟨_, List.getElem?_eq_getElem (by omega)⟩
          have HKX := Lib.hid hkx
          obtain ⟨u1, c1, l1⟩ := HROW.out k kx hkx
          obtain ⟨u2, c2, l2⟩ := HROW.out i key HKEY.out
          have q1 := old_cell hBx.out c1
          have q2 := old_cell hBx.out c2
          have L1 := Lib.hid (l1.below hBx.out)
          have L2 := Lib.hid (l2.below hBx.out)
          have hk3 : (k : Int) < (keys.length : Int) := by omega
          have hi3 : (i : Int) < (keys.length : Int) := by omega
          have hk0 : (0 : Int) ≤ (k : Int) := Int.natCast_nonneg _
          have hi0 : (0 : Int) ≤ (i : Int) := Int.natCast_nonneg _
          have hKT : (keys.take i)[k]? = some kx := by rw [List.getElem?_take, if_pos hk2, hkx]
          have HKT := Lib.hid hKT
          obtain ⟨m, hm⟩ : ∃ m : Int, m = (ix (dist (keys.take i)) kx : Int) := ⟨_, rfl⟩
          have hnk := numb_get hKT
          rw [← hm] at hnk
          obtain ⟨_, oa', oc', hv', _, hcl⟩ := HOC.out.below hBx.out
          injection hv' with f1 f2 f3
          obtain ⟨ob, oo, hoa, q3⟩ := hcl k m hnk
          rw [← f1] at hoa
          have hk4 : (k : Int) < ((numb (keys.take i)).length : Int) := by have := HNL.out; omega
          have hk5 : k < (numb (keys.take i)).length := by have := HNL.out; omega
          have HM := Lib.hid hm
          clear hkx c1 c2 l1 l2 hKT hnk hcl f1 f2 f3 hm hf
          subst hoa
          have HB4 := Lib.hid (fun n => below_drewN hBx.out n)
          by_cases he : kx = key
          · have HE := Lib.hid (decide_eq_true he)
            have HFN : Hid (FoundR keys i key (k + 1) m) := .inr ⟨by rw [HM.out]; exact Int.natCast_nonneg _, by rw [← he]; exact List.mem_of_getElem? HKT.out, by rw [HM.out, he]⟩
            clear he
            go_wp2
            go_quiet ((go_at_call 34; exact same_q L1.out L2.out HE.out))
            go_wp2
            go_roundw
            case rel => exact ⟨k + 1, m, by omega, by go_num, rfl, HFN, HB4.out _⟩
            case measure => simp [intOf]; omega
          · have HE := Lib.hid (decide_eq_false he)
            have HFN : Hid (FoundR keys i key (k + 1) f) := by
              rcases hF.out with ⟨h1, h2⟩ | h1
              · refine .inl ⟨h1, fun j hj hje => ?_⟩
                by_cases e : j = k
                · subst e
                  exact he (Option.some.inj (HKX.out.symm.trans hje))
                · exact h2 j (by omega) hje
              · exact .inr h1
            clear he
            go_wp2
            go_quiet ((go_at_call 34; exact same_q L1.out L2.out HE.out))
            go_wp2
            go_roundw
            case rel => exact ⟨k + 1, f, by omega, by go_num, rfl, HFN, HB4.out _⟩
            case measure => simp [intOf]; omega
        case neg =>
          have hxx := found_end HKEY.out hF.out (by omega) hki
          have HO5 := Lib.hid (hO.out.below hBx.out)
          have HB5 := Lib.hid (hB.out.trans (hBx.out.mono hB.out.size))
          have HZ5 := Lib.hid HB5.out.size
          rcases hxx with ⟨hf1, hn1, hd1⟩ | ⟨hf1, hn1, hd1⟩
          · have hki2 : ¬ k < i := fun h => hgo ⟨h, by omega⟩
            have hdf : decide (f < 0) = true := decide_eq_true (by omega)
            have HNN : Hid (numb (keys.take (i + 1)) = numb (keys.take i) ++ [(c : Int)]) := by show _ = _; rw [hn1, hc.out]
            have HDD : Hid (c + 1 = (dist (keys.take (i + 1))).length) := by show _ = _; rw [hd1, hc.out]
            clear hgo hn1 hd1 hf1
            go_wp2_with (at_builtin; refine append_one (enc := Value.int .i64) (e := 3) wr rfl _ _ 23 rfl w.heap.size i0 (.int .i64 0) 8 Try.underlying23 hi hz0 hz1 hz2 rfl (.slice oa (numb (keys.take i)).length oc) (numb (keys.take i)) rfl HO5.out (c : Int) rfl (fun _ => rfl) (by rw [HNL.out]; omega) (by rw [HNL.out]; omega) HZ5.out ?_; intro v' w' hown' hgrow')
            have hB4 : Hid (Below w.heap.size w w') := HO5.out.frame HB5.out (Nat.le_refl _) hgrow'
            have hO4 : Hid (Has (Value.int .i64) 3 w' w.heap.size v' (numb (keys.take (i + 1)))) := by show Has _ _ _ _ _ _; rw [HNN.out]; exact hown'
            clear hown' hgrow' HO5 HB5 HZ5
            go_wp2
            go_roundw
            case rel => exact ⟨i + 1, c + 1, by omega, by go_num, by go_num, HDD, by omega, hO4, hB4⟩
            case measure => simp [intOf]; omega
          · have hdf : decide (f < 0) = false := decide_eq_false (by omega)
            have HNN := Lib.hid hn1
            have HDD : Hid (c = (dist (keys.take (i + 1))).length) := by show _ = _; rw [hd1, hc.out]
            clear hgo hn1 hd1
            by_cases hki2 : k < i
            all_goals
              go_wp2_with (at_builtin; refine append_one (enc := Value.int .i64) (e := 3) wr rfl _ _ 23 rfl w.heap.size i0 (.int .i64 0) 8 Try.underlying23 hi hz0 hz1 hz2 rfl (.slice oa (numb (keys.take i)).length oc) (numb (keys.take i)) rfl HO5.out f rfl (fun _ => rfl) (by rw [HNL.out]; omega) (by rw [HNL.out]; omega) HZ5.out ?_; intro v' w' hown' hgrow')
              have hB4 : Hid (Below w.heap.size w w') := HO5.out.frame HB5.out (Nat.le_refl _) hgrow'
              have hO4 : Hid (Has (Value.int .i64) 3 w' w.heap.size v' (numb (keys.take (i + 1)))) := by show Has _ _ _ _ _ _; rw [HNN.out]; exact hown'
              clear hown' hgrow' HO5 HB5 HZ5
              go_wp2
              go_roundw
              case rel => exact ⟨i + 1, c, by omega, by go_num, rfl, HDD, by omega, hO4, hB4⟩
              case measure => simp [intOf]; omega
end Mins
end Go.Proofs.Ytgbgcaaekpgapac
/- A slice of rows of ints that the call builds row by row: what it is that the call owns it, what stays of it, and the law at the operation that puts a row behind it. No conditions beyond those that each fact states. -/
namespace Go.Proofs.Ytgbgcaaekpgapac.Plain
open Go.RowKit
set_option linter.unusedVariables false
/-- The slice v of rows is the call's own, from block lo on; the rows' blocks are below hi. -/
def HasRows (w : World) (lo hi : Nat) (v : Value) (rows : List (List Int)) : Prop := ∃ us, Has id 23 w lo v us ∧ OwnRows w lo hi us rows ∧ lo ≤ hi ∧ hi ≤ w.heap.size
section
variable {w w' : World} {lo hi : Nat} {v : Value} {rows : List (List Int)}
theorem HasRows.liesR (h : HasRows w lo hi v rows) : LiesR w v rows := by
  obtain ⟨us, h1, h2, _⟩ := h
  exact h2.lies h1.lies
theorem HasRows.below (h : HasRows w lo hi v rows) (hb : Below w.heap.size w w') : HasRows w' lo hi v rows := by
  obtain ⟨us, h1, h2, h3, h4⟩ := h
  exact ⟨us, h1.below hb, h2.below hb, h3, Nat.le_trans h4 hb.size⟩
theorem HasRows.nil {base : Nat} (h : Has id 23 w base v []) (hb : base ≤ w.heap.size) : HasRows w base base v [] := ⟨[], h, OwnRows.nil _ _ _, Nat.le_refl _, hb⟩
theorem HasRows.hi_le (h : HasRows w lo hi v rows) : lo ≤ hi ∧ hi ≤ w.heap.size := by
  obtain ⟨us, h1, h2, h3, h4⟩ := h
  exact ⟨h3, h4⟩
theorem HasRows.form (h : HasRows w lo hi v rows) : ∃ a c, v = .slice a rows.length c := by
  obtain ⟨us, h1, h2, _⟩ := h
  obtain ⟨a, c, h3, _⟩ := h1.form
  exact ⟨a, c, by rw [h3, h2.len]⟩
/-- What is written into the slice's own block touches nothing below. -/
theorem HasRows.frame {w0 : World} (h : HasRows w lo hi v rows) (hb : Below w0.heap.size w0 w) (hB : w0.heap.size ≤ lo) (hg : w.grownBy w' v.ownBlock) : Below w0.heap.size w0 w' := by
  obtain ⟨us, h1, _⟩ := h
  exact h1.frame hb hB hg
theorem HasRows.other {base : Nat} {u : Value} {xs : List Int} (h : HasRows w lo hi v rows) (hu : Has (Value.int .i64) 3 w base u xs) (hg : w.grownBy w' v.ownBlock) : Has (Value.int .i64) 3 w' base u xs := by
  obtain ⟨us, h1, _⟩ := h
  exact hu.grown hg (h1.ne_row hu)
theorem HasRows.c3 {b : Nat} {t : TypeId} {x y z : Value} (h : HasRows w lo hi v rows) (hc : Cells3 w b t x y z) (hne : (23 : Nat) ≠ t) (hg : w.grownBy w' v.ownBlock) : Cells3 w' b t x y z := by
  obtain ⟨us, h1, _⟩ := h
  exact hc.grown hg (has_ne_c3 h1 hc hne)
theorem HasRows.lift {hi' : Nat} (h : HasRows w lo hi v rows) (h1 : hi ≤ hi') (h2 : hi' ≤ w.heap.size) : HasRows w lo hi' v rows := by
  obtain ⟨us, a, b, c, d⟩ := h
  exact ⟨us, a, b.mono h1 h2, Nat.le_trans c h1, h2⟩
theorem HasRows.ownR (h : HasRows w lo hi v rows) : ∃ us, OwnR w lo w.heap.size v us rows := by
  obtain ⟨us, a, b, c, d⟩ := h
  exact ⟨us, a, fun k hk => (a.lt k hk).2, Nat.le_refl _, b.mono d (Nat.le_refl _)⟩
/-- 'v = append(v, x)', x a row that was made behind all the others. -/
theorem wpList_append_row {P : Program} {wr : World} {ops : Array Oper} {rest : List Oper} {o : Oper} {a : Act} {Q : Exit → Act → World → Prop} (hgd : o.guard = none) (s x : Operand) (t : TypeId)
    (ho : o.op = .call { callee := .builtin .append, args := #[s, x], argTypes := #[t, t] })
    (i : TypeInfo) (ht : P.underlying t = some (.slice 23)) (hi' : P.info? 23 = some i) (hz : i.zero = some (.slice none 0 0))
    (hsize : i.size = 1) (hby : i.bytes = 24) (v : Value) (hs : a.eval s = v) (hown : HasRows wr lo hi v rows) (u : Value) (r : List Int) (hu : Has (Value.int .i64) 3 wr hi u r)
    (g : Nat) (hx : a.eval x = .slice (some ⟨g, 0, none⟩) 1 1) (hgs : g = wr.heap.size) (hlen : rows.length ≤ 100000)
    (h : ∀ v' w', HasRows w' lo w'.heap.size v' (rows ++ [r]) → wr.grownBy w' v.ownBlock → wpList P ops Q rest (a.put o.dst v') w') :
    wpList P ops Q (o :: rest) a (wr.alloc (.cells #[u] 23)) := by
  subst hgs
  obtain ⟨us, h1, h2, h3, h4⟩ := hown
  have hu1 : u.oneCell' = true := by
    obtain ⟨a, c, h5, _⟩ := hu.form
    rw [h5]
    rfl
  have hul := h2.len
  refine wpList_append_list (enc := id) (e := 23) hgd s x t ho lo i (.slice none 0 0) 24 ht hi' hz hsize hby rfl v us hs (has_alloc h1 _) (.slice (some ⟨wr.heap.size, 0, none⟩) 1 1) [u] hx (lies_lit1v u rfl) (fun y hy => by simp at hy; subst hy; exact hu1) (by simp; omega) (by simp; omega) (by simp; omega) ?_
  intro v' w' hv' hg _
  have hg' : wr.grownBy w' v.ownBlock := grown_alloc hg
  have hI : OwnI wr hi wr.heap.size u r := ⟨hu, fun k hk => (hu.lt k hk).2, Nat.le_refl _⟩
  have h5 := h2.snoc hI h3 h4
  have h6 := h5.top_grown h1 hg'
  exact h v' w' ⟨us ++ [u], hv', h6.mono hg'.size (Nat.le_refl _), Nat.le_trans h3 (Nat.le_trans h4 hg'.size), Nat.le_refl _⟩ hg'
end
end Go.Proofs.Ytgbgcaaekpgapac.Plain
/- Contracts of the copies of sequences, of the program and of the model. No conditions beyond those that each states. -/
namespace Go.Proofs.Ytgbgcaaekpgapac
open Go.ChangeShapes Go.WideShapes Go.ChangeAt Go.RowKit
open Go.PlainAid Plain
set_option linter.unusedVariables false
namespace Seqs
open Digits
theorem liesS_open {w : World} {v : Value} {b : Int} {rows : List (List Int)} {out : List Int} (h : LiesS w v b rows out) : ∃ an cn ao co, v = .agg #[.int .i64 b, .slice an rows.length cn, .slice ao out.length co] ∧ LiesR w (.slice an rows.length cn) rows ∧ Lies (Value.int .i64) w (.slice ao out.length co) out := by
  obtain ⟨vn, vo, rfl, hn, ho⟩ := h
  obtain ⟨an, cn, rfl, _⟩ := hn.row
  obtain ⟨_, ao, co, rfl, _⟩ := id ho
  exact ⟨an, cn, ao, co, rfl, hn, ho⟩
theorem has_row {w : World} {base : Nat} {v : Value} {us : List Value} (h : Has id 23 w base v us) : w.ownsRow base 23 1 v us.length (us.map id) := h
theorem impl_copied (v : Value) (b : Int) (rows : List (List Int)) (out : List Int) (w : World) (h : LiesS w v b rows out) (hs : rows.length + tot rows + out.length ≤ 1048576) :
    Calls Try.prog 49 #[v] w (GivesS b rows out w) := by
  obtain ⟨i0, hi, hz0, hz1, hz2⟩ := info_parts infoR
  obtain ⟨an, cn, ao, co, rfl, hN, hO⟩ := liesS_open h
  have HN := Lib.hid hN
  have HO := Lib.hid hO
  clear h hN hO
  have hB : Below w.heap.size w ((w.alloc (Obj.cells #[Value.int .i64 b, Value.slice an rows.length cn, Value.slice ao out.length co] 30)).alloc (Obj.cells #[Value.int .i64 0, Value.slice none 0 0, Value.slice none 0 0] 30)) := ((Below.refl _ _).alloc (Nat.le_refl _) _).alloc (by simp) _
  have hA := Lib.hid ((Cells3.new w 30 (.int .i64 b) (.slice an rows.length cn) (.slice ao out.length co)).alloc (Obj.cells #[Value.int .i64 0, Value.slice none 0 0, Value.slice none 0 0] 30))
  have hZ := Lib.hid (Cells3.new (w.alloc (Obj.cells #[Value.int .i64 b, Value.slice an rows.length cn, Value.slice ao out.length co] 30)) 30 (.int .i64 0) (.slice none 0 0) (.slice none 0 0))
  rw [size_alloc'] at hZ
  have HB := Lib.hid hB
  have hz : ((w.alloc (Obj.cells #[Value.int .i64 b, Value.slice an rows.length cn, Value.slice ao out.length co] 30)).alloc (Obj.cells #[Value.int .i64 0, Value.slice none 0 0, Value.slice none 0 0] 30)).heap.size = w.heap.size + 2 := by simp
  have HZ := Lib.hid hz
  clear hB hz
  go_enter Try.func49, Try.ntmps49
  go_wp2_with (at_make; obtain ⟨W0, hW0⟩ : ∃ W, W = (w.alloc (Obj.cells #[Value.int .i64 b, Value.slice an rows.length cn, Value.slice ao out.length co] 30)).alloc (Obj.cells #[Value.int .i64 0, Value.slice none 0 0, Value.slice none 0 0] 30) := ⟨_, rfl⟩; rw [← hW0] at hA hZ HB HZ ⊢; refine wpList_make_full W0 rfl _ _ 22 rfl W0.heap.size 23 i0 (.slice none 0 0) 1 Try.underlying22 hi hz0 hz1 .i64 .i64 _ _ rows.length rfl rfl rfl rfl (by rw [hz2]; omega) (by unfold maxLen; omega) (Nat.le_refl _) ?_; intro w1 hown hgrow; clear hW0)
  have hb1 := below_of_grown hgrow
  have hown0 : Hid (Has id 23 w1 (w.heap.size + 2) (.slice (some ⟨w.heap.size + 2, 0, none⟩) rows.length rows.length) ([] ++ List.replicate (rows.length - 0) (.slice none 0 0))) := by
    have := made_rows hown
    rw [HZ.out] at this
    exact this
  have HA1 := Lib.hid (hA.out.below hb1)
  have HZ1 := Lib.hid (hZ.out.below hb1)
  have HB1 := Lib.hid (HB.out.trans (hb1.mono HB.out.size))
  have hsz : Hid (w.heap.size + 2 ≤ w1.heap.size) := by have := hb1.size; rw [HZ.out] at this; exact this
  rw [HZ.out] at *
  clear hown hgrow hb1 hA hZ HB HZ
  go_loopw [11] (fun i' wr => ∃ (i : Nat) (us : List Value) (hi : Nat), i ≤ rows.length ∧ us.length = i ∧ i' = .int .i64 i ∧ Hid (Has id 23 wr (w.heap.size + 2) (.slice (some ⟨w.heap.size + 2, 0, none⟩) rows.length rows.length) (us ++ List.replicate (rows.length - i) (.slice none 0 0))) ∧ Hid (OwnRows wr (w.heap.size + 2) hi us (rows.take i)) ∧ Hid (w.heap.size + 2 ≤ hi ∧ hi ≤ wr.heap.size) ∧ Hid (Cells3 wr w.heap.size 30 (.int .i64 b) (.slice an rows.length cn) (.slice ao out.length co)) ∧ Hid (Cells3 wr (w.heap.size + 1) 30 (.int .i64 0) (.slice none 0 0) (.slice none 0 0)) ∧ Hid (Below w.heap.size w wr)) (fun i' _ => rows.length - (intOf i').toNat)
  case atStart => exact ⟨0, [], w.heap.size + 2, Nat.zero_le _, rfl, rfl, hown0, OwnRows.nil _ _ _, ⟨Nat.le_refl _, hsz.out⟩, HA1, HZ1, HB1⟩
  case round =>
    obtain ⟨i, us, hi, hile, hul, rfl, hown, hrows, hle, hA, hZ, hbel⟩ := hrel
    by_cases hlt : i < rows.length
    · obtain ⟨r, hr⟩ : ∃ r, rows[i]? = some r := ⟨_, List.getElem?_eq_getElem hlt⟩
      obtain ⟨a0, c0, hv0, _, hcl⟩ := (HN.out.below hbel.out).row
      obtain ⟨p, off, u, rfl, hcell, hlies⟩ := hcl i r hr
      have HL := Lib.hid hlies
      have HRL := Lib.hid (row_le rows i r hr)
      have HT := Lib.hid (show rows.take (i + 1) = rows.take i ++ [r] from by
        obtain ⟨h1, rfl⟩ := List.getElem?_eq_some_iff.1 hr
        exact List.take_succ_eq_append_getElem h1)
      have HUL := Lib.hid hul
      injection hv0 with e1 e2 e3
      subst e1; subst e3
      have k0 := hA.out.c0
      have k1 := hA.out.c1
      have k2 := hA.out.c2
      clear hlies hr hul hcl
      go_wp2_with fail
      refine (clone_lies _ r _ HL.out (by have := HRL.out; omega)).mono ?_
      rintro e W1 ⟨v1, rfl, hv1, hb1⟩
      obtain ⟨a1, cap1, rfl, _⟩ := hv1.form
      have HN1 := Lib.hid (hown.out.below hb1)
      have HR1 := Lib.hid ((hrows.out.below hb1).snoc ((OwnI.of_gives hv1).mono hle.out.2 (Nat.le_refl _) (Nat.le_refl _)) hle.out.1 (Nat.le_trans hle.out.2 hb1.size))
      have HB1 := Lib.hid (hbel.out.trans (hb1.mono hbel.out.size))
      have HS1 := Lib.hid (Nat.le_trans hle.out.1 (Nat.le_trans hle.out.2 hb1.size))
      have HA1 := Lib.hid (hA.out.below hb1)
      have HZ1 := Lib.hid (hZ.out.below hb1)
      clear hown hrows hb1 hv1 hle hbel hA hZ k0 k1 k2 HL hcell
      have H1 : W1.ownsRow (w.heap.size + 2) 23 1 (.slice (some ⟨w.heap.size + 2, 0, none⟩) rows.length rows.length) rows.length ((us ++ List.replicate (rows.length - i) (Value.slice none 0 0)).map id) := by
        have := HN1.out
        unfold Has at this
        rw [show (us ++ List.replicate (rows.length - i) (Value.slice none 0 0)).length = rows.length from by rw [List.length_append, List.length_replicate, HUL.out]; omega] at this
        exact this
      have hc : W1.cell? ⟨w.heap.size + 2, i, none⟩ = some (.slice none 0 0) := by
        rw [H1.cellAt i (by omega), List.getElem?_map, List.getElem?_append_right (by rw [HUL.out]; omega), List.getElem?_replicate, if_pos (by rw [HUL.out]; omega)]
        rfl
      have hfr := H1.frozenAt i
      have hst := H1.stored i (id (.slice a1 r.length cap1))
      rw [← HUL.out, set_next us _ _ (.slice a1 r.length cap1) (by rw [HUL.out]; omega), HUL.out] at hst
      have HST := Lib.hid hst
      clear hst H1
      go_wp2
      go_roundw
      case rel =>
        refine ⟨i + 1, us ++ [.slice a1 r.length cap1], W1.heap.size, by omega, by simp [HUL.out], by go_num, ?_, ?_, ⟨HS1.out, HST.out.2.size⟩, HA1.out.grown HST.out.2 (by simp), HZ1.out.grown HST.out.2 (by simp), HB1.out.grown HST.out.2 HB1.out.size (fun k hk => by cases hk; omega)⟩
        · show World.ownsRow _ _ _ _ _ _ _
          rw [show (us ++ [Value.slice a1 r.length cap1] ++ List.replicate (rows.length - (i + 1)) (Value.slice none 0 0)).length = rows.length from by simp [HUL.out]; omega]
          exact HST.out.1
        · rw [HT.out]
          exact HR1.out.top_grown HN1.out HST.out.2
      case measure => simp [intOf]; omega
    · obtain rfl : i = rows.length := by omega
      have HE : Hid (OwnR wr (w.heap.size + 2) wr.heap.size (.slice (some ⟨w.heap.size + 2, 0, none⟩) rows.length rows.length) us rows) := by
        have h1 := hown.out
        have h2 := hrows.out
        rw [List.take_length] at h2
        rw [Nat.sub_self, List.replicate_zero, List.append_nil] at h1
        exact ⟨h1, fun k hk => (h1.lt k hk).2, Nat.le_refl _, h2.mono hle.out.2 (Nat.le_refl _)⟩
      have HUL := Lib.hid hul
      clear hown hrows hul
      go_wp2
      have bd := below_drew' wr
      obtain ⟨Wd, hWd⟩ : ∃ W, W = wr.drew := ⟨_, rfl⟩
      rw [← hWd] at bd
      have HEd := Lib.hid (HE.out.below bd)
      have HAd := Lib.hid (hA.out.below bd)
      have HZd := Lib.hid (hZ.out.below bd)
      have HBd := Lib.hid (hbel.out.trans (bd.mono hbel.out.size))
      clear bd HE hA hZ hbel
      have k0 := HAd.out.c0
      have k1 := HAd.out.c1
      have k2 := HAd.out.c2
      have z0 := HZd.out.c0
      have z1 := HZd.out.c1
      have z2 := HZd.out.c2
      have z3 := HZd.out.f
      rw [hWd] at k0 k1 k2 z0 z1 z2 z3
      go_region_with (go_at_call 53; rw [← hWd]; refine (clone_lies _ out _ (HO.out.below HBd.out) (by omega)).mono ?_; rintro e Wt ⟨vt, rfl, ht, bt⟩; obtain ⟨av, cv, rfl, _⟩ := ht.form; have m0 := (HAd.out.below bt).c0; have m2 := (HAd.out.below bt).c2; have n0 := (HZd.out.below bt).c0; have n1 := (HZd.out.below bt).c1; have n2 := (HZd.out.below bt).c2; have n3 := (HZd.out.below bt).f)
      all_goals
        have HE2 := Lib.hid (HEd.out.below bt)
        have HO2 := Lib.hid ((OwnI.of_gives ht).mono HEd.out.le (Nat.le_refl _) (Nat.le_refl _))
        have HB2 := Lib.hid (HBd.out.trans (bt.mono HBd.out.size))
        have HZ2 := Lib.hid ((((HZd.out.below bt).set0 (.int .i64 b)).set1 (.slice (some ⟨w.heap.size + 2, 0, none⟩) rows.length rows.length)).set2 (.slice av out.length cv))
        have hz1 := Lib.hid bt.size
        have hz2 := Lib.hid HEd.out.le
        have hz3 : Hid (w.heap.size + 2 ≤ wr.heap.size) := by show _ ≤ _; have := hle.out; omega
        clear ht bt k0 k1 k2 z0 z1 z2 z3 m0 m2 n0 n1 n2 n3
        go_wp2
        have m0 := HZ2.out.c0
        have m1 := HZ2.out.c1
        have m2 := HZ2.out.c2
        refine bodyPost_ret (v := .agg #[.int .i64 b, (.slice (some ⟨w.heap.size + 2, 0, none⟩) rows.length rows.length), .slice av out.length cv]) (by simp [results, Try.results49, go_sem, m0, m1, m2]) rfl ⟨_, rfl, ?_, ?_⟩
        · have T0 : Plain.Touch w.heap.size (w.heap.size + 2) Wt (((Wt.setCell ⟨w.heap.size + 1, 0, none⟩ (.int .i64 b)).setCell ⟨w.heap.size + 1, 1, none⟩ (.slice (some ⟨w.heap.size + 2, 0, none⟩) rows.length rows.length)).setCell ⟨w.heap.size + 1, 2, none⟩ (.slice av out.length cv)) :=
            ((Plain.Touch.of_set _ (by show _ ≤ _ + 1; omega) (by show _ + 1 < _; omega)).trans (Plain.Touch.of_set _ (by show _ ≤ _ + 1; omega) (by show _ + 1 < _; omega))).trans (Plain.Touch.of_set _ (by show _ ≤ _ + 1; omega) (by show _ + 1 < _; omega))
          have g1 := hz1.out
          have g2 := hz2.out
          have g3 := hz3.out
          simp only [size_setCell']
          exact OwnS.make (HE2.out.touch T0 (.inr (Nat.le_refl _))) (HO2.out.touch T0 (.inr (by omega))) (by omega) (by omega) (by omega)
        · exact ((HB2.out.setCell (by show _ ≤ _ + 1; omega) _).setCell (by show _ ≤ _ + 1; omega) _).setCell (by show _ ≤ _ + 1; omega) _
end Seqs
end Go.Proofs.Ytgbgcaaekpgapac
/- Contract of the model's StateClasses. No conditions beyond those that each states. -/
namespace Go.Proofs.Ytgbgcaaekpgapac
open Go.ChangeShapes Go.WideShapes Go.ChangeAt Go.RowKit
open Go.PlainAid Plain
set_option linter.unusedVariables false
namespace Mins
open Seqs
def keys0 (out : List Int) (i : Nat) : List (List Int) := (out.take i).map fun o => [o]
def keysM (rows : List (List Int)) (cls : List Int) (i : Nat) : List (List Int) := (List.range i).map (keyM rows cls)
theorem keys0_succ {out : List Int} {i : Nat} {o : Int} (h : out[i]? = some o) : keys0 out (i + 1) = keys0 out i ++ [[o]] := by
  rw [keys0, take_snoc' h, List.map_append]
  rfl
theorem keys0_len {out : List Int} {i : Nat} (h : i ≤ out.length) : (keys0 out i).length = i := by simp [keys0]; omega
theorem keysM_succ (rows : List (List Int)) (cls : List Int) (i : Nat) : keysM rows cls (i + 1) = keysM rows cls i ++ [keyM rows cls i] := by simp [keysM, List.range_succ]
theorem keysM_len (rows : List (List Int)) (cls : List Int) (i : Nat) : (keysM rows cls i).length = i := by simp [keysM]
/-- A key in the making. -/
def partM (x : Int) (r cls : List Int) (k : Nat) : List Int := x :: (r.take k).map fun y => cls.getD y.toNat 0
theorem partM_succ {x y : Int} {r cls : List Int} {k : Nat} (h : r[k]? = some y) : partM x r cls (k + 1) = partM x r cls k ++ [cls.getD y.toNat 0] := by
  rw [partM, take_snoc' h, List.map_append]
  rfl
theorem partM_len {x : Int} {r cls : List Int} {k : Nat} (h : k ≤ r.length) : (partM x r cls k).length = k + 1 := by simp [partM]; omega
theorem partM_end {rows : List (List Int)} {cls r : List Int} {i : Nat} {x : Int} (hr : rows[i]? = some r) (hx : cls[i]? = some x) : partM x r cls r.length = keyM rows cls i := by
  rw [partM, List.take_length, keyM, List.getD_eq_getElem?_getD, List.getD_eq_getElem?_getD, hx, hr]
  rfl
theorem clsM_len {rows : List (List Int)} {out : List Int} (h : out.length = rows.length) : ∀ k, (clsM rows out k).length = rows.length
  | 0 => by rw [clsM, numb_len, List.length_map, h]
  | k + 1 => by rw [clsM, numb_len, List.length_map, List.length_range]
set_option maxRecDepth 100000 in
set_option maxHeartbeats 2000000 in
theorem spec_class_yes (v : Value) (b : Int) (rows : List (List Int)) (out : List Int) (w : World) (h : LiesS w v b rows out) (hq : seqB b rows out = true) :
    Calls Try.prog 32 #[v] w (Gives (Value.int .i64) 3 (classes rows out) w) := by
  obtain ⟨i0, hi, hz0, hz1, hz2⟩ := info_parts Ints.infoI
  obtain ⟨i2, hi2, hz20, hz21, hz22⟩ := info_parts infoR
  have HS := Lib.hid h
  obtain ⟨an, cn, ao, co, rfl⟩ := h.form
  clear h
  have HB : Hid (Below w.heap.size w (w.alloc (Obj.cells #[Value.int .i64 b, Value.slice an rows.length cn, Value.slice ao out.length co] 30))) := (Below.refl _ _).alloc (Nat.le_refl _) _
  have HC := Lib.hid (Cells3.new w 30 (.int .i64 b) (.slice an rows.length cn) (.slice ao out.length co))
  have HQ := Lib.hid hq
  have HV := Lib.hid (seqB_out hq)
  have HA := Lib.hid (seqB_out hq).auto
  have hn16 : rows.length ≤ 16 := HV.out.2.2.2.1
  have hol : out.length = rows.length := HV.out.2.2.2.2.1
  have HOL := Lib.hid hol
  have hb2 : 2 ≤ b := HV.out.1
  have hb4 : b ≤ 4 := HV.out.2.1
  have ho16 : out.length ≤ 16 := by omega
  have k0 := HC.out.c0
  have k1 := HC.out.c1
  have k2 := HC.out.c2
  clear hq hol
  go_enter Try.func32, Try.ntmps32
  go_wp2_with fail
  refine (spec_is _ b rows out _ (HS.out.below HB.out)).mono ?_
  rintro e W1 ⟨rfl, b1⟩
  rw [HQ.out]
  have HB1 := Lib.hid (HB.out.trans (b1.mono HB.out.size))
  have HC1 := Lib.hid (HC.out.below b1)
  clear b1 HB HC k0 k1 k2
  have hR : Hid (HasRows (W1.alloc (.cells #[] 23)) (w.heap.size + 1) W1.heap.size (.slice (some ⟨W1.heap.size, 0, none⟩) 0 0) (keys0 out 0)) := by
    have h1 : w.heap.size + 1 ≤ W1.heap.size := by have := HC1.out.lt; omega
    exact (HasRows.nil (has_lit0 (enc := id) (e := 23) rfl h1) (by simp; omega)).lift h1 (by simp)
  have hB : Hid (Below w.heap.size w (W1.alloc (.cells #[] 23))) := HB1.out.alloc HB1.out.size _
  have hC := Lib.hid (HC1.out.alloc (.cells #[] 23))
  go_wp2_with fail
  obtain ⟨W2, hW2⟩ : ∃ W, W = W1.alloc (.cells #[] 23) := ⟨_, rfl⟩
  rw [← hW2] at hR hB hC ⊢
  have hR : Hid (∃ hi, HasRows W2 (w.heap.size + 1) hi (.slice (some ⟨W1.heap.size, 0, none⟩) 0 0) (keys0 out 0)) := ⟨_, hR.out⟩
  clear hW2 HB1 HC1
  go_loopw [3, 4] (fun o' i' wr => ∃ i : Nat, i ≤ out.length ∧ i' = .int .i64 i ∧ Hid (∃ hi, HasRows wr (w.heap.size + 1) hi o' (keys0 out i)) ∧ Hid (Cells3 wr w.heap.size 30 (.int .i64 b) (.slice an rows.length cn) (.slice ao out.length co)) ∧ Hid (Below w.heap.size w wr)) (fun _ i' _ => out.length - (intOf i').toNat)
  case atStart => exact ⟨0, Nat.zero_le _, rfl, hR, hC, hB⟩
  case round =>
    clear hR hB hC
    obtain ⟨i, hil, rfl, hR, hC, hB⟩ := hrel
    obtain ⟨hi', hR'⟩ := hR.out
    obtain ⟨ra, rc, rfl⟩ := hR'.form
    have HR := Lib.hid hR'
    clear hR hR'
    have k0 := hC.out.c0
    have k1 := hC.out.c1
    have k2 := hC.out.c2
    by_cases hlt : i < out.length
    case pos =>
      obtain ⟨o, ho⟩ : ∃ x, out[i]? = some x := ⟨_, List.getElem?_eq_getElem hlt⟩
      have HO := Lib.hid ho
      have HK0 := Lib.hid (keys0_succ ho)
      have HKL := Lib.hid (keys0_len hil)
      obtain ⟨q', s', hao, o1⟩ := HS.out.cells.2 i o ho
      have o1' := old_cell hB.out o1
      have hlt2 : (i : Int) < (out.length : Int) := by omega
      have hi0 : (0 : Int) ≤ (i : Int) := Int.natCast_nonneg _
      rw [hao] at k2
      have HR2 := Lib.hid (HR.out.below ((Below.refl _ _).alloc (Nat.le_refl _) (.cells #[.int .i64 o] 3)))
      have HU : Hid (Has (Value.int .i64) 3 (wr.alloc (.cells #[.int .i64 o] 3)) hi' (.slice (some ⟨wr.heap.size, 0, none⟩) 1 1) [o]) := has_lit1 (enc := Value.int .i64) o rfl HR.out.hi_le.2
      clear ho o1 hao
      go_wp2_with (at_builtin; refine wpList_append_row rfl _ _ 22 rfl i2 Try.underlying22 hi2 hz20 hz21 hz22 (.slice ra (keys0 out i).length rc) rfl HR2.out (.slice (some ⟨wr.heap.size, 0, none⟩) 1 1) [o] HU.out _ rfl (by simp) (by rw [HKL.out]; omega) ?_; intro v' w' hv' hg')
      have hB4 : Hid (Below w.heap.size w w') := HR2.out.frame (hB.out.alloc hB.out.size _) (Nat.le_succ _) hg'
      have hC4 := Lib.hid (HR2.out.c3 (hC.out.alloc _) (by decide) hg')
      have hR4 : Hid (∃ hi, HasRows w' (w.heap.size + 1) hi v' (keys0 out (i + 1))) := ⟨_, by rw [HK0.out]; exact hv'⟩
      clear hv' hg' HR2 HU k0 k1 k2 o1'
      go_wp2
      go_roundw
      case rel => exact ⟨i + 1, by omega, by go_num, hR4, hC4, hB4⟩
      case measure => simp [intOf]; omega
    case neg =>
      obtain rfl : i = out.length := by omega
      have HKK : Hid (keys0 out out.length = out.map fun o => [o]) := by show _ = _; rw [keys0, List.take_length]
      have HNU := Lib.hid (number_any _ _ _ HR.out.liesR (by rw [keys0_len (Nat.le_refl _)]; omega))
      go_wp2_with fail
      refine (HNU.out).mono ?_
      rintro e W3 ⟨vc, rfl, hvc, b3⟩
      have hZ1 : Hid (w.heap.size + 1 ≤ wr.heap.size) := by have := hC.out.lt; show _ ≤ _; omega
      have hO3 : Hid (Has (Value.int .i64) 3 W3 (w.heap.size + 1) vc (clsM rows out 0)) := by
        have h1 := hvc.mono hZ1.out
        rw [HKK.out] at h1
        exact h1
      have hC3 := Lib.hid (hC.out.below b3)
      have hB3 := Lib.hid (hB.out.trans (b3.mono hB.out.size))
      clear hvc b3 HR hC hB k0 k1 k2 HNU hZ1
      go_wp2_with fail
      go_loopw [5, 6] (fun c' n' wr => ∃ n : Nat, n ≤ rows.length ∧ n' = .int .i64 n ∧ Hid (Has (Value.int .i64) 3 wr (w.heap.size + 1) c' (clsM rows out n)) ∧ Hid (Cells3 wr w.heap.size 30 (.int .i64 b) (.slice an rows.length cn) (.slice ao out.length co)) ∧ Hid (Below w.heap.size w wr)) (fun _ n' _ => rows.length - (intOf n').toNat)
      case atStart => exact ⟨0, Nat.zero_le _, rfl, hO3, hC3, hB3⟩
      case round =>
        clear hO3 hC3 hB3
        obtain ⟨n, hnl, rfl, hO, hC, hB⟩ := hrel
        obtain ⟨W4, rfl⟩ : ∃ W : World, W = wr := ⟨_, rfl⟩
        obtain ⟨cls, hcls⟩ : ∃ c, c = clsM rows out n := ⟨_, rfl⟩
        have HCLS := Lib.hid hcls
        have HCL : Hid (cls.length = rows.length) := by show _ = _; rw [hcls]; exact clsM_len HOL.out n
        rw [← hcls] at hO
        obtain ⟨ca, cc, rfl, _⟩ := hO.out.form
        have k0 := hC.out.c0
        have k1 := hC.out.c1
        have k2 := hC.out.c2
        by_cases hlt : n < rows.length
        case neg =>
          obtain rfl : n = rows.length := by omega
          have HX : Hid (Has (Value.int .i64) 3 W4 w.heap.size (.slice ca cls.length cc) (classes rows out)) := by
            have h1 := hO.out.mono (Nat.le_succ w.heap.size)
            rw [← clsM_end HA.out]
            rw [hcls] at h1 ⊢
            exact h1
          clear hcls
          go_wp2
          go_ret
          exact ⟨_, rfl, HX.out, hB.out⟩
        case pos =>
          clear hcls
          have hZ1 : Hid (w.heap.size + 1 ≤ W4.heap.size) := by have := hC.out.lt; show _ ≤ _; omega
          have hR : Hid (∃ hi, HasRows (W4.alloc (.cells #[] 23)) (w.heap.size + 1) hi (.slice (some ⟨W4.heap.size, 0, none⟩) 0 0) (keysM rows cls 0)) := by
            exact ⟨_, (HasRows.nil (has_lit0 (enc := id) (e := 23) rfl hZ1.out) (by simp; have := hZ1.out; omega)).lift hZ1.out (by simp)⟩
          have hB5 : Hid (Below w.heap.size w (W4.alloc (.cells #[] 23))) := hB.out.alloc hB.out.size _
          have hC5 := Lib.hid (hC.out.alloc (.cells #[] 23))
          have hO5 := Lib.hid (has_alloc hO.out (.cells #[] 23))
          clear hB hC hO
          go_wp2
          obtain ⟨W5, hW5⟩ : ∃ W, W = W4.alloc (.cells #[] 23) := ⟨_, rfl⟩
          rw [← hW5] at hR hB5 hC5 hO5 ⊢
          clear hW5 k0 k1 k2
          go_loopw [3, 7] (fun o' i' wr => ∃ i : Nat, i ≤ rows.length ∧ i' = .int .i64 i ∧ Hid (∃ hi, HasRows wr (w.heap.size + 1) hi o' (keysM rows cls i)) ∧ Hid (Has (Value.int .i64) 3 wr (w.heap.size + 1) (.slice ca cls.length cc) cls) ∧ Hid (Cells3 wr w.heap.size 30 (.int .i64 b) (.slice an rows.length cn) (.slice ao out.length co)) ∧ Hid (Below w.heap.size w wr)) (fun _ i' _ => rows.length - (intOf i').toNat)
          case atStart => exact ⟨0, Nat.zero_le _, rfl, hR, hO5, hC5, hB5⟩
          case round =>
            clear hR hO5 hC5 hB5
            obtain ⟨i, hil, rfl, hR, hO, hC, hB⟩ := hrel
            obtain ⟨W6, rfl⟩ : ∃ W : World, W = wr := ⟨_, rfl⟩
            obtain ⟨hi', hR'⟩ := hR.out
            obtain ⟨ra, rc, rfl⟩ := hR'.form
            have HR := Lib.hid hR'
            clear hR hR'
            have k0 := hC.out.c0
            have k1 := hC.out.c1
            have k2 := hC.out.c2
            by_cases hlt3 : i < rows.length
            case neg =>
              obtain rfl : i = rows.length := by omega
              have HNU := Lib.hid (number_any _ _ _ HR.out.liesR (by rw [keysM_len]; omega))
              go_wp2_with fail
              refine (HNU.out).mono ?_
              rintro e W7 ⟨vc', rfl, hvc, b3⟩
              have hZ2 : Hid (w.heap.size + 1 ≤ W6.heap.size) := by have := hC.out.lt; show _ ≤ _; omega
              have hO7 : Hid (Has (Value.int .i64) 3 W7 (w.heap.size + 1) vc' (clsM rows out (n + 1))) := by
                show Has _ _ _ _ _ _
                rw [clsM, ← HCLS.out]
                exact hvc.mono hZ2.out
              have hC7 := Lib.hid (hC.out.below b3)
              have hB7 := Lib.hid (hB.out.trans (b3.mono hB.out.size))
              clear hvc b3 HR hC hB hO k0 k1 k2 HNU
              go_wp2
              go_roundw
              case rel => exact ⟨n + 1, by omega, by go_num, hO7, hC7, hB7⟩
              case measure => simp [intOf]; omega
            case pos =>
              obtain ⟨x, hx⟩ : ∃ x, cls[i]? = some x := ⟨_, List.getElem?_eq_getElem (by have := HCL.out; omega)⟩
              obtain ⟨r, hr⟩ : ∃ r, rows[i]? = some r := ⟨_, List.getElem?_eq_getElem hlt3⟩
              have HXX := Lib.hid hx
              have HRR := Lib.hid hr
              have hrl : (r.length : Int) = b := (HV.out.2.2.2.2.2.1 r (List.mem_of_getElem? hr)).1
              have HRB := Lib.hid (HV.out.2.2.2.2.2.1 r (List.mem_of_getElem? hr)).2
              have hr0 : 0 < r.length := by omega
              have hr4 : r.length ≤ 4 := by omega
              have HRL := Lib.hid hrl
              obtain ⟨cq, cs, cc', hcv, hcc⟩ := ints_at hO.out.lies (by have := HCL.out; omega)
              injection hcv with f1 f2 f3
              have o1 := hcc i x hx
              have HCC := Lib.hid hcc
              have hcl1 : (i : Int) < (cls.length : Int) := by have := HCL.out; omega
              have hcl2 : i < cls.length := by have := HCL.out; omega
              have hi0 : (0 : Int) ≤ (i : Int) := Int.natCast_nonneg _
              subst f1
              have hP : Hid (Has (Value.int .i64) 3 (W6.alloc (.cells #[.int .i64 x] 3)) W6.heap.size (.slice (some ⟨W6.heap.size, 0, none⟩) 1 1) (partM x r cls 0)) := has_lit1 (enc := Value.int .i64) x rfl (Nat.le_refl _)
              have hBP : Hid (Below W6.heap.size W6 (W6.alloc (.cells #[.int .i64 x] 3))) := (Below.refl _ _).alloc (Nat.le_refl _) _
              clear hx hr hrl hcc f2 f3
              go_wp2
              obtain ⟨W7, hW7⟩ : ∃ W, W = W6.alloc (.cells #[.int .i64 x] 3) := ⟨_, rfl⟩
              rw [← hW7] at hP hBP ⊢
              clear hW7 k0 k1 k2 o1
              go_loopw [8, 9] (fun p' k' wr => ∃ k : Nat, k ≤ r.length ∧ k' = .int .i64 k ∧ Hid (Has (Value.int .i64) 3 wr W6.heap.size p' (partM x r cls k)) ∧ Hid (Below W6.heap.size W6 wr)) (fun _ k' _ => r.length - (intOf k').toNat)
              case atStart => exact ⟨0, Nat.zero_le _, rfl, hP, hBP⟩
              case round =>
                clear hP hBP
                obtain ⟨k, hkl, rfl, hP, hBP⟩ := hrel
                have hC8 := hC.out.below hBP.out
                have k0 := hC8.c0
                have k1 := hC8.c1
                have k2 := hC8.c2
                have HR8 := Lib.hid (HR.out.below hBP.out)
                have hO8 := hO.out.below hBP.out
                have HO8 := Lib.hid hO8
                have hB8 := Lib.hid (hB.out.trans (hBP.out.mono hB.out.size))
                have HC8 := Lib.hid hC8
                have HPL := Lib.hid (partM_len (x := x) (cls := cls) hkl)
                clear hC8 hO8
                by_cases hlk : k < r.length
                case pos =>
                  obtain ⟨y, hy⟩ : ∃ x, r[k]? = some x := ⟨_, List.getElem?_eq_getElem hlk⟩
                  have HY := Lib.hid hy
                  have hyb := HRB.out y (List.mem_of_getElem? hy)
                  obtain ⟨yn, rfl⟩ : ∃ yn : Nat, y = (yn : Int) := ⟨y.toNat, by omega⟩
                  have hyl : (yn : Int) < (cls.length : Int) := by have := HCL.out; omega
                  have hyl2 : yn < cls.length := by have := HCL.out; omega
                  have hy0 : (0 : Int) ≤ (yn : Int) := Int.natCast_nonneg _
                  obtain ⟨z, hz⟩ : ∃ z, cls[yn]? = some z := ⟨_, List.getElem?_eq_getElem hyl2⟩
                  have HZ : Hid (partM x r cls (k + 1) = partM x r cls k ++ [z]) := by
                    show _ = _
                    rw [partM_succ hy]
                    congr 2
                    rw [Int.toNat_natCast, List.getD_eq_getElem?_getD, hz]
                    rfl
                  obtain ⟨pa, off, hpa, q, s, c, p1, hcl⟩ := seq_row (HS.out.below hB8.out) HRR.out hr0
                  have p2 := hcl k _ hy
                  have p3 := old_cell hBP.out (HCC.out yn z hz)
                  rw [hpa] at k1
                  have hdk : decide ((k : Int) < b) = true := decide_eq_true (by have := HRL.out; omega)
                  have hk0 : (0 : Int) ≤ (k : Int) := Int.natCast_nonneg _
                  have hkr : (k : Int) < (r.length : Int) := by omega
                  have hin : (i : Int) < (rows.length : Int) := by omega
                  clear hy hyb hz hpa hcl
                  obtain ⟨pa', pc', rfl, _⟩ := hP.out.form
                  have hZP := hBP.out.size
                  go_wp2_with (at_builtin; refine append_one (enc := Value.int .i64) (e := 3) wr rfl _ _ 23 rfl W6.heap.size i0 (.int .i64 0) 8 Try.underlying23 hi hz0 hz1 hz2 rfl (.slice pa' (partM x r cls k).length pc') (partM x r cls k) rfl hP.out z rfl (fun _ => rfl) (by rw [HPL.out]; omega) (by rw [HPL.out]; omega) hZP ?_; intro v' w' hown' hgrow')
                  have hB9 : Hid (Below W6.heap.size W6 w') := hP.out.frame hBP.out (Nat.le_refl _) hgrow'
                  have hO9 : Hid (Has (Value.int .i64) 3 w' W6.heap.size v' (partM x r cls (k + 1))) := by show Has _ _ _ _ _ _; rw [HZ.out]; exact hown'
                  clear hown' hgrow' k0 k1 k2 p1 p2 p3 hZP
                  go_wp2
                  go_roundw
                  case rel => exact ⟨k + 1, by omega, by go_num, hO9, hB9⟩
                  case measure => simp [intOf]; omega
                case neg =>
                  obtain rfl : k = r.length := by omega
                  have hdk : decide ((r.length : Int) < b) = false := decide_eq_false (by have := HRL.out; omega)
                  have HPE := Lib.hid (partM_end HRR.out HXX.out)
                  have HKS := Lib.hid (keysM_succ rows cls i)
                  have HKN := Lib.hid (keysM_len rows cls i)
                  have HU := Lib.hid (hP.out.mono HR.out.hi_le.2)
                  obtain ⟨pa', pc', rfl, _⟩ := hP.out.form
                  clear hlk hkl
                  go_wp2_with (at_builtin; refine wpList_append_row (wr := wr) rfl _ _ 22 rfl i2 Try.underlying22 hi2 hz20 hz21 hz22 (.slice ra (keysM rows cls i).length rc) rfl HR8.out (.slice pa' (partM x r cls r.length).length pc') (partM x r cls r.length) HU.out _ rfl rfl (by rw [HKN.out]; omega) ?_; intro v' w' hv' hg')
                  have hB9 : Hid (Below w.heap.size w w') := HR8.out.frame hB8.out (Nat.le_succ _) hg'
                  have hC9 := Lib.hid (HR8.out.c3 HC8.out (by decide) hg')
                  have hO9 := Lib.hid (HR8.out.other HO8.out hg')
                  have hR9 : Hid (∃ hi, HasRows w' (w.heap.size + 1) hi v' (keysM rows cls (i + 1))) := ⟨_, by rw [HKS.out, ← HPE.out]; exact hv'⟩
                  clear hv' hg' k0 k1 k2
                  go_wp2
                  go_roundw
                  case rel => exact ⟨i + 1, by omega, by go_num, hR9, hO9, hC9, hB9⟩
                  case measure => simp [intOf]; omega
theorem spec_class_no (v : Value) (b : Int) (rows : List (List Int)) (out : List Int) (w : World) (h : LiesS w v b rows out) (hq : seqB b rows out = false) :
    Calls Try.prog 32 #[v] w (Gives (Value.int .i64) 3 [] w) := by
  have HS := Lib.hid h
  obtain ⟨an, cn, ao, co, rfl⟩ := h.form
  clear h
  have HB : Hid (Below w.heap.size w (w.alloc (Obj.cells #[Value.int .i64 b, Value.slice an rows.length cn, Value.slice ao out.length co] 30))) := (Below.refl _ _).alloc (Nat.le_refl _) _
  have HC := Lib.hid (Cells3.new w 30 (.int .i64 b) (.slice an rows.length cn) (.slice ao out.length co))
  have HQ := Lib.hid hq
  have k0 := HC.out.c0
  have k1 := HC.out.c1
  have k2 := HC.out.c2
  clear hq HC
  go_enter Try.func32, Try.ntmps32
  go_wp2_with fail
  refine (spec_is _ b rows out _ (HS.out.below HB.out)).mono ?_
  rintro e W1 ⟨rfl, b1⟩
  rw [HQ.out]
  have HB1 := Lib.hid (HB.out.trans (b1.mono HB.out.size))
  have HX : Hid (Has (Value.int .i64) 3 (W1.alloc (.cells #[] 3)) w.heap.size (.slice (some ⟨W1.heap.size, 0, none⟩) 0 0) []) := has_lit0 (enc := Value.int .i64) rfl HB1.out.size
  have HB2 : Hid (Below w.heap.size w (W1.alloc (.cells #[] 3))) := HB1.out.alloc HB1.out.size _
  clear b1
  go_wp2
  go_ret
  exact ⟨_, rfl, HX.out, HB2.out⟩
theorem spec_class (v : Value) (b : Int) (rows : List (List Int)) (out : List Int) (w : World) (h : LiesS w v b rows out) : Calls Try.prog 32 #[v] w (Gives (Value.int .i64) 3 (classV b rows out) w) := by
  cases hq : seqB b rows out with
  | false => rw [classV, if_neg (by simp [hq])]; exact spec_class_no v b rows out w h hq
  | true => rw [classV, if_pos hq]; exact spec_class_yes v b rows out w h hq
end Mins
end Go.Proofs.Ytgbgcaaekpgapac
/- The steady form told as lists, and what a call says that hands back a new sequence and whether there is one. No conditions beyond those that each fact states. -/
namespace Go.Proofs.Ytgbgcaaekpgapac.Plain
open Go.RowKit
/-- A call that hands back a new sequence and a bool. -/
def GivesK (b : Int) (rows : List (List Int)) (out : List Int) (k : Bool) (w : World) (en : Ending) (w' : World) : Prop := ∃ v, en = .returned (.tuple #[v, .bool k]) ∧ OwnS w' w.heap.size w'.heap.size v b rows out ∧ Below w.heap.size w w'
def formK (b : Int) (rows : List (List Int)) (out : List Int) : Bool := steadyB b rows out || (seqB b rows out && decide (rows.length < 16))
def formB (b : Int) (rows : List (List Int)) (out : List Int) : Int := if formK b rows out = true then b else 0
def formR (b : Int) (rows : List (List Int)) (out : List Int) : List (List Int) := if steadyB b rows out = true then rows else if formK b rows out = true then steadyRows rows else []
def formO (b : Int) (rows : List (List Int)) (out : List Int) : List Int := if steadyB b rows out = true then out else if formK b rows out = true then steadyOut out else []
theorem OwnS.zero (w : World) {lo : Nat} : OwnS w lo w.heap.size (.agg #[.int .i64 0, .slice none 0 0, .slice none 0 0]) 0 [] [] := by
  have h1 : OwnI w lo w.heap.size (.slice none 0 0) [] := ⟨World.ownsRow_nil _ _ _ _, fun k hk => (by cases hk), Nat.le_refl _⟩
  refine ⟨_, _, [], rfl, ⟨World.ownsRow_nil _ _ _ _, fun k hk => (by cases hk), Nat.le_refl _, OwnRows.nil _ _ _⟩, ?_⟩
  refine ⟨rfl, fun i u r hu hr => ?_, fun i j u u' hu hu' hij => ?_⟩
  · cases i with
    | zero => simp at hu hr; subst hu; subst hr; exact h1
    | succ i => simp at hu
  · cases i with
    | zero => simp at hu; subst hu; exact .inl rfl
    | succ i => simp at hu
theorem OwnS.lower {w : World} {lo lo' hi : Nat} {v : Value} {b : Int} {rows : List (List Int)} {out : List Int} (h : OwnS w lo hi v b rows out) (hl : lo' ≤ lo) : OwnS w lo' hi v b rows out := by
  obtain ⟨vn, vo, us, h1, h2, h3⟩ := h
  exact ⟨vn, vo, us, h1, ⟨h2.top.mono hl, h2.lt, h2.le, h2.rows.lower hl⟩, h3.lower hl⟩
end Go.Proofs.Ytgbgcaaekpgapac.Plain
/- A sequence that the call builds in a struct of its own, row by row and term by term: what it owns, and what an appended row and an appended term make of it. No conditions beyond those that each fact states. -/
namespace Go.Proofs.Ytgbgcaaekpgapac.Plain
open Go.RowKit
set_option linter.unusedVariables false
/-- Block p holds the sequence; its slices are the call's own, from block base on, the rows' blocks below hi. -/
structure Building (w : World) (base hi p : Nat) (b : Int) (vn vo : Value) (us : List Value) (rows : List (List Int)) (out : List Int) : Prop where
  top : Has id 23 w base vn us
  rows : OwnRows w base hi (vo :: us) (out :: rows)
  cells : Cells3 w p 30 (.int .i64 b) vn vo
  lo : base ≤ hi
  le : hi ≤ w.heap.size
section
variable {w w' : World} {base hi p : Nat} {b : Int} {vn vo : Value} {us : List Value} {rows : List (List Int)} {out : List Int}
theorem Building.below (h : Building w base hi p b vn vo us rows out) (hb : Below w.heap.size w w') : Building w' base hi p b vn vo us rows out :=
  ⟨h.top.below hb, h.rows.below hb, h.cells.below hb, h.lo, Nat.le_trans h.le hb.size⟩
theorem Building.len (h : Building w base hi p b vn vo us rows out) : us.length = rows.length := by have := h.rows.len; simpa using this
theorem Building.terms (h : Building w base hi p b vn vo us rows out) : OwnI w base hi vo out := h.rows.row 0 vo out rfl rfl
theorem Building.start (h : Cells3 w p 30 (.int .i64 b) (.slice none 0 0) (.slice none 0 0)) (hb : base ≤ w.heap.size) : Building w base base p b (.slice none 0 0) (.slice none 0 0) [] [] [] :=
  ⟨World.ownsRow_nil _ _ _ _, OwnRows.one ⟨World.ownsRow_nil _ _ _ _, fun k hk => (by cases hk), hb⟩, h, Nat.le_refl _, hb⟩
/-- A row that was made behind all the others has been appended and stored. -/
theorem Building.row {u v' : Value} {r : List Int} (h : Building w base hi p b vn vo us rows out) (hu : Has (Value.int .i64) 3 w hi u r) (hv : Has id 23 w' base v' (us ++ [u])) (hg : w.grownBy w' vn.ownBlock) :
    Building (w'.setCell ⟨p, 1, none⟩ v') base w'.heap.size p b v' vo (us ++ [u]) (rows ++ [r]) out := by
  have hI : OwnI w hi w.heap.size u r := ⟨hu, fun k hk => (hu.lt k hk).2, Nat.le_refl _⟩
  have h1 := h.rows.snoc hI h.lo h.le
  have h2 := h1.top_grown h.top hg
  have h3 := h.cells.grown hg (has_ne_c3 h.top h.cells (by decide))
  have h4 := h2.ne_c3 h3 (by decide)
  have h5 := (h2.mono hg.size (Nat.le_refl _)).set (a := ⟨p, 1, none⟩) h4 v'
  exact ⟨hv.set (a := ⟨p, 1, none⟩) (has_ne_c3 hv h3 (by decide)) v', h5, h3.set1 v', Nat.le_trans h.lo (Nat.le_trans h.le hg.size), by rw [size_setCell']; exact Nat.le_refl _⟩
/-- A term has been appended and stored. -/
theorem Building.term {vo' : Value} {o : Int} (h : Building w base hi p b vn vo us rows out) (hv : Has (Value.int .i64) 3 w' base vo' (out ++ [o])) (hg : w.grownBy w' vo.ownBlock) (hb : ∀ k, vo'.ownBlock = some k → vo.ownBlock = some k ∨ w.heap.size ≤ k) :
    Building (w'.setCell ⟨p, 2, none⟩ vo') base w'.heap.size p b vn vo' us rows (out ++ [o]) := by
  have hI := h.terms
  have h2 := h.rows.head_grown hv (Nat.le_refl _) h.le hg hb
  have h3 := h.cells.grown hg (has_ne_c3 hI.has h.cells (by decide))
  have h4 := h2.ne_c3 h3 (by decide)
  have h5 := h2.set (a := ⟨p, 2, none⟩) h4 vo'
  have h6 := h.top.grown hg (h.top.ne_top hI.has)
  exact ⟨h6.set (a := ⟨p, 2, none⟩) (has_ne_c3 h6 h3 (by decide)) vo', h5, h3.set2 vo', Nat.le_trans h.lo (Nat.le_trans h.le hg.size), by rw [size_setCell']; exact Nat.le_refl _⟩
/-- The whole. -/
theorem Building.seq (h : Building w base hi p b vn vo us rows out) : OwnS w base w.heap.size (.agg #[.int .i64 b, vn, vo]) b rows out :=
  OwnS.make_head h.top (h.rows.mono h.le (Nat.le_refl _))
theorem Building.form (h : Building w base hi p b vn vo us rows out) : ∃ an cn ao co, vn = .slice an rows.length cn ∧ vo = .slice ao out.length co := by
  obtain ⟨an, cn, h1, _⟩ := h.top.form
  obtain ⟨ao, co, h2, _⟩ := h.terms.has.form
  exact ⟨an, cn, ao, co, by rw [h1, h.len], h2⟩
end
end Go.Proofs.Ytgbgcaaekpgapac.Plain
/- A sequence that the call builds while other slices of its own grow beside it: the family of all slices of ints, in any order, and what each append makes of it. No conditions beyond those that each fact states. -/
namespace Go.Proofs.Ytgbgcaaekpgapac.Plain
open Go.RowKit
set_option linter.unusedVariables false
/-- The same family in another order. -/
theorem OwnRows.reindex {w : World} {lo hi : Nat} {us us' : List Value} {rows rows' : List (List Int)} (h : OwnRows w lo hi us rows) (σ : Nat → Nat) (hlen : us'.length = rows'.length) (hu : ∀ i, i < us'.length → us'[i]? = us[σ i]?) (hr : ∀ i, i < us'.length → rows'[i]? = rows[σ i]?) (hinj : ∀ i j, i < us'.length → j < us'.length → σ i = σ j → i = j) : OwnRows w lo hi us' rows' :=
  ⟨hlen, fun i u r a b => by
    have hi' := (List.getElem?_eq_some_iff.1 a).1
    rw [hu i hi'] at a
    rw [hr i hi'] at b
    exact h.row _ u r a b, fun i j u u' a b hij => by
    have hi' := (List.getElem?_eq_some_iff.1 a).1
    have hj' := (List.getElem?_eq_some_iff.1 b).1
    rw [hu i hi'] at a
    rw [hu j hj'] at b
    exact h.apart _ _ u u' a b (fun e => hij (hinj i j hi' hj' e))⟩
theorem OwnRows.swap {w : World} {lo hi : Nat} {a b : Value} {us : List Value} {x y : List Int} {rows : List (List Int)} (h : OwnRows w lo hi (a :: b :: us) (x :: y :: rows)) : OwnRows w lo hi (b :: a :: us) (y :: x :: rows) := by
  refine h.reindex (fun | 0 => 1 | 1 => 0 | n => n) (by have := h.len; simpa using this) ?_ ?_ ?_
  · intro i _
    match i with
    | 0 => rfl
    | 1 => rfl
    | n + 2 => rfl
  · intro i _
    match i with
    | 0 => rfl
    | 1 => rfl
    | n + 2 => rfl
  · intro i j _ _ e
    match i, j, e with
    | 0, 0, _ => rfl
    | 0, 1, e => simp at e
    | 0, n + 2, e => simp at e
    | 1, 0, e => simp at e
    | 1, 1, _ => rfl
    | 1, n + 2, e => simp at e
    | n + 2, 0, e => simp at e
    | n + 2, 1, e => simp at e
    | n + 2, m + 2, e => exact e
theorem OwnRows.push {w : World} {lo hi hi' : Nat} {us : List Value} {rows : List (List Int)} {u : Value} {r : List Int} (h : OwnRows w lo hi us rows) (hu : OwnI w hi hi' u r) (hlo : lo ≤ hi) (hle : hi ≤ hi') : OwnRows w lo hi' (u :: us) (r :: rows) := by
  have h1 := h.snoc hu hlo hle
  have hl := h.len
  refine h1.reindex (fun | 0 => us.length | n + 1 => n) (by simp [hl]) ?_ ?_ ?_
  · intro i hi
    match i, hi with
    | 0, _ => simp
    | n + 1, hi => simp at hi; simp [List.getElem?_append_left hi]
  · intro i hi
    match i, hi with
    | 0, _ => simp [hl]
    | n + 1, hi =>
      simp at hi
      show rows[n]? = (rows ++ [r])[n]?
      rw [List.getElem?_append_left (by omega)]
  · intro i j hi hj e
    match i, j, hi, hj, e with
    | 0, 0, _, _, _ => rfl
    | 0, n + 1, _, hj, e => simp at hj e; omega
    | n + 1, 0, hi, _, e => simp at hi e; omega
    | n + 1, m + 1, _, _, e => exact congrArg Nat.succ e
theorem OwnRows.tail {w : World} {lo hi : Nat} {u : Value} {us : List Value} {r : List Int} {rows : List (List Int)} (h : OwnRows w lo hi (u :: us) (r :: rows)) : OwnRows w lo hi us rows :=
  h.reindex (fun n => n + 1) (by have := h.len; simpa using this) (fun i _ => rfl) (fun i _ => rfl) (fun i j _ _ e => by simpa using e)
/-- Block p holds the sequence; its slices and the slice eo of numbers ed beside it are the call's own, from block base on. -/
structure Making (w : World) (base hi p : Nat) (b : Int) (vn vo eo : Value) (us : List Value) (rows : List (List Int)) (out ed : List Int) : Prop where
  top : Has id 23 w base vn us
  fam : OwnRows w base hi (eo :: vo :: us) (ed :: out :: rows)
  cells : Cells3 w p 30 (.int .i64 b) vn vo
  lo : base ≤ hi
  le : hi ≤ w.heap.size
/-- The same with a row in the making. -/
structure Rowing (w : World) (base hi p : Nat) (b : Int) (vn vo eo ro : Value) (us : List Value) (rows : List (List Int)) (out ed r : List Int) : Prop where
  top : Has id 23 w base vn us
  fam : OwnRows w base hi (ro :: eo :: vo :: us) (r :: ed :: out :: rows)
  cells : Cells3 w p 30 (.int .i64 b) vn vo
  lo : base ≤ hi
  le : hi ≤ w.heap.size
section
variable {w w' : World} {base hi p : Nat} {b : Int} {vn vo eo ro : Value} {us : List Value} {rows : List (List Int)} {out ed r : List Int}
theorem Making.below (h : Making w base hi p b vn vo eo us rows out ed) (hb : Below w.heap.size w w') : Making w' base hi p b vn vo eo us rows out ed :=
  ⟨h.top.below hb, h.fam.below hb, h.cells.below hb, h.lo, Nat.le_trans h.le hb.size⟩
theorem Rowing.below (h : Rowing w base hi p b vn vo eo ro us rows out ed r) (hb : Below w.heap.size w w') : Rowing w' base hi p b vn vo eo ro us rows out ed r :=
  ⟨h.top.below hb, h.fam.below hb, h.cells.below hb, h.lo, Nat.le_trans h.le hb.size⟩
theorem Making.len (h : Making w base hi p b vn vo eo us rows out ed) : us.length = rows.length := by have := h.fam.len; simpa using this
theorem Rowing.len (h : Rowing w base hi p b vn vo eo ro us rows out ed r) : us.length = rows.length := by have := h.fam.len; simpa using this
theorem Making.extra (h : Making w base hi p b vn vo eo us rows out ed) : OwnI w base hi eo ed := h.fam.row 0 eo ed rfl rfl
theorem Making.terms (h : Making w base hi p b vn vo eo us rows out ed) : OwnI w base hi vo out := h.fam.row 1 vo out rfl rfl
theorem Rowing.extra (h : Rowing w base hi p b vn vo eo ro us rows out ed r) : OwnI w base hi eo ed := h.fam.row 1 eo ed rfl rfl
theorem Rowing.row_ (h : Rowing w base hi p b vn vo eo ro us rows out ed r) : OwnI w base hi ro r := h.fam.row 0 ro r rfl rfl
theorem Making.building (h : Making w base hi p b vn vo eo us rows out ed) : Building w base hi p b vn vo us rows out := ⟨h.top, h.fam.tail, h.cells, h.lo, h.le⟩
theorem Making.start (h : Cells3 w p 30 (.int .i64 b) (.slice none 0 0) (.slice none 0 0)) (he : Has (Value.int .i64) 3 w base eo ed) (hb : base ≤ w.heap.size) : Making w base w.heap.size p b (.slice none 0 0) (.slice none 0 0) eo [] [] [] ed := by
  have h1 : OwnRows w base base [.slice none 0 0] [[]] := OwnRows.one ⟨World.ownsRow_nil _ _ _ _, fun k hk => (by cases hk), hb⟩
  exact ⟨World.ownsRow_nil _ _ _ _, h1.push (own_of_has he) (Nat.le_refl _) hb, h, hb, Nat.le_refl _⟩
/-- A new row begins. -/
theorem Making.begin (h : Making w base hi p b vn vo eo us rows out ed) (hb : Below w.heap.size w w') (hr : Has (Value.int .i64) 3 w' w.heap.size ro r) : Rowing w' base w'.heap.size p b vn vo eo ro us rows out ed r := by
  have h1 := h.below hb
  have h2 : OwnI w' hi w'.heap.size ro r := ⟨hr.mono h.le, fun k hk => (hr.lt k hk).2, Nat.le_refl _⟩
  exact ⟨h1.top, h1.fam.push h2 h.lo h1.le, h1.cells, Nat.le_trans h1.lo h1.le, Nat.le_refl _⟩
/-- The row has grown. -/
theorem Rowing.grow {ro' : Value} {x : Int} (h : Rowing w base hi p b vn vo eo ro us rows out ed r) (hv : Has (Value.int .i64) 3 w' base ro' (r ++ [x])) (hg : w.grownBy w' ro.ownBlock) (hb : ∀ k, ro'.ownBlock = some k → ro.ownBlock = some k ∨ w.heap.size ≤ k) :
    Rowing w' base w'.heap.size p b vn vo eo ro' us rows out ed (r ++ [x]) :=
  ⟨h.top.grown hg (h.top.ne_top h.row_.has), h.fam.head_grown hv (Nat.le_refl _) h.le hg hb, h.cells.grown hg (has_ne_c3 h.row_.has h.cells (by decide)), Nat.le_trans h.lo (Nat.le_trans h.le hg.size), Nat.le_refl _⟩
/-- The slice beside it has grown. -/
theorem Rowing.more {eo' : Value} {x : Int} (h : Rowing w base hi p b vn vo eo ro us rows out ed r) (hv : Has (Value.int .i64) 3 w' base eo' (ed ++ [x])) (hg : w.grownBy w' eo.ownBlock) (hb : ∀ k, eo'.ownBlock = some k → eo.ownBlock = some k ∨ w.heap.size ≤ k) :
    Rowing w' base w'.heap.size p b vn vo eo' ro us rows out (ed ++ [x]) r :=
  ⟨h.top.grown hg (h.top.ne_top h.extra.has), (h.fam.swap.head_grown hv (Nat.le_refl _) h.le hg hb).swap, h.cells.grown hg (has_ne_c3 h.extra.has h.cells (by decide)), Nat.le_trans h.lo (Nat.le_trans h.le hg.size), Nat.le_refl _⟩
/-- The row has been appended and stored. -/
theorem Rowing.done {v' : Value} (h : Rowing w base hi p b vn vo eo ro us rows out ed r) (hv : Has id 23 w' base v' (us ++ [ro])) (hg : w.grownBy w' vn.ownBlock) :
    Making (w'.setCell ⟨p, 1, none⟩ v') base w'.heap.size p b v' vo eo (us ++ [ro]) (rows ++ [r]) out ed := by
  have h1 : OwnRows w base hi (eo :: vo :: (us ++ [ro])) (ed :: out :: (rows ++ [r])) := h.fam.rotate
  have h2 := h1.top_grown h.top hg
  have h3 := h.cells.grown hg (has_ne_c3 h.top h.cells (by decide))
  have h4 := h2.ne_c3 h3 (by decide)
  have h5 := (h2.mono (Nat.le_trans h.le hg.size) (Nat.le_refl _)).set (a := ⟨p, 1, none⟩) h4 v'
  exact ⟨hv.set (a := ⟨p, 1, none⟩) (has_ne_c3 hv h3 (by decide)) v', h5, h3.set1 v', Nat.le_trans h.lo (Nat.le_trans h.le hg.size), by rw [size_setCell']; exact Nat.le_refl _⟩
/-- A term has been appended and stored. -/
theorem Making.term {vo' : Value} {o : Int} (h : Making w base hi p b vn vo eo us rows out ed) (hv : Has (Value.int .i64) 3 w' base vo' (out ++ [o])) (hg : w.grownBy w' vo.ownBlock) (hb : ∀ k, vo'.ownBlock = some k → vo.ownBlock = some k ∨ w.heap.size ≤ k) :
    Making (w'.setCell ⟨p, 2, none⟩ vo') base w'.heap.size p b vn vo' eo us rows (out ++ [o]) ed := by
  have hI := h.terms
  have h2 := (h.fam.swap.head_grown hv (Nat.le_refl _) h.le hg hb).swap
  have h3 := h.cells.grown hg (has_ne_c3 hI.has h.cells (by decide))
  have h4 := h2.ne_c3 h3 (by decide)
  have h5 := h2.set (a := ⟨p, 2, none⟩) h4 vo'
  have h6 := h.top.grown hg (h.top.ne_top hI.has)
  exact ⟨h6.set (a := ⟨p, 2, none⟩) (has_ne_c3 h6 h3 (by decide)) vo', h5, h3.set2 vo', Nat.le_trans h.lo (Nat.le_trans h.le hg.size), by rw [size_setCell']; exact Nat.le_refl _⟩
theorem Making.form (h : Making w base hi p b vn vo eo us rows out ed) : ∃ an cn ao co, vn = .slice an rows.length cn ∧ vo = .slice ao out.length co := h.building.form
end
end Go.Proofs.Ytgbgcaaekpgapac.Plain
/- Plain facts on the model's way to the minimal form: a search over states that looks at their classes. No conditions beyond those that each fact states. -/
namespace Go.Proofs.Ytgbgcaaekpgapac.Plain
set_option linter.unusedVariables false
/-- A state's class. -/
def clsF (rows : List (List Int)) (out : List Int) (s : Int) : Int := (classes rows out).getD s.toNat 0
/-- The states of a search and their classes. -/
def Order (rows : List (List Int)) (out od L : List Int) : Prop := od.map (clsF rows out) = L ∧ ∀ x ∈ od, 0 ≤ x ∧ x < (rows.length : Int)
theorem order_start {rows : List (List Int)} {out : List Int} {n : Nat} (A : Auto rows out n) : Order rows out [0] (reachI (rowsQ rows out) 0) := by
  refine ⟨?_, fun x hx => ?_⟩
  · show [clsF rows out 0] = [0]
    rw [clsF]
    congr 1
    exact class_zero A
  · simp at hx
    subst hx
    have := A.closed.1
    omega
/-- What a round finds. -/
theorem order_round {rows : List (List Int)} {out od : List Int} {n i : Nat} (A : Auto rows out n) (h : Order rows out od (reachI (rowsQ rows out) i)) (hi : i < od.length) :
    ∃ (tn : Nat) (r : List Int) (o : Int), od[i]? = some (tn : Int) ∧ tn < rows.length ∧ rows[tn]? = some r ∧ out[tn]? = some o ∧ r.length = n ∧ (∀ y ∈ r, 0 ≤ y ∧ y < (rows.length : Int)) ∧
      (reached (rowsQ rows out))[i]? = some (clsF rows out tn) ∧ rowOf (rowsQ rows out) (clsF rows out tn) = r.map (clsF rows out) ∧ (outQ rows out).getD (clsF rows out tn).toNat 0 = o ∧ reachI (rowsQ rows out) (i + 1) = addAll (reachI (rowsQ rows out) i) (r.map (clsF rows out)) := by
  have h1 : od[i]? = some od[i] := List.getElem?_eq_getElem hi
  have h2 := h.2 _ (List.getElem_mem hi)
  obtain ⟨tn, htn⟩ : ∃ tn : Nat, (tn : Int) = od[i] := ⟨od[i].toNat, by omega⟩
  rw [← htn] at h1 h2
  have ht : tn < rows.length := by omega
  obtain ⟨r, hr⟩ : ∃ r, rows[tn]? = some r := ⟨_, List.getElem?_eq_getElem ht⟩
  obtain ⟨o, ho⟩ : ∃ o, out[tn]? = some o := ⟨_, List.getElem?_eq_getElem (by rw [A.terms]; exact ht)⟩
  have hq := rowsQ_at A ht
  have hL : (reachI (rowsQ rows out) i)[i]? = some (clsF rows out tn) := by
    rw [← h.1, List.getElem?_map, h1]
    rfl
  have hrD : rows.getD tn [] = r := by rw [List.getD_eq_getElem?_getD, hr]; rfl
  have hoD : out.getD tn 0 = o := by rw [List.getD_eq_getElem?_getD, ho]; rfl
  have hrow : rowOf (rowsQ rows out) (clsF rows out tn) = r.map (clsF rows out) := by
    rw [clsF, Int.toNat_natCast, hq.1, hrD]
    rfl
  refine ⟨tn, r, o, h1, ht, hr, ho, A.width r (List.mem_of_getElem? hr), A.closed.2 r (List.mem_of_getElem? hr), ?_, hrow, ?_, ?_⟩
  · obtain ⟨t, ht'⟩ := reachI_sub (rowsQ_auto A).closed i
    have hl := (List.getElem?_eq_some_iff.1 hL).1
    rw [← ht', List.getElem?_append_left hl]
    exact hL
  · rw [clsF, Int.toNat_natCast, hq.2, hoD]
  · rw [reachI_step hL, hrow]
/-- The classes that are found in the middle of a round. -/
def midL (rows : List (List Int)) (out : List Int) (i : Nat) (r : List Int) (k : Nat) : List Int := addAll (reachI (rowsQ rows out) i) ((r.take k).map (clsF rows out))
theorem midL_zero (rows : List (List Int)) (out : List Int) (i : Nat) (r : List Int) : midL rows out i r 0 = reachI (rowsQ rows out) i := rfl
theorem midL_succ {rows : List (List Int)} {out : List Int} {i k : Nat} {r : List Int} {y : Int} (h : r[k]? = some y) : midL rows out i r (k + 1) = addTo (midL rows out i r k) (clsF rows out y) := by
  obtain ⟨hk, rfl⟩ := List.getElem?_eq_some_iff.1 h
  rw [midL, List.take_succ_eq_append_getElem hk, List.map_append, List.map_singleton, addAll_snoc]
  rfl
theorem midL_end {rows : List (List Int)} {out : List Int} {i : Nat} {r : List Int} (h : reachI (rowsQ rows out) (i + 1) = addAll (reachI (rowsQ rows out) i) (r.map (clsF rows out))) : midL rows out i r r.length = reachI (rowsQ rows out) (i + 1) := by rw [midL, List.take_length, h]
theorem midL_sub {rows : List (List Int)} {out : List Int} {n i k : Nat} {r : List Int} (A : Auto rows out n) (h : reachI (rowsQ rows out) (i + 1) = addAll (reachI (rowsQ rows out) i) (r.map (clsF rows out))) : midL rows out i r k <+: reached (rowsQ rows out) := by
  refine List.IsPrefix.trans ?_ (reachI_sub (rowsQ_auto A).closed (i + 1))
  rw [h, midL]
  have e : (r.map (clsF rows out)) = (r.take k).map (clsF rows out) ++ (r.drop k).map (clsF rows out) := by rw [← List.map_append, List.take_append_drop]
  rw [e, addAll_append]
  exact addAll_prefix _ _
theorem midL_len {rows : List (List Int)} {out : List Int} {n i k : Nat} {r : List Int} (A : Auto rows out n) (h : reachI (rowsQ rows out) (i + 1) = addAll (reachI (rowsQ rows out) i) (r.map (clsF rows out))) : (midL rows out i r k).length ≤ rows.length := by
  have h1 := (midL_sub (k := k) A h).length_le
  have h2 := reached_len (rowsQ_auto A).closed
  have h3 := rowsQ_len rows out
  omega
theorem midL_nodup {rows : List (List Int)} {out : List Int} {n i k : Nat} {r : List Int} (A : Auto rows out n) : (midL rows out i r k).Nodup := addAll_nodup _ _ (reachI_ok (rowsQ_auto A).closed i).1
/-- A class that is there already. -/
theorem mid_old {rows : List (List Int)} {out : List Int} {n i k : Nat} {r : List Int} {y : Int} (A : Auto rows out n) (h : reachI (rowsQ rows out) (i + 1) = addAll (reachI (rowsQ rows out) i) (r.map (clsF rows out))) (hy : r[k]? = some y) (hc : clsF rows out y ∈ midL rows out i r k) :
    midL rows out i r (k + 1) = midL rows out i r k ∧ ix (reached (rowsQ rows out)) (clsF rows out y) = ix (midL rows out i r k) (clsF rows out y) :=
  ⟨by rw [midL_succ hy, addTo_in hc], idxOf_prefix (midL_sub A h) hc⟩
/-- A new class. -/
theorem mid_new {rows : List (List Int)} {out od : List Int} {n i k : Nat} {r : List Int} {y : Int} (A : Auto rows out n) (h : reachI (rowsQ rows out) (i + 1) = addAll (reachI (rowsQ rows out) i) (r.map (clsF rows out))) (hy : r[k]? = some y) (hc : clsF rows out y ∉ midL rows out i r k)
    (ho : Order rows out od (midL rows out i r k)) (hb : 0 ≤ y ∧ y < (rows.length : Int)) :
    Order rows out (od ++ [y]) (midL rows out i r (k + 1)) ∧ ix (reached (rowsQ rows out)) (clsF rows out y) = (midL rows out i r k).length := by
  have e : midL rows out i r (k + 1) = midL rows out i r k ++ [clsF rows out y] := by rw [midL_succ hy, addTo_new hc]
  refine ⟨⟨by rw [List.map_append, ho.1, e]; rfl, fun x hx => ?_⟩, ?_⟩
  · rcases List.mem_append.1 hx with hx | hx
    · exact ho.2 x hx
    · simp at hx
      subst hx
      exact hb
  · have hm : clsF rows out y ∈ midL rows out i r (k + 1) := by rw [e]; simp
    rw [idxOf_prefix (midL_sub A h) hm, e, ix, List.idxOf_append, if_neg hc]
    simp
/-- What the search for a class has found. -/
def FoundC (L : List Int) (c : Int) (k : Nat) (f : Int) : Prop := (f = -1 ∧ ∀ j < k, L[j]? ≠ some c) ∨ (0 ≤ f ∧ c ∈ L ∧ f = (ix L c : Int))
theorem foundC_yes {L : List Int} {c : Int} {k : Nat} (hn : L.Nodup) (h : L[k]? = some c) : FoundC L c (k + 1) (k : Int) :=
  .inr ⟨Int.natCast_nonneg _, List.mem_of_getElem? h, by rw [idxOf_get hn h]⟩
theorem foundC_no {L : List Int} {c x : Int} {k : Nat} {f : Int} (hf : FoundC L c k f) (h0 : f < 0) (h : L[k]? = some x) (hx : ¬ x = c) : FoundC L c (k + 1) f := by
  rcases hf with ⟨h1, h2⟩ | h1
  · refine .inl ⟨h1, fun j hj hje => ?_⟩
    by_cases e : j = k
    · subst e
      rw [h] at hje
      exact hx (Option.some.inj hje)
    · exact h2 j (by omega) hje
  · omega
theorem foundC_end {L : List Int} {c : Int} {k : Nat} {f : Int} (hf : FoundC L c k f) (he : k = L.length ∨ 0 ≤ f) (hk : k ≤ L.length) : (f = -1 ∧ c ∉ L) ∨ (0 ≤ f ∧ c ∈ L ∧ f = (ix L c : Int)) := by
  rcases hf with ⟨h1, h2⟩ | h1
  · refine .inl ⟨h1, fun hm => ?_⟩
    obtain ⟨j, hj⟩ := List.getElem?_of_mem hm
    have := (List.getElem?_eq_some_iff.1 hj).1
    exact h2 j (by omega) hj
  · exact .inr h1
/-- A row in the making. -/
def partR (rows : List (List Int)) (out r : List Int) (k : Nat) : List Int := (r.take k).map fun y => (ix (reached (rowsQ rows out)) (clsF rows out y) : Int)
theorem partR_succ {rows : List (List Int)} {out r : List Int} {k : Nat} {y : Int} (h : r[k]? = some y) : partR rows out r (k + 1) = partR rows out r k ++ [(ix (reached (rowsQ rows out)) (clsF rows out y) : Int)] := by
  obtain ⟨hk, rfl⟩ := List.getElem?_eq_some_iff.1 h
  rw [partR, List.take_succ_eq_append_getElem hk, List.map_append]
  rfl
theorem partR_len {rows : List (List Int)} {out r : List Int} {k : Nat} (h : k ≤ r.length) : (partR rows out r k).length = k := by simp [partR]; omega
theorem partR_end {rows : List (List Int)} {out r : List Int} {s : Int} (h : rowOf (rowsQ rows out) s = r.map (clsF rows out)) : partR rows out r r.length = minRow (rowsQ rows out) (reached (rowsQ rows out)) s := by
  rw [partR, List.take_length, minRow, h, List.map_map]
  rfl
theorem order_end {rows : List (List Int)} {out od : List Int} {n i : Nat} (A : Auto rows out n) (h : Order rows out od (reachI (rowsQ rows out) i)) (hi : ¬ i < od.length) (hl : i ≤ od.length) : i = (reached (rowsQ rows out)).length ∧ od.length = i := by
  have h1 : (reachI (rowsQ rows out) i).length = od.length := by rw [← h.1, List.length_map]
  have h2 := reachI_end (rowsQ_auto A).closed (i := i) (by omega)
  rw [← h2]
  omega
end Go.Proofs.Ytgbgcaaekpgapac.Plain
/- Laws for a map that the call itself makes and never hands out, told as the list of its keys: the i-th key that was stored leads to the number i. No conditions beyond those that each states. -/
namespace Go.Proofs.Ytgbgcaaekpgapac.Plain
open Go.RowKit Go.ChangeMaps Go.MapKept
open Go.Maps (Keyed)
set_option linter.unusedVariables false
section
variable {κ : Type} {enc : κ → Value} {P : Program} {k e t : TypeId} {w : World} {b : Nat} {keys : List κ}
/-- The entries are those of the keys, the i-th one leads to i. -/
structure EntriesOf (enc : κ → Value) (es : Array MapEntry) (clock : Nat) (keys : List κ) : Prop where
  old : ∀ x ∈ es.toList, x.born < clock
  born : (es.toList.map (·.born)).Nodup
  len : es.toList.length = keys.length
  at_ : ∀ (i : Nat) (x : κ), keys[i]? = some x → ∃ y, es.toList[i]? = some y ∧ y.key = enc x ∧ y.val = .int .i64 i
/-- Block b is a map with these keys. -/
def MapOf (enc : κ → Value) (w : World) (b : Nat) (keys : List κ) : Prop := ∃ es clock, w.heap[b]? = some (.map es clock) ∧ EntriesOf enc es clock keys
/-- What is asked of the keys: they can be read, and no two read alike. -/
structure GoodKeys (P : Program) (k : TypeId) (enc : κ → Value) (Ok : κ → Prop) : Prop where
  law : Keyed P k
  reads : ∀ x, Ok x → ∃ l, Go.keyOf P k (enc x) = some l
  inj : ∀ x y, Ok x → Ok y → enc x = enc y → x = y
theorem EntriesOf.back {es : Array MapEntry} {clock : Nat} (h : EntriesOf enc es clock keys) {i : Nat} {y : MapEntry} (hy : es.toList[i]? = some y) : ∃ x, keys[i]? = some x ∧ y.key = enc x ∧ y.val = .int .i64 i := by
  have hi : i < keys.length := by rw [← h.len]; exact (List.getElem?_eq_some_iff.1 hy).1
  obtain ⟨y', hy', h1, h2⟩ := h.at_ i _ (List.getElem?_eq_getElem hi)
  rw [hy] at hy'
  cases hy'
  exact ⟨_, List.getElem?_eq_getElem hi, h1, h2⟩
theorem EntriesOf.empty (clock : Nat) : EntriesOf enc #[] clock [] := ⟨by simp, by simp, rfl, fun i x h => by simp at h⟩
theorem MapOf.made (w : World) : MapOf enc (w.alloc (.map #[] 0)) w.heap.size [] := ⟨#[], 0, heap_alloc_new w _, EntriesOf.empty 0⟩
theorem MapOf.lt (h : MapOf enc w b keys) : b < w.heap.size := by
  obtain ⟨es, clock, hb, _⟩ := h
  exact (Array.getElem?_eq_some_iff.1 hb).1
theorem MapOf.grown {w' : World} {row : Option Nat} (h : MapOf enc w b keys) (hg : w.grownBy w' row) (hne : row ≠ some b) : MapOf enc w' b keys := by
  have hlt := h.lt
  obtain ⟨es, clock, hb, H⟩ := h
  exact ⟨es, clock, (hg.block b hlt (Ne.symm hne)).trans hb, H⟩
theorem MapOf.below {w' : World} (h : MapOf enc w b keys) (hb : Below w.heap.size w w') : MapOf enc w' b keys := h.grown (grown_of_below hb) (by simp)
theorem MapOf.ne_cells {g : Nat} {cs : Array Value} {ty : TypeId} {fz : Nat × Nat} (h : MapOf enc w b keys) (hg : w.heap[g]? = some (.cells cs ty fz)) : g ≠ b := by
  obtain ⟨es, clock, hb, _⟩ := h
  intro e
  subst e
  rw [hb] at hg
  cases hg
/-- What 'find' finds. -/
theorem EntriesOf.find [DecidableEq κ] {Ok : κ → Prop} (G : GoodKeys P k enc Ok) {es : Array MapEntry} {clock : Nat} (h : EntriesOf enc es clock keys) (hok : ∀ x ∈ keys, Ok x) {x : κ} (hx : Ok x) (hnd : keys.Nodup) :
    (x ∉ keys → (Instr.findKey k (enc x) es.toList).run P w = .ok none w) ∧ (x ∈ keys → ∃ j, (Instr.findKey k (enc x) es.toList).run P w = .ok (some (j, .int .i64 (ix keys x))) w) := by
  obtain ⟨l, hl⟩ := G.reads x hx
  have hall : ∀ y ∈ es.toList, ∃ l, Go.keyOf P k y.key = some l := fun y hy => by
    obtain ⟨i, hi⟩ := List.getElem?_of_mem hy
    obtain ⟨z, hz, h1, _⟩ := h.back hi
    obtain ⟨l', hl'⟩ := G.reads z (hok z (List.mem_of_getElem? hz))
    exact ⟨l', by rw [h1]; exact hl'⟩
  rcases G.law.find w hl es.toList hall with ⟨h1, h2⟩ | ⟨j, y, h1, h2, h3⟩
  · refine ⟨fun _ => h1, fun hm => ?_⟩
    obtain ⟨i, hi⟩ := List.getElem?_of_mem hm
    obtain ⟨y, hy, h3, _⟩ := h.at_ i x hi
    exact absurd h3 (h2 y (List.mem_of_getElem? hy))
  · obtain ⟨z, hz, h4, h5⟩ := h.back h2
    have hzk := List.mem_of_getElem? hz
    have e1 : z = x := G.inj z x (hok z hzk) hx (h4.symm.trans h3)
    subst e1
    refine ⟨fun hn => absurd hzk hn, fun _ => ⟨j, ?_⟩⟩
    rw [h1, h5, idxOf_get hnd hz]
theorem MapOf.look_no [DecidableEq κ] {Ok : κ → Prop} (G : GoodKeys P k enc Ok) (ht : P.underlying t = some (.map k e)) (h : MapOf enc w b keys) (hz : (zeroValue e).run P w = .ok (.int .i64 0) w) (hok : ∀ x ∈ keys, Ok x) {x : κ} (hx : Ok x) (hnd : keys.Nodup) (hn : x ∉ keys) :
    (Instr.lookup t (.map (some b)) (enc x) true).run P w = .ok (.tuple #[.int .i64 0, .bool false]) w := by
  obtain ⟨l, hl⟩ := G.reads x hx
  obtain ⟨es, clock, hb, H⟩ := h
  have h1 := (H.find G (w := w) hok hx hnd).1 hn
  simp [Instr.lookup, run_underlying ht, MapKept.run_getObj_map hb, G.law.check w _ hl, h1, hz, Result.andThen]
theorem MapOf.look_yes [DecidableEq κ] {Ok : κ → Prop} (G : GoodKeys P k enc Ok) (ht : P.underlying t = some (.map k e)) (h : MapOf enc w b keys) (hok : ∀ x ∈ keys, Ok x) {x : κ} (hx : Ok x) (hnd : keys.Nodup) (hn : x ∈ keys) :
    (Instr.lookup t (.map (some b)) (enc x) true).run P w = .ok (.tuple #[.int .i64 (ix keys x), .bool true]) w := by
  obtain ⟨l, hl⟩ := G.reads x hx
  obtain ⟨es, clock, hb, H⟩ := h
  obtain ⟨j, h1⟩ := (H.find G (w := w) hok hx hnd).2 hn
  simp [Instr.lookup, run_underlying ht, MapKept.run_getObj_map hb, G.law.check w _ hl, h1, Result.andThen]
theorem MapOf.store [DecidableEq κ] {Ok : κ → Prop} (G : GoodKeys P k enc Ok) (ht : P.underlying t = some (.map k e)) (h : MapOf enc w b keys) (hok : ∀ x ∈ keys, Ok x) {x : κ} (hx : Ok x) (hnd : keys.Nodup) (hn : x ∉ keys) :
    ∃ w', (Instr.mapUpdate t (.map (some b)) (enc x) (.int .i64 keys.length)).run P w = .ok () w' ∧ MapOf enc w' b (keys ++ [x]) ∧ w.grownBy w' (some b) := by
  obtain ⟨l, hl⟩ := G.reads x hx
  obtain ⟨es, clock, hb, H⟩ := h
  have h1 := (H.find G (w := w) hok hx hnd).1 hn
  refine ⟨setBlock w b (.map (es.push ⟨enc x, .int .i64 keys.length, clock⟩) (clock + 1)), ?_, ⟨_, _, heap_setBlock_same hb _, ?_⟩, ⟨rfl, rfl, rfl, by simp [setBlock], fun i _ hi => heap_setBlock_other hb _ (fun e => hi (by rw [e]))⟩⟩
  · simp [Instr.mapUpdate, run_underlying ht, MapKept.run_getObj_map hb, G.law.check w false hl, h1, MapKept.run_setObj_map _ hb, Result.andThen, setBlock]
  · refine ⟨fun y hy => ?_, ?_, ?_, fun i y hy => ?_⟩
    · simp only [Array.toList_push, List.mem_append, List.mem_singleton] at hy
      rcases hy with hy | rfl
      · have := H.old y hy
        omega
      · exact Nat.lt_succ_self _
    · rw [Array.toList_push, List.map_append, List.nodup_append]
      refine ⟨H.born, by simp, fun a ha c hc => ?_⟩
      obtain ⟨y, hy, rfl⟩ := List.mem_map.1 ha
      have := H.old y hy
      simp at hc
      subst hc
      omega
    · rw [Array.toList_push, List.length_append, List.length_append, H.len]
      rfl
    · rw [Array.toList_push]
      by_cases hi : i < keys.length
      · rw [List.getElem?_append_left hi] at hy
        obtain ⟨z, hz, h2⟩ := H.at_ i y hy
        exact ⟨z, by rw [List.getElem?_append_left (by rw [H.len]; exact hi)]; exact hz, h2⟩
      · have hi' := (List.getElem?_eq_some_iff.1 hy).1
        simp at hi'
        have : i = keys.length := by omega
        subst this
        simp at hy
        subst hy
        exact ⟨⟨enc x, .int .i64 keys.length, clock⟩, by rw [List.getElem?_append_right (by rw [H.len]; exact Nat.le_refl _), H.len]; simp, rfl, rfl⟩
theorem MapOf.clear_ (ht : P.underlying t = some (.map k e)) (h : MapOf enc w b keys) (ty : TypeId) :
    ∃ w', (Builtin.clear_ #[t] ty #[.map (some b)]).run P w = .ok (.tuple #[]) w' ∧ MapOf enc w' b [] ∧ w.grownBy w' (some b) := by
  obtain ⟨es, clock, hb, H⟩ := h
  refine ⟨setBlock w b (.map #[] clock), ?_, ⟨_, _, heap_setBlock_same hb _, EntriesOf.empty clock⟩, ⟨rfl, rfl, rfl, by simp [setBlock], fun i _ hi => heap_setBlock_other hb _ (fun e => hi (by rw [e]))⟩⟩
  simp [Builtin.clear_, run_underlying ht, MapKept.run_getObj_map hb, MapKept.run_setObj_map _ hb, Result.andThen, setBlock]
theorem MapOf.len_ (ht : P.underlying t = some (.map k e)) (h : MapOf enc w b keys) (ty : TypeId) : (Builtin.len_ #[t] ty #[.map (some b)]).run P w = .ok (.int .i64 keys.length) w := by
  obtain ⟨es, clock, hb, H⟩ := h
  have h1 : es.size = keys.length := by rw [← H.len]; simp
  simp [Builtin.len_, run_underlying ht, MapKept.run_getObj_map hb, goInt, h1]
end
/-! ### at the operation -/
section
variable {κ : Type} {enc : κ → Value} {P : Program} {k e : TypeId} (w : World) {b : Nat} {keys : List κ} {ops : Array Oper} {rest : List Oper} {o : Oper} {a : Act} {Q : Exit → Act → World → Prop} {Ok : κ → Prop}
theorem wpList_look_no [DecidableEq κ] (hg : o.guard = none) (m x : Operand) (t : TypeId) (hop : o.op = Op.lookup t m x true) (G : GoodKeys P k enc Ok) (ht : P.underlying t = some (.map k e)) (hz : (zeroValue e).run P w = .ok (.int .i64 0) w)
    (hm : a.eval m = .map (some b)) (h : MapOf enc w b keys) (hok : ∀ x ∈ keys, Ok x) (hnd : keys.Nodup) (y : κ) (hx : a.eval x = enc y) (hy : Ok y) (hn : y ∉ keys)
    (hK : wpList P ops Q rest (a.put o.dst (.tuple #[.int .i64 0, .bool false])) w) : wpList P ops Q (o :: rest) a w := by
  refine wpList_plain hg fun K' hK' => ?_
  have hrun := h.look_no G ht hz hok hy hnd hn
  unfold Oper.wp
  simp [execOp, hop, hm, hx, hrun, Result.andThen]
  exact hK' _ _ hK
theorem wpList_look_yes [DecidableEq κ] (hg : o.guard = none) (m x : Operand) (t : TypeId) (hop : o.op = Op.lookup t m x true) (G : GoodKeys P k enc Ok) (ht : P.underlying t = some (.map k e))
    (hm : a.eval m = .map (some b)) (h : MapOf enc w b keys) (hok : ∀ x ∈ keys, Ok x) (hnd : keys.Nodup) (y : κ) (hx : a.eval x = enc y) (hy : Ok y) (hn : y ∈ keys)
    (hK : wpList P ops Q rest (a.put o.dst (.tuple #[.int .i64 (ix keys y), .bool true])) w) : wpList P ops Q (o :: rest) a w := by
  refine wpList_plain hg fun K' hK' => ?_
  have hrun := h.look_yes G ht hok hy hnd hn
  unfold Oper.wp
  simp [execOp, hop, hm, hx, hrun, Result.andThen]
  exact hK' _ _ hK
theorem wpList_store_new [DecidableEq κ] (hg : o.guard = none) (m x v : Operand) (t : TypeId) (hop : o.op = Op.mapUpdate t m x v) (G : GoodKeys P k enc Ok) (ht : P.underlying t = some (.map k e))
    (hm : a.eval m = .map (some b)) (h : MapOf enc w b keys) (hok : ∀ x ∈ keys, Ok x) (hnd : keys.Nodup) (y : κ) (hx : a.eval x = enc y) (hv : a.eval v = .int .i64 keys.length) (hy : Ok y) (hn : y ∉ keys)
    (hK : ∀ w', MapOf enc w' b (keys ++ [y]) → w.grownBy w' (some b) → wpList P ops Q rest (a.put o.dst undef) w') : wpList P ops Q (o :: rest) a w := by
  refine wpList_plain hg fun K' hK' => ?_
  obtain ⟨w', hrun, r1, r2⟩ := h.store G ht hok hy hnd hn
  unfold Oper.wp
  simp [execOp, hop, hm, hx, hv, hrun, Result.andThen]
  exact hK' _ _ (hK w' r1 r2)
theorem wpList_clear (hg : o.guard = none) (m : Operand) (t : TypeId) (hop : o.op = Op.call { callee := Callee.builtin Builtin.clear, args := #[m], argTypes := #[t] }) (ht : P.underlying t = some (.map k e))
    (hm : a.eval m = .map (some b)) (h : MapOf enc w b keys) (hK : ∀ w', MapOf enc w' b [] → w.grownBy w' (some b) → wpList P ops Q rest (a.put o.dst (.tuple #[])) w') : wpList P ops Q (o :: rest) a w := by
  refine wpList_plain hg fun K' hK' => ?_
  obtain ⟨w', hrun, r1, r2⟩ := h.clear_ ht o.type
  unfold Oper.wp
  simp [execOp, hop, resolve, invoke, builtin, hm, hrun, Result.andThen]
  exact hK' _ _ (hK w' r1 r2)
theorem wpList_maplen (hg : o.guard = none) (m : Operand) (t : TypeId) (hop : o.op = Op.call { callee := Callee.builtin Builtin.len, args := #[m], argTypes := #[t] }) (ht : P.underlying t = some (.map k e))
    (hm : a.eval m = .map (some b)) (h : MapOf enc w b keys) (hK : wpList P ops Q rest (a.put o.dst (.int .i64 keys.length)) w) : wpList P ops Q (o :: rest) a w := by
  refine wpList_plain hg fun K' hK' => ?_
  have hrun := h.len_ ht o.type
  unfold Oper.wp
  simp [execOp, hop, resolve, invoke, builtin, hm, hrun, Result.andThen]
  exact hK' _ _ hK
end
/-! ### a range over the map -/
section
variable {κ : Type} {enc : κ → Value} {P : Program} {k e t : TypeId} {w : World} {b r : Nat} {keys : List κ} {dn : Nat → Bool} {cnt : Nat}
/-- Block r is an iterator over the map b: the keys i with 'dn i' have come, cnt are left. -/
def RangeOf (enc : κ → Value) (w : World) (b r : Nat) (keys : List κ) (dn : Nat → Bool) (cnt : Nat) : Prop :=
  ∃ es clock since seen c0, w.heap[b]? = some (.map es clock) ∧ EntriesOf enc es clock keys ∧ w.heap[r]? = some (.mapIter (some b) since seen c0) ∧ (∀ x ∈ es.toList, x.born < since) ∧ cnt = (leftOf es seen).size ∧ since ≤ c0 ∧ since ≤ clock ∧ ∀ i y, es.toList[i]? = some y → seen.contains y.born = dn i
theorem RangeOf.map_ (h : RangeOf enc w b r keys dn cnt) : MapOf enc w b keys := by
  obtain ⟨es, clock, since, seen, c0, hb, H, _⟩ := h
  exact ⟨es, clock, hb, H⟩
theorem RangeOf.lt (h : RangeOf enc w b r keys dn cnt) : r < w.heap.size := by
  obtain ⟨es, clock, since, seen, c0, hb, H, hr, _⟩ := h
  exact (Array.getElem?_eq_some_iff.1 hr).1
theorem RangeOf.grown {w' : World} {row : Option Nat} (h : RangeOf enc w b r keys dn cnt) (hg : w.grownBy w' row) (h1 : row ≠ some b) (h2 : row ≠ some r) : RangeOf enc w' b r keys dn cnt := by
  have l1 := h.map_.lt
  have l2 := h.lt
  obtain ⟨es, clock, since, seen, c0, hb, H, hr, R⟩ := h
  exact ⟨es, clock, since, seen, c0, (hg.block b l1 (Ne.symm h1)).trans hb, H, (hg.block r l2 (Ne.symm h2)).trans hr, R⟩
theorem RangeOf.below {w' : World} (h : RangeOf enc w b r keys dn cnt) (hb : Below w.heap.size w w') : RangeOf enc w' b r keys dn cnt := h.grown (grown_of_below hb) (by simp) (by simp)
theorem RangeOf.ne_cells {g : Nat} {cs : Array Value} {ty : TypeId} {fz : Nat × Nat} (h : RangeOf enc w b r keys dn cnt) (hg : w.heap[g]? = some (.cells cs ty fz)) : g ≠ b ∧ g ≠ r := by
  refine ⟨h.map_.ne_cells hg, ?_⟩
  obtain ⟨es, clock, since, seen, c0, hb, H, hr, _⟩ := h
  intro e
  subst e
  rw [hr] at hg
  cases hg
theorem MapOf.range_ (ht : P.underlying t = some (.map k e)) (h : MapOf enc w b keys) :
    ∃ w', (Instr.range t (.map (some b))).run P w = .ok (.pointer (some ⟨w.heap.size, 0, none⟩)) w' ∧ RangeOf enc w' b w.heap.size keys (fun _ => false) keys.length ∧ w.grownBy w' none ∧ w'.heap.size = w.heap.size + 1 := by
  have hlt := h.lt
  obtain ⟨es, clock, hb, H⟩ := h
  refine ⟨_, run_range_map w t k e b es clock ht hb, ⟨es, clock, clock, #[], clock, ((MapKept.heap_alloc w _).2 b hlt).trans hb, H, (MapKept.heap_alloc w _).1, H.old, ?_, Nat.le_refl _, Nat.le_refl _, fun i y _ => by simp⟩, World.grownBy_alloc w _ none, by simp⟩
  rw [← H.len]
  have h1 : es.filter (fun e => !(#[] : Array Nat).contains e.born) = es := Array.filter_eq_self.2 (fun x _ => by simp)
  rw [leftOf, h1]
  simp
theorem RangeOf.next_ (h : RangeOf enc w b r keys dn cnt) (ty : TypeId) :
    (cnt = 0 ∧ (∀ i < keys.length, dn i = true) ∧ (Instr.next (.pointer (some ⟨r, 0, none⟩)) false ty).run P w = .ok (.tuple #[.bool false]) w) ∨
    ∃ i x w' cnt', keys[i]? = some x ∧ dn i = false ∧ (Instr.next (.pointer (some ⟨r, 0, none⟩)) false ty).run P w = .ok (.tuple #[.bool true, enc x, .int .i64 i]) w' ∧
      RangeOf enc w' b r keys (fun j => dn j || j == i) cnt' ∧ cnt' < cnt ∧ w.grownBy w' (some r) ∧ w'.heap.size = w.heap.size ∧ (Instr.entry (.pointer (some ⟨r, 0, none⟩))).run P w' = .ok (.tuple #[enc x, .int .i64 i]) w' := by
  obtain ⟨es, clock, since, seen, c0, hb, H, hr, hold, rfl, hsc, hsk, hdn⟩ := h
  have hne : r ≠ b := fun e => by
    subst e
    rw [hb] at hr
    cases hr
  rcases run_next_at (P := P) w ty r b since c0 seen es clock hr hb hold hsc with ⟨h0, hrun⟩ | ⟨y, he, w1, hal, hrun⟩
  · refine .inl ⟨h0, fun i hi => ?_, hrun⟩
    obtain ⟨y, hy, _⟩ := H.at_ i _ (List.getElem?_eq_getElem hi)
    rw [← hdn i y hy]
    exact all_seen es seen h0 y (List.mem_of_getElem? hy)
  · obtain ⟨hem, hes⟩ := mem_left he
    obtain ⟨i, hi⟩ := List.getElem?_of_mem hem
    obtain ⟨x, hx, hk, hv⟩ := H.back hi
    have hr1 : w1.heap[r]? = some (.mapIter (some b) since seen c0) := by rcases hal with rfl | rfl <;> exact hr
    have hb1 : w1.heap[b]? = some (.map es clock) := by rcases hal with rfl | rfl <;> exact hb
    have hset := heap_set (o' := .mapIter (some b) since (seen.push y.born) clock) hr1
    have hb' : (setBlock w1 r (.mapIter (some b) since (seen.push y.born) clock)).heap[b]? = some (.map es clock) := (hset.2 b (fun e1 => hne e1.symm)).trans hb1
    rw [hk, hv] at hrun
    have hent := run_entry_at (P := P) _ r b since seen es clock y hset.1 hb' hem H.born
    rw [hk, hv] at hent
    refine .inr ⟨i, x, _, _, hx, by rw [← hdn i y hi]; exact hes, hrun, ⟨es, clock, since, seen.push y.born, clock, hb', H, hset.1, hold, rfl, hsk, hsk, fun j z hz => ?_⟩, left_shrinks es seen y he, ?_, ?_, hent⟩
    · rw [contains_push, hdn j z hz]
      congr 1
      by_cases e : j = i
      · subst e
        rw [hi] at hz
        cases hz
        simp
      · have h1 : (j == i) = false := by simpa using e
        rw [h1]
        simp only [beq_eq_false_iff_ne, ne_eq]
        intro e2
        have hj := (List.getElem?_eq_some_iff.1 hz).1
        have hi' := (List.getElem?_eq_some_iff.1 hi).1
        have g1 : (es.toList.map (·.born))[j]? = some z.born := by rw [List.getElem?_map, hz]; rfl
        have g2 : (es.toList.map (·.born))[i]? = some y.born := by rw [List.getElem?_map, hi]; rfl
        rw [e2] at g1
        exact e ((idxOf_get H.born g1).symm.trans (idxOf_get H.born g2))
    · rcases hal with rfl | rfl <;> exact ⟨rfl, rfl, rfl, by simp [setBlock], fun i _ hi => hset.2 i (fun e1 => hi (by rw [e1]))⟩
    · rcases hal with rfl | rfl <;> simp [setBlock]
theorem wpList_range_k (w : World) {ops : Array Oper} {rest : List Oper} {o : Oper} {a : Act} {Q : Exit → Act → World → Prop} (hg : o.guard = none) (m : Operand) (t : TypeId) (hop : o.op = Op.range t m) (ht : P.underlying t = some (.map k e))
    (hm : a.eval m = .map (some b)) (h : MapOf enc w b keys)
    (hK : ∀ w', RangeOf enc w' b w.heap.size keys (fun _ => false) keys.length → w.grownBy w' none → w'.heap.size = w.heap.size + 1 → wpList P ops Q rest (a.put o.dst (.pointer (some ⟨w.heap.size, 0, none⟩))) w') : wpList P ops Q (o :: rest) a w := by
  refine wpList_plain hg fun K' hK' => ?_
  obtain ⟨w', hrun, r1, r2, r3⟩ := h.range_ ht
  unfold Oper.wp
  simp [execOp, hop, hm, hrun, Result.andThen]
  exact hK' _ _ (hK w' r1 r2 r3)
theorem wpList_next_k (w : World) {ops : Array Oper} {rest : List Oper} {o : Oper} {a : Act} {Q : Exit → Act → World → Prop} (hg : o.guard = none) (it : Operand) (hop : o.op = Op.next it false)
    (hit : a.eval it = .pointer (some ⟨r, 0, none⟩)) (h : RangeOf enc w b r keys dn cnt)
    (hDone : cnt = 0 → (∀ i < keys.length, dn i = true) → wpList P ops Q rest (a.put o.dst (.tuple #[.bool false])) w)
    (hMore : ∀ (i : Nat) (x : κ) (w' : World) (cnt' : Nat), keys[i]? = some x → dn i = false → RangeOf enc w' b r keys (fun j => dn j || j == i) cnt' → cnt' < cnt → w.grownBy w' (some r) → w'.heap.size = w.heap.size →
      (Instr.entry (.pointer (some ⟨r, 0, none⟩))).run P w' = .ok (.tuple #[enc x, .int .i64 i]) w' → wpList P ops Q rest (a.put o.dst (.tuple #[.bool true, enc x, .int .i64 i])) w') : wpList P ops Q (o :: rest) a w := by
  refine wpList_plain hg fun K' hK' => ?_
  unfold Oper.wp
  rcases h.next_ (P := P) o.type with ⟨h0, hl, hrun⟩ | ⟨i, x, w', cnt', hx, hd, hrun, hrg, hlt, hgr, hsz, hen⟩
  · simp [execOp, hop, hit, hrun, Result.andThen]
    exact hK' _ _ (hDone h0 hl)
  · simp [execOp, hop, hit, hrun, Result.andThen]
    exact hK' _ _ (hMore i x w' cnt' hx hd hrg hlt hgr hsz hen)
end
end Go.Proofs.Ytgbgcaaekpgapac.Plain
/- A struct or an array of one-cell values that lies in a block of its own, told as a list: what it holds, and what stays of it. No conditions beyond those that each fact states. -/
namespace Go.Proofs.Ytgbgcaaekpgapac.Plain
open Go.RowKit
set_option linter.unusedVariables false
/-- Block b holds these cells. -/
structure CellsN (w : World) (b : Nat) (t : TypeId) (l : List Value) : Prop where
  row : w.heap[b]? = some (.cells l.toArray t (0, 0))
section
variable {w w' : World} {b : Nat} {t : TypeId} {l : List Value}
theorem CellsN.at_ (h : CellsN w b t l) {i : Nat} {x : Value} (hi : l[i]? = some x) : w.cell? ⟨b, i, none⟩ = some x := by simp [World.cell?, h.row, hi]
theorem CellsN.f (h : CellsN w b t l) (o : Nat) : w.frozen? ⟨b, o, none⟩ = false := frozen_of_row w b o _ t h.row
theorem CellsN.lt (h : CellsN w b t l) : b < w.heap.size := by
  have h1 := h.row
  rw [Array.getElem?_eq_some_iff] at h1
  exact h1.1
theorem CellsN.new (w : World) (t : TypeId) (l : List Value) : CellsN (w.alloc (.cells l.toArray t)) w.heap.size t l := ⟨heap_alloc_new w _⟩
theorem CellsN.below (h : CellsN w b t l) (hb : Below w.heap.size w w') : CellsN w' b t l := ⟨(hb.block b h.lt).trans h.row⟩
theorem CellsN.of_below {B : Nat} (h : CellsN w b t l) (hb : Below B w w') (hB : b < B) : CellsN w' b t l := ⟨(hb.block b hB).trans h.row⟩
theorem CellsN.alloc (h : CellsN w b t l) (o : Obj) : CellsN (w.alloc o) b t l := h.below ((Below.refl _ _).alloc (Nat.le_refl _) _)
theorem CellsN.drew (h : CellsN w b t l) : CellsN w.drew b t l := ⟨h.row⟩
theorem CellsN.set (h : CellsN w b t l) (i : Nat) (v : Value) : CellsN (w.setCell ⟨b, i, none⟩ v) b t (l.set i v) := by
  have hlt := h.lt
  have h' : w.heap[b] = .cells l.toArray t (0, 0) := by simpa [Array.getElem?_eq_getElem hlt] using h.row
  refine ⟨?_⟩
  show (w.heap.modify b _)[b]? = _
  rw [Array.getElem?_eq_getElem (by simpa using hlt), Array.getElem_modify_self, h']
  simp
theorem CellsN.other (h : CellsN w b t l) {a : Addr} (ha : a.block ≠ b) (v : Value) : CellsN (w.setCell a v) b t l := by
  refine ⟨?_⟩
  rw [← h.row]
  simp [World.setCell, Array.getElem?_modify, ha]
theorem CellsN.grown {row : Option Nat} (h : CellsN w b t l) (hg : w.grownBy w' row) (hn : row ≠ some b) : CellsN w' b t l := ⟨(hg.block b h.lt (Ne.symm hn)).trans h.row⟩
end
end Go.Proofs.Ytgbgcaaekpgapac.Plain
/- The keys of the program's classes: a term and the classes of the next states, as a struct and as a list; that they can be keys of a map; the contract of the function that makes one. No conditions beyond those that each states. -/
namespace Go.Proofs.Ytgbgcaaekpgapac
open Go.ChangeShapes Go.WideShapes Go.ChangeAt Go.RowKit
open Go.PlainAid Plain
set_option linter.unusedVariables false
namespace Mins
open Seqs
def encK (k : List Int) : Value := .agg #[.int .i64 (k.getD 0 0), .int .i64 (k.getD 1 0), .int .i64 (k.getD 2 0), .int .i64 (k.getD 3 0), .int .i64 (k.getD 4 0)]
def OkK (n : Nat) (k : List Int) : Prop := k.length = n ∧ ∀ x ∈ k, 0 ≤ x ∧ x ≤ 1000
theorem keyLaid : laidOutB Try.prog = true := by kernel_rfl
theorem keyRow : (64 : TypeId) < Try.prog.types.size := of_decide_eq_true (by kernel_rfl)
theorem keyWide : (match Try.prog.underlying 64 with | some (.array _ _) | some (.struct _) => true | _ => false) = true := by kernel_rfl
set_option maxRecDepth 100000 in
theorem keyLaw : Maps.Keyed Try.prog 64 := Maps.Keyed.of_law (deep_law_laid keyLaid (m := 3) (by omega) keyRow (by kernel_rfl) keyWide)
theorem keyCells : Try.prog.cellsOf 64 = 5 := by kernel_rfl
theorem arrCells : Try.prog.cellsOf 62 = 4 := by kernel_rfl
theorem intCells : Try.prog.cellsOf 3 = 1 := by kernel_rfl
theorem keyType : Try.prog.keyType 64 = true := by kernel_rfl
theorem keyReads (a b c d e : Int) (h : ∀ x ∈ [a, b, c, d, e], 0 ≤ x ∧ x ≤ 1000) : ∃ l, Go.keyOf Try.prog 64 (.agg #[.int .i64 a, .int .i64 b, .int .i64 c, .int .i64 d, .int .i64 e]) = some l := by
  have hw : ∀ x ∈ [a, b, c, d, e], (Lit.int .i64 x).wf = true := fun x hx => by
    have := h x hx
    exact WalkArith.wf_i64 (by omega)
  have wa := hw a (by simp)
  have wb := hw b (by simp)
  have wc := hw c (by simp)
  have wd := hw d (by simp)
  have we := hw e (by simp)
  have lk : ∀ n : Nat, Try.prog.keyLits (n + 3) 64 [.int .i64 a, .int .i64 b, .int .i64 c, .int .i64 d, .int .i64 e] = some [.int .i64 a, .int .i64 b, .int .i64 c, .int .i64 d, .int .i64 e] := fun n => by
    have hr : List.range 4 = [0, 1, 2, 3] := rfl
    simp [Program.keyLits, Try.underlying64, Try.underlying62, Try.underlying3, keyCells, arrCells, intCells, wa, wb, wc, wd, we, hr]
  have h3 : 3 ≤ Try.prog.types.size := of_decide_eq_true (by kernel_rfl)
  obtain ⟨n, hn⟩ : ∃ n, Try.prog.types.size + 1 = n + 3 := ⟨Try.prog.types.size - 2, by omega⟩
  have hf : (Value.agg #[.int .i64 a, .int .i64 b, .int .i64 c, .int .i64 d, .int .i64 e]).formed Try.prog 64 = true := by
    simp [Value.formed, Try.underlying64, keyCells]
  refine ⟨.string (keyBytes [.int .i64 a, .int .i64 b, .int .i64 c, .int .i64 d, .int .i64 e]), ?_⟩
  unfold Go.keyOf
  rw [Try.underlying64]
  simp only [keyType, hf, Bool.and_self, if_true, hn]
  have hc : (Value.agg #[.int .i64 a, .int .i64 b, .int .i64 c, .int .i64 d, .int .i64 e]).cells.toList = [.int .i64 a, .int .i64 b, .int .i64 c, .int .i64 d, .int .i64 e] := rfl
  rw [hc, lk n]
  rfl
theorem getD_bd {k : List Int} (h : ∀ x ∈ k, 0 ≤ x ∧ x ≤ 1000) (i : Nat) : 0 ≤ k.getD i 0 ∧ k.getD i 0 ≤ 1000 := by
  rw [List.getD_eq_getElem?_getD]
  cases hk : k[i]? with
  | none => exact ⟨Int.le_refl _, by decide⟩
  | some x => exact h x (List.mem_of_getElem? hk)
theorem goodK (n : Nat) (hn : n ≤ 5) : GoodKeys Try.prog 64 encK (OkK n) := by
  refine ⟨keyLaw, fun k hk => keyReads _ _ _ _ _ fun x hx => ?_, fun k k' hk hk' he => ?_⟩
  · simp only [List.mem_cons, List.not_mem_nil, or_false] at hx
    rcases hx with rfl | rfl | rfl | rfl | rfl <;> exact getD_bd hk.2 _
  · unfold encK at he
    injection he with he
    simp only [Array.mk.injEq, List.cons.injEq, Value.int.injEq, and_true, true_and] at he
    obtain ⟨h0, h1, h2, h3, h4⟩ := he
    have g : ∀ i < 5, k.getD i 0 = k'.getD i 0 := fun i hi => by
      have : i = 0 ∨ i = 1 ∨ i = 2 ∨ i = 3 ∨ i = 4 := by omega
      rcases this with rfl | rfl | rfl | rfl | rfl <;> assumption
    refine List.ext_getElem (hk.1.trans hk'.1.symm) fun i h1 h2 => ?_
    have h3 := g i (by have := hk.1; omega)
    rw [List.getD_eq_getElem?_getD, List.getD_eq_getElem?_getD, List.getElem?_eq_getElem h1, List.getElem?_eq_getElem h2] at h3
    exact h3
/-- A key in the making: the term, k classes, noughts. -/
def partK (o : Int) (r cls : List Int) (k : Nat) : List Int := (o :: (r.take k).map fun x => cls.getD x.toNat 0) ++ List.replicate (4 - k) 0
theorem partK_len {o : Int} {r cls : List Int} {k : Nat} (h : k ≤ r.length) (h4 : r.length ≤ 4) : (partK o r cls k).length = 5 := by simp [partK]; omega
theorem partK_set {o : Int} {r cls : List Int} {k : Nat} {x : Int} (h : r[k]? = some x) (h4 : r.length ≤ 4) : ((partK o r cls k).map (Value.int .i64)).set (1 + k) (.int .i64 (cls.getD x.toNat 0)) = (partK o r cls (k + 1)).map (Value.int .i64) := by
  have hk := (List.getElem?_eq_some_iff.1 h).1
  have e1 : partK o r cls k = (o :: (r.take k).map fun x => cls.getD x.toNat 0) ++ 0 :: List.replicate (4 - (k + 1)) 0 := by
    rw [partK, show 4 - k = (4 - (k + 1)) + 1 from by omega, List.replicate_succ]
  have e2 : partK o r cls (k + 1) = (o :: (r.take k).map fun x => cls.getD x.toNat 0) ++ cls.getD x.toNat 0 :: List.replicate (4 - (k + 1)) 0 := by
    rw [partK, take_snoc' h]
    simp
  have hl : (o :: (r.take k).map fun x => cls.getD x.toNat 0).length = 1 + k := by simp; omega
  rw [e1, e2]
  generalize (o :: (r.take k).map fun x => cls.getD x.toNat 0) = A at hl
  rw [List.map_append, List.map_cons, set_mid _ _ _ _ (1 + k) (by rw [List.length_map]; exact hl), List.map_append, List.map_cons]
theorem partK_end {o : Int} {r cls : List Int} (i : Nat) : (partK o r cls r.length).getD i 0 = (o :: r.map fun x => cls.getD x.toNat 0).getD i 0 := by
  rw [partK, List.take_length, List.getD_eq_getElem?_getD, List.getD_eq_getElem?_getD]
  by_cases hi : i < (o :: r.map fun x => cls.getD x.toNat 0).length
  · rw [List.getElem?_append_left hi]
  · rw [List.getElem?_append_right (by omega), List.getElem?_replicate, List.getElem?_eq_none (l := o :: r.map fun x => cls.getD x.toNat 0) (by omega)]
    split <;> rfl
theorem five {l : List Int} (h : l.length = 5) : l.map (Value.int .i64) = [.int .i64 (l.getD 0 0), .int .i64 (l.getD 1 0), .int .i64 (l.getD 2 0), .int .i64 (l.getD 3 0), .int .i64 (l.getD 4 0)] := by
  match l, h with
  | [a, b, c, d, e], _ => rfl
set_option maxHeartbeats 1000000 in
theorem key_of (v : Value) (b : Int) (rows : List (List Int)) (out : List Int) (w : World) (h : LiesS w v b rows out) (hv : IsSeq b rows out) (u : Value) (cls : List Int) (hu : Lies (Value.int .i64) w u cls) (hl : cls.length = rows.length) (s : Nat) (hs : s < rows.length) :
    Calls Try.prog 63 #[v, .int .i64 s, u] w fun e w' => e = .returned (encK (keyC rows out cls s)) ∧ Below w.heap.size w w' := by
  have HCLS := Lib.hid hu
  have HS := Lib.hid h
  obtain ⟨an, cn, ao, co, rfl⟩ := h.form
  clear h
  have HB : Hid (Below w.heap.size w (w.alloc (Obj.cells #[Value.int .i64 b, Value.slice an rows.length cn, Value.slice ao out.length co] 30))) := (Below.refl _ _).alloc (Nat.le_refl _) _
  have HC := Lib.hid (Cells3.new w 30 (.int .i64 b) (.slice an rows.length cn) (.slice ao out.length co))
  have HV := Lib.hid hv
  have HL := Lib.hid hl
  have hs1 : (s : Int) < (rows.length : Int) := by omega
  have hs2 : (s : Int) < (out.length : Int) := by have := hv.2.2.2.2.1; omega
  have hs3 : s < out.length := by omega
  obtain ⟨r, hr⟩ : ∃ r, rows[s]? = some r := ⟨_, List.getElem?_eq_getElem hs⟩
  obtain ⟨o, ho⟩ : ∃ o, out[s]? = some o := ⟨_, List.getElem?_eq_getElem hs3⟩
  have hrl : (r.length : Int) = b := (hv.2.2.2.2.2.1 r (List.mem_of_getElem? hr)).1
  have hb2 : 2 ≤ b := hv.1
  have hb4 : b ≤ 4 := hv.2.1
  have hr0 : 0 < r.length := by omega
  have hr4 : r.length ≤ 4 := by omega
  obtain ⟨pa, off, hpa, q, t, c, o2, hcl⟩ := seq_row HS.out hr hr0
  have HR := Lib.hid hr
  have HO := Lib.hid ho
  have HRL := Lib.hid hrl
  obtain ⟨po, oo, hpo, ho1⟩ : ∃ po oo, ao = some ⟨po, oo, none⟩ ∧ w.cell? ⟨po, oo + s, none⟩ = some (.int .i64 o) := by
    obtain ⟨q', s', h1, h2⟩ := HS.out.cells.2 s o ho
    exact ⟨q', s', h1, h2⟩
  subst hpa; subst hpo
  have HB1 := Lib.hid (HB.out.alloc (by simp) (Obj.cells #[Value.int .i64 0, Value.int .i64 0, Value.int .i64 0, Value.int .i64 0, Value.int .i64 0] 64))
  have HC1 := Lib.hid (HC.out.alloc (Obj.cells #[Value.int .i64 0, Value.int .i64 0, Value.int .i64 0, Value.int .i64 0, Value.int .i64 0] 64))
  have HB2 := Lib.hid (HB1.out.alloc (by simp <;> omega) (Obj.cells #[Value.int .i64 o, Value.int .i64 0, Value.int .i64 0, Value.int .i64 0, Value.int .i64 0] 64))
  have HC2 := Lib.hid (HC1.out.alloc (Obj.cells #[Value.int .i64 o, Value.int .i64 0, Value.int .i64 0, Value.int .i64 0, Value.int .i64 0] 64))
  have o2' := old_cell HB1.out o2
  have ho1' := old_cell HB1.out ho1
  have o2'' := old_cell HB2.out o2
  have HRB := Lib.hid (hv.2.2.2.2.2.1 r (List.mem_of_getElem? hr)).2
  have hK : CellsN (((w.alloc (Obj.cells #[Value.int .i64 b, Value.slice (some ⟨pa, off, none⟩) rows.length cn, Value.slice (some ⟨po, oo, none⟩) out.length co] 30)).alloc (Obj.cells #[Value.int .i64 0, Value.int .i64 0, Value.int .i64 0, Value.int .i64 0, Value.int .i64 0] 64)).alloc (Obj.cells #[Value.int .i64 o, Value.int .i64 0, Value.int .i64 0, Value.int .i64 0, Value.int .i64 0] 64)) (w.heap.size + 1 + 1) 64 ((partK o r cls 0).map (Value.int .i64)) := by
    have h1 := CellsN.new ((w.alloc (Obj.cells #[Value.int .i64 b, Value.slice (some ⟨pa, off, none⟩) rows.length cn, Value.slice (some ⟨po, oo, none⟩) out.length co] 30)).alloc (Obj.cells #[Value.int .i64 0, Value.int .i64 0, Value.int .i64 0, Value.int .i64 0, Value.int .i64 0] 64)) 64 [Value.int .i64 o, Value.int .i64 0, Value.int .i64 0, Value.int .i64 0, Value.int .i64 0]
    rw [size_alloc', size_alloc'] at h1
    exact h1
  have hZ : CellsN (((w.alloc (Obj.cells #[Value.int .i64 b, Value.slice (some ⟨pa, off, none⟩) rows.length cn, Value.slice (some ⟨po, oo, none⟩) out.length co] 30)).alloc (Obj.cells #[Value.int .i64 0, Value.int .i64 0, Value.int .i64 0, Value.int .i64 0, Value.int .i64 0] 64)).alloc (Obj.cells #[Value.int .i64 o, Value.int .i64 0, Value.int .i64 0, Value.int .i64 0, Value.int .i64 0] 64)) (w.heap.size + 1) 64 [Value.int .i64 0, Value.int .i64 0, Value.int .i64 0, Value.int .i64 0, Value.int .i64 0] := by
    have h1 := (CellsN.new (w.alloc (Obj.cells #[Value.int .i64 b, Value.slice (some ⟨pa, off, none⟩) rows.length cn, Value.slice (some ⟨po, oo, none⟩) out.length co] 30)) 64 [Value.int .i64 0, Value.int .i64 0, Value.int .i64 0, Value.int .i64 0, Value.int .i64 0]).alloc (Obj.cells #[Value.int .i64 o, Value.int .i64 0, Value.int .i64 0, Value.int .i64 0, Value.int .i64 0] 64)
    rw [size_alloc'] at h1
    exact h1
  have HK := Lib.hid hK
  have HZ := Lib.hid hZ
  clear hu hv hl hr ho hrl HB HC hK hZ
  have k0 := HC1.out.c0
  have k1 := HC1.out.c1
  have k2 := HC1.out.c2
  have l0 := HC2.out.c0
  have l1 := HC2.out.c1
  have l2 := HC2.out.c2
  go_enter Try.func63, Try.ntmps63
  go_wp2_with fail
  have HCL := Lib.hid hcl
  clear hcl
  obtain ⟨W0, hW0⟩ : ∃ W, W = ((w.alloc (Obj.cells #[Value.int .i64 b, Value.slice (some ⟨pa, off, none⟩) rows.length cn, Value.slice (some ⟨po, oo, none⟩) out.length co] 30)).alloc (Obj.cells #[Value.int .i64 0, Value.int .i64 0, Value.int .i64 0, Value.int .i64 0, Value.int .i64 0] 64)).alloc (Obj.cells #[Value.int .i64 o, Value.int .i64 0, Value.int .i64 0, Value.int .i64 0, Value.int .i64 0] 64) := ⟨_, rfl⟩
  rw [← hW0] at HB2 HK HZ ⊢
  clear hW0 HB1 HC1 HC2 k0 k1 k2 l0 l1 l2 o2 o2' o2'' ho1 ho1'
  go_loopw [22] (fun i' wr => ∃ k : Nat, k ≤ r.length ∧ i' = .int .i64 k ∧ Hid (CellsN wr (w.heap.size + 1 + 1) 64 ((partK o r cls k).map (Value.int .i64))) ∧ Hid (CellsN wr (w.heap.size + 1) 64 [Value.int .i64 0, Value.int .i64 0, Value.int .i64 0, Value.int .i64 0, Value.int .i64 0]) ∧ Hid (Below w.heap.size w wr)) (fun i' _ => r.length - (intOf i').toNat)
  case atStart => exact ⟨0, Nat.zero_le _, rfl, HK, HZ, HB2⟩
  case round =>
    clear HK HZ HB2
    obtain ⟨k, hk, rfl, hK, hZ, hB⟩ := hrel
    by_cases hlt : k < r.length
    case pos =>
      obtain ⟨x, hx⟩ : ∃ x, r[k]? = some x := ⟨_, List.getElem?_eq_getElem hlt⟩
      have hxb := HRB.out x (List.mem_of_getElem? hx)
      obtain ⟨xn, rfl⟩ : ∃ xn : Nat, x = (xn : Int) := ⟨x.toNat, by omega⟩
      have hxn : xn < cls.length := by have := HL.out; omega
      have hxn2 : (xn : Int) < (cls.length : Int) := by omega
      have hx0 : (0 : Int) ≤ (xn : Int) := Int.natCast_nonneg _
      obtain ⟨cq, cs, cc, rfl, hcc⟩ := ints_at HCLS.out (by omega)
      obtain ⟨y, hy⟩ : ∃ y, cls[xn]? = some y := ⟨_, List.getElem?_eq_getElem hxn⟩
      have o3 := old_cell hB.out (HCL.out k _ hx)
      have o4 := old_cell hB.out (hcc xn y hy)
      have HY : Hid (cls.getD ((xn : Int)).toNat 0 = y) := by show _ = _; rw [List.getD_eq_getElem?_getD, Int.toNat_natCast, hy]; rfl
      have hPS := partK_set (o := o) (cls := cls) hx hr4
      rw [HY.out] at hPS
      have hKS : CellsN (wr.setCell ⟨w.heap.size + 1 + 1, 1 + k, none⟩ (.int .i64 y)) (w.heap.size + 1 + 1) 64 ((partK o r cls (k + 1)).map (Value.int .i64)) := by
        rw [← hPS]
        exact hK.out.set (1 + k) _
      have HKS := Lib.hid hKS
      obtain ⟨z, hz⟩ : ∃ z, ((partK o r cls k).map (Value.int .i64))[1 + k]? = some z := ⟨_, List.getElem?_eq_getElem (by rw [List.length_map, partK_len (by omega) hr4]; omega)⟩
      have o5 := hK.out.at_ hz
      have o6 := hK.out.f (1 + k)
      have hk4 : (k : Int) < 4 := by omega
      have hk0 : (0 : Int) ≤ (k : Int) := Int.natCast_nonneg _
      have hk4' : k < 4 := by omega
      clear hx hxb hcc hy hPS hKS hz
      go_wp2
      go_roundw
      case rel => exact ⟨k + 1, by omega, by go_num, HKS, hZ.out.other (by simp) _, hB.out.setCell (by show _ ≤ _ + 1 + 1; omega) _⟩
      case measure => simp [intOf]; omega
    case neg =>
      obtain rfl : k = r.length := by omega
      have HF : Hid (encK (keyC rows out cls s) = .agg #[.int .i64 ((partK o r cls r.length).getD 0 0), .int .i64 ((partK o r cls r.length).getD 1 0), .int .i64 ((partK o r cls r.length).getD 2 0), .int .i64 ((partK o r cls r.length).getD 3 0), .int .i64 ((partK o r cls r.length).getD 4 0)]) := by
        show _ = _
        have e1 : keyC rows out cls s = o :: r.map fun x => cls.getD x.toNat 0 := by
          rw [keyC, List.getD_eq_getElem?_getD, List.getD_eq_getElem?_getD, HO.out, HR.out]
          rfl
        simp only [partK_end, e1, encK]
      have hKF := hK.out
      rw [five (partK_len (Nat.le_refl _) hr4)] at hKF
      obtain ⟨v0, hv0⟩ : ∃ x, x = (partK o r cls r.length).getD 0 0 := ⟨_, rfl⟩
      obtain ⟨v1, hv1⟩ : ∃ x, x = (partK o r cls r.length).getD 1 0 := ⟨_, rfl⟩
      obtain ⟨v2, hv2⟩ : ∃ x, x = (partK o r cls r.length).getD 2 0 := ⟨_, rfl⟩
      obtain ⟨v3, hv3⟩ : ∃ x, x = (partK o r cls r.length).getD 3 0 := ⟨_, rfl⟩
      obtain ⟨v4, hv4⟩ : ∃ x, x = (partK o r cls r.length).getD 4 0 := ⟨_, rfl⟩
      rw [← hv0, ← hv1, ← hv2, ← hv3, ← hv4] at hKF HF
      clear hv0 hv1 hv2 hv3 hv4 hK
      have m0 := hKF.at_ (i := 0) rfl
      have m1 := hKF.at_ (i := 1) rfl
      have m2 := hKF.at_ (i := 2) rfl
      have m3 := hKF.at_ (i := 3) rfl
      have m4 := hKF.at_ (i := 4) rfl
      have z0 := hZ.out.at_ (i := 0) rfl
      have z1 := hZ.out.at_ (i := 1) rfl
      have z2 := hZ.out.at_ (i := 2) rfl
      have z3 := hZ.out.at_ (i := 3) rfl
      have z4 := hZ.out.at_ (i := 4) rfl
      have zf := hZ.out.f
      have HKF := Lib.hid hKF
      clear hKF
      go_wp2
      have hZ5 := ((((hZ.out.set 0 (.int .i64 v0)).set 1 (.int .i64 v1)).set 2 (.int .i64 v2)).set 3 (.int .i64 v3)).set 4 (.int .i64 v4)
      have n0 := hZ5.at_ (i := 0) rfl
      have n1 := hZ5.at_ (i := 1) rfl
      have n2 := hZ5.at_ (i := 2) rfl
      have n3 := hZ5.at_ (i := 3) rfl
      have n4 := hZ5.at_ (i := 4) rfl
      refine bodyPost_ret (v := .agg #[.int .i64 v0, .int .i64 v1, .int .i64 v2, .int .i64 v3, .int .i64 v4]) (by simp [results, Try.results63, go_sem, n0, n1, n2, n3, n4]) rfl ⟨by rw [HF.out], ?_⟩
      exact ((((hB.out.setCell (by show _ ≤ _ + 1; omega) _).setCell (by show _ ≤ _ + 1; omega) _).setCell (by show _ ≤ _ + 1; omega) _).setCell (by show _ ≤ _ + 1; omega) _).setCell (by show _ ≤ _ + 1; omega) _
end Mins
end Go.Proofs.Ytgbgcaaekpgapac
