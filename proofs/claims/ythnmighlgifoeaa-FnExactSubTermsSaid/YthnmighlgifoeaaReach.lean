/- Contracts of ReachedStates, of the program and of the model. No conditions beyond those that each states. -/
import Derived.Test.YthnmighlgifoeaaMinVal
import Derived.Test.YthnmighlgifoeaaSeqIs
import Derived.Test.YthnmighlgifoeaaSeqIsI
import Derived.Test.YthnmighlgifoeaaSeqs3
import Derived.Test.YthnmighlgifoeaaShelf
import Derived.Deep.RegionHeld3
import Derived.Deep.DeepCutAuto
namespace Go.Proofs.Ythnmighlgifoeaa
open Go.ChangeShapes Go.WideShapes Go.ChangeAt Go.RowKit
open Go.PlainAid Plain
set_option linter.unusedVariables false
namespace Mins
open Seqs
/-- Does the list hold the number? -/
def inB (x : Int) (xs : List Int) : Bool := decide (x ∈ xs)
theorem inB_yes {x : Int} {xs : List Int} (h : x ∈ xs) : inB x xs = true := decide_eq_true h
theorem inB_no {x : Int} {xs : List Int} (h : x ∉ xs) : inB x xs = false := decide_eq_false h
theorem inB_at {x y : Int} {xs : List Int} {k : Nat} (h : xs[k]? = some y) (e : y = x) : inB x xs = true := inB_yes (e ▸ List.mem_of_getElem? h)
theorem inB_none {x : Int} {xs : List Int} (h : ∀ (j : Nat) (y : Int), xs[j]? = some y → ¬ y = x) : inB x xs = false := inB_no fun hm => by
  obtain ⟨j, hj⟩ := List.getElem?_of_mem hm
  exact h j x hj rfl
/-- A slice of ints that is not empty: its cells. -/
theorem ints_at {w : World} {v : Value} {xs : List Int} (h : Lies (Value.int .i64) w v xs) (hp : 0 < xs.length) : ∃ q s c, v = .slice (some ⟨q, s, none⟩) xs.length c ∧ ∀ (k : Nat) (x : Int), xs[k]? = some x → w.cell? ⟨q, s + k, none⟩ = some (.int .i64 x) := by
  obtain ⟨_, a, c, rfl, _, hc⟩ := h
  obtain ⟨q, s, rfl, _⟩ := hc 0 _ (List.getElem?_eq_getElem hp)
  refine ⟨q, s, c, rfl, fun k x hx => ?_⟩
  obtain ⟨q', s', h1, h2⟩ := hc k x hx
  injection h1 with h1
  injection h1 with h1 h3
  subst h1; subst h3
  exact h2
theorem impl_has (v : Value) (xs : List Int) (x : Int) (w : World) (h : Lies (Value.int .i64) w v xs) (c : Bool) (hc : inB x xs = c) :
    Calls Try.prog 100 #[v, .int .i64 x] w fun e w' => e = .returned (.bool c) ∧ w = w' := by
  have hin : xs.contains x = c := by rw [← hc, inB, List.contains_eq_mem]
  rcases Nat.eq_zero_or_pos xs.length with h0 | h0
  · have hx : xs = [] := List.eq_nil_of_length_eq_zero h0
    subst hx
    obtain ⟨_, a, ca, rfl, _, _⟩ := h
    exact (Try.slices_Contains_int_empty a ca x w).mono fun _ _ ⟨he, hw⟩ => ⟨by rw [he, ← hin]; rfl, hw.symm⟩
  · obtain ⟨q, s, c', rfl, hcl⟩ := ints_at h h0
    refine (Try.slices_Contains_int q s xs.length c' xs x w (Nat.le_refl _) h.1 (fun j hj => ?_)).mono fun _ _ ⟨he, hw⟩ => ⟨?_, hw.symm⟩
    · rw [hcl j _ (List.getElem?_eq_getElem hj), List.getD_eq_getElem?_getD, List.getElem?_eq_getElem hj]
      rfl
    · rw [he, List.take_length, hin]
theorem old_cell {w w' : World} {p o : Nat} {u : Value} (hb : Below w.heap.size w w') (h : w.cell? ⟨p, o, none⟩ = some u) : w'.cell? ⟨p, o, none⟩ = some u := (hb.cell (p := ⟨p, o, none⟩) (World.block_lt_of_cell? w _ h)).trans h
/-- A row of a sequence that is not empty: its slice's cell and its own cells. -/
theorem seq_row {w : World} {b : Int} {rows : List (List Int)} {out : List Int} {an ao : Option Addr} {cn co : Nat} (h : LiesS w (.agg #[.int .i64 b, .slice an rows.length cn, .slice ao out.length co]) b rows out) {i : Nat} {r : List Int} (hr : rows[i]? = some r) (hp : 0 < r.length) :
    ∃ pa off, an = some ⟨pa, off, none⟩ ∧ ∃ q s c, w.cell? ⟨pa, off + i, none⟩ = some (.slice (some ⟨q, s, none⟩) r.length c) ∧ ∀ (k : Nat) (x : Int), r[k]? = some x → w.cell? ⟨q, s + k, none⟩ = some (.int .i64 x) := by
  obtain ⟨p, o, a', c', h1, h2, h3⟩ := h.cells.1 i r hr
  obtain ⟨q, s, rfl, _⟩ := h3 0 _ (List.getElem?_eq_getElem hp)
  refine ⟨p, o, h1, q, s, c', h2, fun k x hx => ?_⟩
  obtain ⟨q', s', h4, h5⟩ := h3 k x hx
  injection h4 with h4
  injection h4 with h4 h6
  subst h4; subst h6
  exact h5
theorem four_cells {w w' : World} {a0 b0 a1 b1 a2 b2 a3 b3 : Nat} {u0 u1 u2 u3 : Value} (hb : Below w.heap.size w w') (h0 : w.cell? ⟨a0, b0, none⟩ = some u0) (h1 : w.cell? ⟨a1, b1, none⟩ = some u1) (h2 : w.cell? ⟨a2, b2, none⟩ = some u2) (h3 : w.cell? ⟨a3, b3, none⟩ = some u3) :
    w'.cell? ⟨a0, b0, none⟩ = some u0 ∧ w'.cell? ⟨a1, b1, none⟩ = some u1 ∧ w'.cell? ⟨a2, b2, none⟩ = some u2 ∧ w'.cell? ⟨a3, b3, none⟩ = some u3 := ⟨old_cell hb h0, old_cell hb h1, old_cell hb h2, old_cell hb h3⟩
theorem take_snoc' {xs : List Int} {k : Nat} {x : Int} (h : xs[k]? = some x) : xs.take (k + 1) = xs.take k ++ [x] := by
  obtain ⟨hk, rfl⟩ := List.getElem?_eq_some_iff.1 h
  exact List.take_succ_eq_append_getElem hk
theorem addAll_old {l xs : List Int} {k : Nat} {x : Int} (h : xs[k]? = some x) (hm : x ∈ addAll l (xs.take k)) : addAll l (xs.take (k + 1)) = addAll l (xs.take k) := by
  rw [take_snoc' h, addAll_snoc, addTo_in hm]
theorem addAll_new {l xs : List Int} {k : Nat} {x : Int} (h : xs[k]? = some x) (hm : x ∉ addAll l (xs.take k)) : addAll l (xs.take (k + 1)) = addAll l (xs.take k) ++ [x] := by
  rw [take_snoc' h, addAll_snoc, addTo_new hm]
/-- What a round of the search starts from. -/
theorem round_facts {b : Int} {rows : List (List Int)} {out : List Int} (hv : IsSeq b rows out) {i : Nat} (hi : i < (reachI rows i).length) :
    ∃ (sn : Nat) (r : List Int), (reachI rows i)[i]? = some (sn : Int) ∧ sn < rows.length ∧ rows[sn]? = some r ∧ (r.length : Int) = b ∧ 0 < r.length ∧ r.length ≤ 4 ∧ (∀ x ∈ r, 0 ≤ x ∧ x < (rows.length : Int)) ∧ reachI rows (i + 1) = addAll (reachI rows i) r ∧ i < rows.length ∧ rows.length ≤ 16 := by
  have hc := hv.closed
  have h1 : (reachI rows i)[i]? = some (reachI rows i)[i] := List.getElem?_eq_getElem hi
  have h2 := (reachI_ok hc i).2 _ (List.getElem_mem hi)
  have h3 := rowOf_get h2.1 h2.2
  have h4 := hv.2.2.2.2.2.1 _ (rowOf_mem h2.1 h2.2)
  have h5 := hv.1
  have h6 := hv.2.1
  have h7 := reachI_len hc i
  refine ⟨(reachI rows i)[i].toNat, rowOf rows (reachI rows i)[i], by rw [h1]; congr 1; omega, by omega, h3, h4.1, by omega, by omega, h4.2, reachI_step h1, by omega, hv.2.2.2.1⟩
/-- What stands in the middle of a round. -/
theorem mid_facts {rows : List (List Int)} (hc : Closed rows) {i k : Nat} {r : List Int} (hr : ∀ x ∈ r, 0 ≤ x ∧ x < (rows.length : Int)) (hi : i < (reachI rows i).length) :
    (addAll (reachI rows i) (r.take k)).length ≤ rows.length ∧ i < (addAll (reachI rows i) (r.take k)).length := by
  refine ⟨nodup_bounded _ _ (addAll_nodup _ _ (reachI_ok hc i).1) fun x hx => ?_, ?_⟩
  · rcases (mem_addAll _ _ _).1 hx with h | h
    · exact (reachI_ok hc i).2 x h
    · exact hr x (List.mem_of_mem_take h)
  · exact Nat.lt_of_lt_of_le hi (addAll_prefix _ _).length_le

theorem impl_reach_no (v : Value) (b : Int) (rows : List (List Int)) (out : List Int) (w : World) (h : LiesS w v b rows out) (hq : seqB b rows out = false) :
    Calls Try.prog 95 #[v] w (Gives (Value.int .i64) 3 [] w) := by
  have HS := Lib.hid h
  obtain ⟨an, cn, ao, co, rfl⟩ := h.form
  clear h
  have HB : Hid (Below w.heap.size w (w.alloc (Obj.cells #[Value.int .i64 b, Value.slice an rows.length cn, Value.slice ao out.length co] 27))) := (Below.refl _ _).alloc (Nat.le_refl _) _
  have HC := Lib.hid (Cells3.new w 27 (.int .i64 b) (.slice an rows.length cn) (.slice ao out.length co))
  have HQ := Lib.hid hq
  have k0 := HC.out.c0
  have k1 := HC.out.c1
  have k2 := HC.out.c2
  clear hq HC
  go_enter Try.func95, Try.ntmps95
  go_wp2_with fail
  refine (impl_is _ b rows out _ (HS.out.below HB.out)).mono ?_
  rintro e W1 ⟨rfl, b1⟩
  rw [HQ.out]
  have HB3 := Lib.hid (HB.out.trans (b1.mono HB.out.size))
  clear b1
  go_wp2
  go_ret
  exact ⟨_, rfl, World.ownsRow_nil _ _ _ _, HB3.out⟩
set_option maxHeartbeats 1000000 in
theorem impl_reach_yes (v : Value) (b : Int) (rows : List (List Int)) (out : List Int) (w : World) (h : LiesS w v b rows out) (hq : seqB b rows out = true) :
    Calls Try.prog 95 #[v] w (Gives (Value.int .i64) 3 (reached rows) w) := by
  obtain ⟨i0, hi, hz0, hz1, hz2⟩ := info_parts Ints.infoI
  have HS := Lib.hid h
  obtain ⟨an, cn, ao, co, rfl⟩ := h.form
  clear h
  have HB : Hid (Below w.heap.size w (w.alloc (Obj.cells #[Value.int .i64 b, Value.slice an rows.length cn, Value.slice ao out.length co] 27))) := (Below.refl _ _).alloc (Nat.le_refl _) _
  have HC := Lib.hid (Cells3.new w 27 (.int .i64 b) (.slice an rows.length cn) (.slice ao out.length co))
  have HQ := Lib.hid hq
  have HV := Lib.hid (seqB_out hq)
  clear hq
  have hN : rows.length ≤ 16 := HV.out.2.2.2.1
  have k0 := HC.out.c0
  have k1 := HC.out.c1
  have k2 := HC.out.c2
  go_enter Try.func95, Try.ntmps95
  go_wp2_with fail
  refine (impl_is _ b rows out _ (HS.out.below HB.out)).mono ?_
  rintro e W1 ⟨rfl, b1⟩
  rw [HQ.out]
  have HB3 := Lib.hid (HB.out.trans (b1.mono HB.out.size))
  have HC3 := Lib.hid (HC.out.below b1)
  have HZ3 : Hid (w.heap.size + 1 ≤ W1.heap.size) := by
    have := b1.size
    rw [size_alloc'] at this
    exact this
  have hO4 : Hid (Has (Value.int .i64) 3 (W1.alloc (.cells #[.int .i64 0] 3)) (w.heap.size + 1) (.slice (some ⟨W1.heap.size, 0, none⟩) 1 1) (reachI rows 0)) := has_lit1 (enc := Value.int .i64) 0 rfl HZ3.out
  have hB4 : Hid (Below w.heap.size w (W1.alloc (.cells #[.int .i64 0] 3))) := HB3.out.alloc HB3.out.size _
  have hC4 := Lib.hid (HC3.out.alloc (.cells #[.int .i64 0] 3))
  have hZ4 : Hid (w.heap.size + 1 ≤ (W1.alloc (.cells #[.int .i64 0] 3)).heap.size) := by have := HZ3.out; show _ ≤ _; simp; omega
  clear b1 HB HC k0 k1 k2 HB3 HC3 HZ3
  go_wp2_with fail
  go_loopw [3, 4] (fun o' i' wr => ∃ i : Nat, i ≤ (reachI rows i).length ∧ i' = .int .i64 i ∧ Hid (Has (Value.int .i64) 3 wr (w.heap.size + 1) o' (reachI rows i)) ∧ Hid (Cells3 wr w.heap.size 27 (.int .i64 b) (.slice an rows.length cn) (.slice ao out.length co)) ∧ Hid (Below w.heap.size w wr) ∧ Hid (w.heap.size + 1 ≤ wr.heap.size)) (fun _ i' _ => rows.length - (intOf i').toNat)
  case atStart => exact ⟨0, Nat.zero_le _, rfl, hO4, hC4, hB4, hZ4⟩
  case round =>
    obtain ⟨i, hil, rfl, hown, hC, hB, hZ⟩ := hrel
    by_cases hlt : i < (reachI rows i).length
    case neg =>
      have HE := Lib.hid (reachI_end HV.out.closed (i := i) (by omega))
      have hd : decide ((i : Int) < ((reachI rows i).length : Int)) = false := decide_eq_false (by omega)
      have HX : Hid (Has (Value.int .i64) 3 wr w.heap.size u3 (reached rows)) := by rw [← HE.out]; exact hown.out.mono (Nat.le_succ _)
      obtain ⟨oa, oc, rfl, _⟩ := hown.out.form
      go_wp2
      go_ret
      exact ⟨_, rfl, HX.out, hB.out⟩
    case pos =>
      obtain ⟨sn, r, hs, hsn, hr, hrb, hr0, hr4, hrB, hst, hi1, _⟩ := round_facts HV.out hlt
      have HS1 := Lib.hid hs
      have HR := Lib.hid hr
      have HRB := Lib.hid hrB
      have HST := Lib.hid hst
      have HRBL := Lib.hid hrb
      clear hs hr hrB hst hrb
      obtain ⟨q0, s0, c0, rfl, hoc⟩ := ints_at hown.out.lies (by omega)
      have o1 := hoc i _ HS1.out
      obtain ⟨pa, off, hpa, q, s, c, o2', hcl⟩ := seq_row HS.out HR.out hr0
      have o2 := old_cell hB.out o2'
      have HCL := Lib.hid hcl
      clear hoc hcl o2'
      have hd0 : decide ((i : Int) < ((reachI rows i).length : Int)) = true := decide_eq_true (by omega)
      have k0 := hC.out.c0
      have k1 := hC.out.c1
      have k2 := hC.out.c2
      rw [hpa] at k1
      clear hpa
      go_wp2
      go_quiet (fail)
      have HBD := Lib.hid (below_drewN (Below.refl wr.heap.size wr) nq)
      have hC2 := Lib.hid (hC.out.below HBD.out)
      have hB2 := Lib.hid (hB.out.trans (HBD.out.mono hB.out.size))
      have hO2 := Lib.hid (hown.out.below HBD.out)
      have hZ2 := Lib.hid (Nat.le_trans hZ.out HBD.out.size)
      go_wp2_with fail
      obtain ⟨W2, hW2⟩ : ∃ W, W = wr.drewN nq := ⟨_, rfl⟩
      rw [← hW2] at hO2 hC2 hB2 hZ2 ⊢
      clear hW2 HBD k0 k1 k2 o1 o2 hown hC hB hZ
      go_loopw [3, 26] (fun o' k' wr => ∃ k : Nat, k ≤ r.length ∧ k' = .int .i64 k ∧ Hid (Has (Value.int .i64) 3 wr (w.heap.size + 1) o' (addAll (reachI rows i) (r.take k))) ∧ Hid (Cells3 wr w.heap.size 27 (.int .i64 b) (.slice an rows.length cn) (.slice ao out.length co)) ∧ Hid (Below w.heap.size w wr) ∧ Hid (w.heap.size + 1 ≤ wr.heap.size)) (fun _ k' _ => r.length - (intOf k').toNat)
      case atStart => exact ⟨0, Nat.zero_le _, rfl, hO2, hC2, hB2, hZ2⟩
      case round =>
        clear hO2 hC2 hB2 hZ2
        obtain ⟨k, hk, rfl, hown, hC, hB, hZ⟩ := hrel
        by_cases hlk : k < r.length
        case neg =>
          have HT : Hid (reachI rows (i + 1) = addAll (reachI rows i) (r.take k)) := by show _ = _; rw [HST.out, List.take_of_length_le (by omega)]
          have hm := mid_facts HV.out.closed (i := i) (k := k) HRB.out hlt
          have hH : Has (Value.int .i64) 3 wr (w.heap.size + 1) u3 (reachI rows (i + 1)) := by rw [HT.out]; exact hown.out
          have HH := Lib.hid hH
          have hle : i + 1 ≤ (reachI rows (i + 1)).length := by rw [HT.out]; exact hm.2
          clear hm hH
          go_wp2
          go_roundw
          case rel => exact ⟨i + 1, hle, by go_num, HH, hC, hB, hZ⟩
          case measure => simp [intOf]; omega
        case pos =>
          obtain ⟨x, hx⟩ : ∃ x, r[k]? = some x := ⟨_, List.getElem?_eq_getElem hlk⟩
          have HX := Lib.hid hx
          clear hx
          have hm := mid_facts HV.out.closed (i := i) (k := k) HRB.out hlt
          have hml : (addAll (reachI rows i) (r.take k)).length ≤ 16 := by have := hm.1; omega
          clear hm
          have o3 := old_cell hB.out (HCL.out k x HX.out)
          by_cases hin : x ∈ addAll (reachI rows i) (r.take k)
          · have HE := Lib.hid (addAll_old HX.out hin)
            have HI := Lib.hid (inB_yes hin)
            clear hin
            obtain ⟨oa, oc, rfl, _⟩ := hown.out.form
            go_wp2_with (go_at_call 100; refine (impl_has _ _ _ _ hown.out.lies _ HI.out).mono ?_; rintro e w' ⟨rfl, rfl⟩)
            have hO2 : Hid (Has (Value.int .i64) 3 wr (w.heap.size + 1) (.slice oa (addAll (reachI rows i) (r.take k)).length oc) (addAll (reachI rows i) (r.take (k + 1)))) := by
              show Has _ _ _ _ _ _
              rw [HE.out]
              exact hown.out
            go_roundw
            case rel => exact ⟨k + 1, by omega, by go_num, hO2, hC, hB, hZ⟩
            case measure => simp [intOf]; omega
          · have HE := Lib.hid (addAll_new HX.out hin)
            have HI := Lib.hid (inB_no hin)
            clear hin
            go_wp2_with (first | (go_at_call 100; refine (impl_has _ _ _ _ hown.out.lies _ HI.out).mono ?_; rintro e w' ⟨rfl, rfl⟩) | (at_builtin; refine append_one (enc := Value.int .i64) (e := 3) wr rfl _ _ 23 rfl (w.heap.size + 1) i0 (.int .i64 0) 8 Try.underlying23 hi hz0 hz1 hz2 rfl u3 (addAll (reachI rows i) (r.take k)) rfl hown.out x rfl (fun _ => rfl) (by omega) (by omega) hZ.out ?_; intro v' w' hown' hgrow'))
            have hB4 : Hid (Below w.heap.size w w') := hown.out.frame hB.out (Nat.le_succ _) hgrow'
            have hC4 := Lib.hid (hC.out.grown hgrow' (fun e => by have := (hown.out.lt _ e).1; omega))
            have hO4 : Hid (Has (Value.int .i64) 3 w' (w.heap.size + 1) v' (addAll (reachI rows i) (r.take (k + 1)))) := by show Has _ _ _ _ _ _; rw [HE.out]; exact hown'
            have hZ4 := Lib.hid (Nat.le_trans hZ.out hgrow'.size)
            clear hown' hgrow' hown hC hB hZ o3
            go_wp2
            go_roundw
            case rel => exact ⟨k + 1, by omega, by go_num, hO4, hC4, hB4, hZ4⟩
            case measure => simp [intOf]; omega
theorem reach_ends {b : Int} {rows : List (List Int)} {out : List Int} : (reachV b rows out).length ≤ 16 := by
  unfold reachV
  split
  · rename_i h
    have hv := seqB_out h
    have := reached_len hv.closed
    have := hv.2.2.2.1
    omega
  · simp
theorem impl_reach (v : Value) (b : Int) (rows : List (List Int)) (out : List Int) (w : World) (h : LiesS w v b rows out) : Calls Try.prog 95 #[v] w (Gives (Value.int .i64) 3 (reachV b rows out) w) := by
  cases hq : seqB b rows out with
  | false => rw [reachV, if_neg (by simp [hq])]; exact impl_reach_no v b rows out w h hq
  | true => rw [reachV, if_pos hq]; exact impl_reach_yes v b rows out w h hq
end Mins
end Go.Proofs.Ythnmighlgifoeaa
