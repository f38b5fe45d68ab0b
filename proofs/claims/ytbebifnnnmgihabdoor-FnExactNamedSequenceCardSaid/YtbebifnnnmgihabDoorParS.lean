/- Contract of ParseSequence of the model. No conditions beyond those that it states. -/
import Derived.Test.YtbebifnnnmgihabDoorCutS
import Derived.Test.YtbebifnnnmgihabDoorLetI
import Derived.Test.YtbebifnnnmgihabDoorFmtS
import Derived.Test.YtbebifnnnmgihabDoorSeqBuild
import Derived.Test.YtbebifnnnmgihabDoorSeqForm
import Derived.Test.YtbebifnnnmgihabDoorSeqs3
import Derived.Test.YtbebifnnnmgihabDoorParse
namespace Go.Proofs.YtbebifnnnmgihabDoor
open Go.ChangeShapes Go.WideShapes Go.ChangeAt Go.RowKit
open Go.PlainAid Plain
set_option linter.unusedVariables false
namespace Par
open Seqs
theorem two_of {α : Type} {l : List α} (h : l.length = 2) : ∃ a b, l = [a, b] := by
  match l, h with
  | [a, b], _ => exact ⟨a, b, rfl⟩
theorem mk_size (l : List UInt8) : (⟨l.toArray⟩ : ByteArray).size = l.length := by show l.toArray.size = _; rw [List.size_toArray]
theorem mk_bt (l : List UInt8) (i : Nat) (x : UInt8) (h : l[i]? = some x) : bt ⟨l.toArray⟩ i = (x.toNat : Int) := bt_data _ i x (by simpa using h)
theorem take_map_snoc {α β : Type} {l : List α} {i : Nat} {x : α} (f : α → β) (h : l[i]? = some x) : (l.take (i + 1)).map f = (l.take i).map f ++ [f x] := by
  obtain ⟨hk, rfl⟩ := List.getElem?_eq_some_iff.1 h
  rw [List.take_succ_eq_append_getElem hk, List.map_append]
  rfl
theorem old_cellP {w w' : World} {p o : Nat} {u : Value} (hb : Below w.heap.size w w') (h : w.cell? ⟨p, o, none⟩ = some u) : w'.cell? ⟨p, o, none⟩ = some u := (hb.cell (p := ⟨p, o, none⟩) (World.block_lt_of_cell? w _ h)).trans h
/-- A cell of an own slice of texts. -/
theorem str_at {w : World} {base : Nat} {v : Value} {xs : List (List UInt8)} (h : Has encS 9 w base v xs) (h0 : 0 < xs.length) : ∃ q c, v = .slice (some ⟨q, 0, none⟩) xs.length c ∧ ∀ i x, xs[i]? = some x → w.cell? ⟨q, i, none⟩ = some (.string ⟨x.toArray⟩) := by
  obtain ⟨a, c, rfl, hq⟩ := h.form
  obtain ⟨q, rfl⟩ := hq h0
  refine ⟨q, c, rfl, fun i x hx => ?_⟩
  obtain ⟨_, a', c', hv, _, hc⟩ := h.lies
  obtain ⟨b, off, ha, hcell⟩ := hc i x hx
  injection hv with e1 e2 e3
  rw [← e1] at ha
  injection ha with ha
  injection ha with ha hb
  subst ha; subst hb
  rw [Nat.zero_add] at hcell
  exact hcell
set_option maxRecDepth 100000 in
set_option maxHeartbeats 4000000 in
theorem spec_par (s : ByteArray) (w : World) (hs : s.size ≤ 1048576) :
    Calls Tryd.prog 11 #[.string s] w (GivesK (parVB s.data.toList) (parVR s.data.toList) (parVO s.data.toList) (parK s.data.toList) w) := by
  obtain ⟨i0, hi0, hz0, hz1, hz2⟩ := info_parts Ints.infoI
  obtain ⟨i2, hi2, hz20, hz21, hz22⟩ := info_parts infoR
  have HLS : Hid (s.data.toList.length = s.size) := Array.length_toList
  obtain ⟨w0, tl, hPC⟩ : ∃ w0 tl, cutP 32 s.data.toList = w0 :: tl := by
    have h1 := cutP_ne 32 s.data.toList
    cases h : cutP 32 s.data.toList with
    | nil => rw [h] at h1; simp at h1
    | cons a b => exact ⟨a, b, rfl⟩
  have HPC := Lib.hid hPC
  have HOK : Hid (okL s.data.toList ↔ w0.length = 2 ∧ ∀ p ∈ tl, okP p) := by
    show _ ↔ _
    unfold okL
    rw [HPC.out]
    rfl
  have HVB : Hid (parB s.data.toList = hexv ((w0.getD 0 0).toNat : Int)) := by
    show _ = _
    unfold parB
    rw [HPC.out]
    rfl
  have HVR : Hid (parR s.data.toList = tl.map rowP) := by
    show _ = _
    unfold parR
    rw [HPC.out]
    rfl
  have HVO : Hid (parO s.data.toList = tl.map outP) := by
    show _ = _
    unfold parO
    rw [HPC.out]
    rfl
  have htl : tl.length ≤ 1048576 := by
    have h1 := (cutF_size 32 s.data.toList).1
    have h2 := congrArg List.length hPC
    rw [cutP, List.length_append, List.length_singleton, List.length_cons] at h2
    have := HLS.out
    omega
  have HPI : Hid (∀ q ∈ tl, q.length ≤ 1048576) := by
    intro q hq
    have h1 := cutP_piece 32 s.data.toList q (by rw [HPC.out]; exact List.mem_cons_of_mem _ hq)
    have := HLS.out
    omega
  have HCUT := fun W => spec_cut s 32 W hs
  have hZ0 := Cells3.new w 28 (.int .i64 0) (.slice none 0 0) (.slice none 0 0)
  have hB0 : Below w.heap.size w (w.alloc (Obj.cells #[Value.int .i64 0, Value.slice none 0 0, Value.slice none 0 0] 28)) := (Below.refl _ _).alloc (Nat.le_refl _) _
  have HZ0 := Lib.hid hZ0
  have HB0 := Lib.hid hB0
  clear hZ0 hB0 hPC
  go_enter Tryd.func11, Tryd.ntmps11
  go_wp2_with fail
  refine (HCUT _).mono ?_
  rintro e W1 ⟨v1, rfl, hv1, hb1⟩
  rw [HPC.out] at hv1
  obtain ⟨q, c, rfl, hcl⟩ := str_at hv1 (by simp)
  have hc0 := hcl 0 w0 rfl
  have HCL := Lib.hid hcl
  have HWS := Lib.hid (hv1.mono HB0.out.size)
  have HZ1 := Lib.hid (HZ0.out.below hb1)
  have HB1 := Lib.hid (HB0.out.trans (hb1.mono HB0.out.size))
  obtain ⟨tm, htm⟩ : ∃ n, n = (w0 :: tl).length := ⟨_, rfl⟩
  rw [← htm]
  rw [List.length_cons] at htm
  have HTM := Lib.hid htm
  clear hcl hv1 hb1 HZ0 HB0
  obtain ⟨S, hS⟩ : ∃ S : ByteArray, S = ⟨w0.toArray⟩ := ⟨_, rfl⟩
  have HS0 := Lib.hid hS
  have HSS : Hid (S.size = w0.length) := by rw [hS]; exact mk_size w0
  rw [← hS] at hc0
  have hc0' := old_cellP (((Below.refl W1.heap.size W1).alloc (Nat.le_refl _) (Obj.cells #[Value.int .i64 0, Value.slice none 0 0, Value.slice none 0 0] 28))) hc0
  have hn1 : (0 : Int) < (tm : Int) := by omega
  have hn2 : 0 < tm := by omega
  clear hS htm
  by_cases hw2 : w0.length = 2
  case neg =>
    have HK := Lib.hid (parK_no fun ho => hw2 (HOK.out.1 ho).1)
    have HVN := Lib.hid (par_no HK.out)
    have hq : ¬ (S.size : Int) = 2 := by have := HSS.out; omega
    have hP1 := Cells3.new W1 28 (.int .i64 0) (.slice none 0 0) (.slice none 0 0)
    have p0 := hP1.c0
    have p1 := hP1.c1
    have p2 := hP1.c2
    have hZ2 := HZ1.out.alloc (Obj.cells #[Value.int .i64 0, Value.slice none 0 0, Value.slice none 0 0] 28)
    have z0 := hZ2.c0
    have z1 := hZ2.c1
    have z2 := hZ2.c2
    have z3 := hZ2.f
    clear hw2
    go_wp2
    have hB2 := HB1.out.alloc HB1.out.size (Obj.cells #[Value.int .i64 0, Value.slice none 0 0, Value.slice none 0 0] 28)
    have hZ3 := (((hZ2.set0 (.int .i64 0)).set1 (.slice none 0 0)).set2 (.slice none 0 0))
    have n0 := hZ3.c0
    have n1 := hZ3.c1
    have n2 := hZ3.c2
    refine bodyPost_ret (v := .tuple #[.agg #[.int .i64 0, .slice none 0 0, .slice none 0 0], .bool false]) (by simp [results, Tryd.results11, go_sem, n0, n1, n2]) rfl ?_
    rw [HVN.out.1, HVN.out.2.1, HVN.out.2.2, HK.out]
    exact ⟨_, rfl, OwnS.zero _, (((hB2.setCell (Nat.le_refl _) _).setCell (Nat.le_refl _) _).setCell (Nat.le_refl _) _)⟩
  case pos =>
    have hq : (S.size : Int) = 2 := by have := HSS.out; omega
    have hbt := get_bt S
    have hq2 : 0 < S.size := by omega
    have HBS : Hid (bt S 0 = ((w0.getD 0 0).toNat : Int)) := by
      show _ = _
      rw [HS0.out]
      refine mk_bt w0 0 _ ?_
      match w0, hw2 with
      | [a, b], _ => rfl
    have hP1 := Cells3.new W1 28 (.int .i64 0) (.slice none 0 0) (.slice none 0 0)
    have p0 := hP1.c0
    have p1 := hP1.c1
    have p2 := hP1.c2
    have pf := hP1.f
    go_wp2_with fail
    refine (Mor.letter _ _ (bt_nonneg _ _) (bt_le _ _)).mono ?_
    rintro e w' ⟨rfl, rfl⟩
    go_wp2
    have hP2 := Cells3.new W1 28 (.int .i64 (hexv (bt S 0))) (.slice none 0 0) (.slice none 0 0)
    have hB2 : Below W1.heap.size W1 (W1.alloc (Obj.cells #[.int .i64 (hexv (bt S 0)), .slice none 0 0, .slice none 0 0] 28)) := (Below.refl _ _).alloc (Nat.le_refl _) _
    have hz2 : (W1.alloc (Obj.cells #[.int .i64 (hexv (bt S 0)), .slice none 0 0, .slice none 0 0] 28)).heap.size = W1.heap.size + 1 := size_alloc' _ _
    have HBE : Hid (hexv (bt S 0) = parB s.data.toList) := by
      show _ = _
      rw [HVB.out, HBS.out]
    obtain ⟨W2, hW2⟩ : ∃ W, W = W1.alloc (Obj.cells #[.int .i64 (hexv (bt S 0)), .slice none 0 0, .slice none 0 0] 28) := ⟨_, rfl⟩
    rw [← hW2] at hP2 hB2 hz2 ⊢
    obtain ⟨b, hb⟩ : ∃ b, b = hexv (bt S 0) := ⟨_, rfl⟩
    rw [← hb] at hP2 HBE ⊢
    obtain ⟨p, hp⟩ : ∃ p, p = W1.heap.size := ⟨_, rfl⟩
    have HPW := Lib.hid hp
    rw [← hp] at hP2 hB2 hz2 p0 p1 p2 pf ⊢
    obtain ⟨BB, hBB⟩ : ∃ B, B = W2.heap.size := ⟨_, rfl⟩
    have hZp := HZ1.out.lt
    have HBB : Hid (w.heap.size < p ∧ p < BB) := by
      show _ ∧ _
      omega
    have hBL : Hid (Building W2 BB BB p b (.slice none 0 0) (.slice none 0 0) [] ((tl.take 0).map rowP) ((tl.take 0).map outP)) := Building.start hP2 (by rw [hBB]; exact Nat.le_refl _)
    have hBp : Hid (Below p W1 W2) := hB2
    clear hW2 hb hp hBB hP2 hB2 hz2 p0 p1 p2 pf hZp hc0 hc0' hbt hq hq2 hw2
    go_loopw [6] (fun i' wr => ∃ (i j : Nat) (vn vo : Value) (us : List Value) (hi : Nat), i ≤ tl.length ∧ Hid (j = i + 1) ∧ i' = .int .i64 j ∧ Hid (Building wr BB hi p b vn vo us ((tl.take i).map rowP) ((tl.take i).map outP)) ∧ Hid (Below p W1 wr)) (fun i' _ => tm - (intOf i').toNat)
    case atStart => exact ⟨0, 1, _, _, [], BB, Nat.zero_le _, rfl, rfl, hBL, hBp⟩
    case round =>
      clear hBL hBp
      obtain ⟨i, j, vn, vo, us, hi, hil, HJ, rfl, hBL, hBp⟩ := hrel
      have hj : j = i + 1 := HJ.out
      have htm : tm = tl.length + 1 := HTM.out
      obtain ⟨na, nc, oa, oc, hvn, hvo⟩ := hBL.out.form
      rw [List.length_map, List.length_take, Nat.min_eq_left hil] at hvn hvo
      subst hvn; subst hvo
      have HUSL : Hid (us.length = i) := by show _ = _; rw [hBL.out.len, List.length_map, List.length_take, Nat.min_eq_left hil]
      obtain ⟨W3, rfl⟩ : ∃ W : World, W = wr := ⟨_, rfl⟩
      by_cases hlt : i < tl.length
      case neg =>
        have hje : ¬ (j : Int) < (tm : Int) := by omega
        have hie : i = tl.length := by omega
        have HBE2 : Hid (Building W3 BB hi p (parB s.data.toList) (.slice na i nc) (.slice oa i oc) us (parR s.data.toList) (parO s.data.toList)) := by
          have h1 := hBL.out
          rw [hie, List.take_length, ← HVR.out, ← HVO.out, HBE.out] at h1
          rw [hie]
          exact h1
        have HB3 := Lib.hid (HB1.out.trans (hBp.out.mono (by have := HBB.out; have := HB1.out.size; omega)))
        have hZ3 := HZ1.out.below (by have := hBp.out; rwa [HPW.out] at this)
        have HZ3 := Lib.hid hZ3
        rw [HBE.out]
        have HOS : Hid (OwnS W3 BB W3.heap.size (.agg #[.int .i64 (parB s.data.toList), .slice na i nc, .slice oa i oc]) (parB s.data.toList) (parR s.data.toList) (parO s.data.toList)) := HBE2.out.seq
        have HC3 := Lib.hid HBE2.out.cells
        have HFM := Lib.hid (Fmt.spec_fmt _ _ _ _ _ HOS.out.lies)
        obtain ⟨T, hT⟩ : ∃ T, T = fmtV (parB s.data.toList) (parR s.data.toList) (parO s.data.toList) := ⟨_, rfl⟩
        rw [← hT] at HFM
        have HKD : Hid (parK s.data.toList = decide (s.size ≠ 0 ∧ T = s)) := by
          show _ = _
          unfold parK
          rw [← hT]
          have h1 : (⟨s.data.toList.toArray⟩ : ByteArray) = s := by simp
          rw [h1]
          refine decide_eq_decide.2 (and_congr_left fun _ => not_congr ⟨fun h => ?_, fun h => ?_⟩)
          · have := HLS.out; rw [h] at this; exact this.symm
          · exact List.eq_nil_of_length_eq_zero (by rw [HLS.out]; exact h)
        obtain ⟨bb, hbb⟩ : ∃ x, x = parB s.data.toList := ⟨_, rfl⟩
        have HBBE := Lib.hid hbb
        rw [← hbb] at HOS HC3 HFM HBE2 ⊢
        have k0 := HC3.out.c0
        have k1 := HC3.out.c1
        have k2 := HC3.out.c2
        clear hj htm hie hT hbb hZ3 hBL hBp HBE hil
        by_cases hTs : T = s
        · have hb1 := Parse.beq_str hTs
          by_cases h0 : s.size = 0
          · have HK : Hid (parK s.data.toList = false) := by show _ = _; rw [HKD.out]; exact decide_eq_false (fun h => h.1 h0)
            have HVN := Lib.hid (par_no HK.out)
            have hN := Mor.eq_none s
            rw [decide_eq_true h0] at hN
            have hN2 := Mor.eq_none' h0
            have hN3 : T.toList = [] := by rw [hTs]; exact hN2
            clear h0 hTs hb1
            go_wp2_with fail
            refine HFM.out.mono ?_
            rintro e W4 ⟨rfl, bx⟩
            have hB4 := HB3.out.trans (bx.mono HB3.out.size)
            have hZ2 := HZ3.out.below bx
            have z0 := hZ2.c0
            have z1 := hZ2.c1
            have z2 := hZ2.c2
            have z3 := hZ2.f
            clear bx k0 k1 k2
            go_wp2
            have hZ3 := (((hZ2.set0 (.int .i64 0)).set1 (.slice none 0 0)).set2 (.slice none 0 0))
            have n0 := hZ3.c0
            have n1 := hZ3.c1
            have n2 := hZ3.c2
            refine bodyPost_ret (v := .tuple #[.agg #[.int .i64 0, .slice none 0 0, .slice none 0 0], .bool false]) (by simp [results, Tryd.results11, go_sem, n0, n1, n2]) rfl ?_
            rw [HVN.out.1, HVN.out.2.1, HVN.out.2.2, HK.out]
            exact ⟨_, rfl, OwnS.zero _, (((hB4.setCell (Nat.le_refl _) _).setCell (Nat.le_refl _) _).setCell (Nat.le_refl _) _)⟩
          · have HK : Hid (parK s.data.toList = true) := by show _ = _; rw [HKD.out]; exact decide_eq_true ⟨h0, hTs⟩
            have HVN := Lib.hid (par_yes HK.out)
            have hN := Mor.eq_none s
            rw [decide_eq_false h0] at hN
            have hN2 := Mor.ne_none h0
            clear h0 hTs
            go_wp2_with fail
            refine HFM.out.mono ?_
            rintro e W4 ⟨rfl, bx⟩
            have hB4 := HB3.out.trans (bx.mono HB3.out.size)
            have hZ2 := HZ3.out.below bx
            have hC4 := HC3.out.below bx
            have HW := Lib.hid (HBE2.out.below bx).seq
            have k0 := hC4.c0
            have k1 := hC4.c1
            have k2 := hC4.c2
            have z0 := hZ2.c0
            have z1 := hZ2.c1
            have z2 := hZ2.c2
            have z3 := hZ2.f
            clear bx hC4
            go_wp2
            have hZ3 := (((hZ2.set0 (.int .i64 bb)).set1 (.slice na i nc)).set2 (.slice oa i oc))
            have n0 := hZ3.c0
            have n1 := hZ3.c1
            have n2 := hZ3.c2
            refine bodyPost_ret (v := .tuple #[.agg #[.int .i64 bb, .slice na i nc, .slice oa i oc], .bool true]) (by simp [results, Tryd.results11, go_sem, n0, n1, n2]) rfl ?_
            rw [HVN.out.1, HVN.out.2.1, HVN.out.2.2, HK.out, ← HBBE.out]
            refine ⟨_, rfl, ?_, ((hB4.setCell (Nat.le_refl _) _).setCell (Nat.le_refl _) _).setCell (Nat.le_refl _) _⟩
            have hT : ∀ (i : Nat) (u : Value) (W : World), Plain.Touch w.heap.size (w.heap.size + 1) W (W.setCell ⟨w.heap.size, i, none⟩ u) := fun i u W => Plain.Touch.of_set (a := ⟨w.heap.size, i, none⟩) u (Nat.le_refl _) (Nat.lt_succ_self _)
            have T0 : Plain.Touch w.heap.size (w.heap.size + 1) W4 (((W4.setCell ⟨w.heap.size, 0, none⟩ (.int .i64 bb)).setCell ⟨w.heap.size, 1, none⟩ (.slice na i nc)).setCell ⟨w.heap.size, 2, none⟩ (.slice oa i oc)) := ((hT 0 _ _).trans (hT 1 _ _)).trans (hT 2 _ _)
            have := (HW.out.touch T0 (.inr (by have := HBB.out; omega))).lower (show w.heap.size ≤ BB by have := HBB.out; omega)
            simpa only [size_setCell'] using this
        · have hb1 := Parse.bne_str hTs
          have HK : Hid (parK s.data.toList = false) := by show _ = _; rw [HKD.out]; exact decide_eq_false (fun h => hTs h.2)
          have HVN := Lib.hid (par_no HK.out)
          clear hTs
          go_wp2_with fail
          refine HFM.out.mono ?_
          rintro e W4 ⟨rfl, bx⟩
          have hB4 := HB3.out.trans (bx.mono HB3.out.size)
          have hZ2 := HZ3.out.below bx
          have z0 := hZ2.c0
          have z1 := hZ2.c1
          have z2 := hZ2.c2
          have z3 := hZ2.f
          clear bx k0 k1 k2
          go_wp2
          have hZ3 := (((hZ2.set0 (.int .i64 0)).set1 (.slice none 0 0)).set2 (.slice none 0 0))
          have n0 := hZ3.c0
          have n1 := hZ3.c1
          have n2 := hZ3.c2
          refine bodyPost_ret (v := .tuple #[.agg #[.int .i64 0, .slice none 0 0, .slice none 0 0], .bool false]) (by simp [results, Tryd.results11, go_sem, n0, n1, n2]) rfl ?_
          rw [HVN.out.1, HVN.out.2.1, HVN.out.2.2, HK.out]
          exact ⟨_, rfl, OwnS.zero _, (((hB4.setCell (Nat.le_refl _) _).setCell (Nat.le_refl _) _).setCell (Nat.le_refl _) _)⟩
      case pos =>
        obtain ⟨qq, hqq⟩ : ∃ x, tl[i]? = some x := ⟨_, List.getElem?_eq_getElem hlt⟩
        have hqm : qq ∈ tl := List.mem_of_getElem? hqq
        have hcj := HCL.out j qq (by rw [hj]; exact hqq)
        have hcq := (hBp.out.cell (p := ⟨q, j, none⟩) (by rw [HPW.out]; exact World.block_lt_of_cell? _ _ hcj)).trans hcj
        clear hcj
        obtain ⟨Q, hQ⟩ : ∃ Q : ByteArray, Q = ⟨qq.toArray⟩ := ⟨_, rfl⟩
        have HQL : Hid (Q.data.toList = qq) := by rw [hQ]; rfl
        have hQs : Q.size ≤ 1048576 := by rw [hQ, mk_size]; exact HPI.out qq hqm
        rw [← hQ] at hcq
        have HCU := Lib.hid (fun W => spec_cut Q 47 W hQs)
        rw [HQL.out] at HCU
        have HQM := Lib.hid hqm
        have HQQ := Lib.hid hqq
        have hjd : (j : Int) < (tm : Int) := by omega
        have hjd2 : j < tm := by omega
        have hj0 : (0 : Int) ≤ (j : Int) := Int.natCast_nonneg _
        have hit : i ≤ 1048576 := by omega
        have HHI := Lib.hid (show p < W3.heap.size from hBL.out.cells.lt)
        have HNA : Hid (∀ k, (Value.slice na i nc).ownBlock = some k → k < W3.heap.size) := fun k hk => (hBL.out.top.lt k hk).2
        clear hj htm hQ hQs hqm hqq hil
        go_wp2_with fail
        refine (HCU.out _).mono ?_
        rintro e W4 ⟨v2, rfl, hv2, hb4⟩
        obtain ⟨z, c2, rfl, hcz⟩ := str_at hv2 (cutP_ne _ _)
        have HBL4 := Lib.hid (hBL.out.below hb4)
        have HBp4 := Lib.hid (hBp.out.trans (hb4.mono (Nat.le_of_lt HHI.out)))
        have HH4 := Lib.hid hb4.size
        have HCZ := Lib.hid hcz
        have HZ3 : Hid (W3.heap.size ≤ z) := (hv2.lt z rfl).1
        clear hcz hv2 hb4 hcq HCU
        by_cases h2 : (cutP 47 qq).length = 2
        case neg =>
          have HK := Lib.hid (parK_no fun ho => h2 ((HOK.out.1 ho).2 qq HQM.out).1)
          have HVN := Lib.hid (par_no HK.out)
          obtain ⟨m2, hm2⟩ : ∃ m, m = (cutP 47 qq).length := ⟨_, rfl⟩
          rw [← hm2] at h2 ⊢
          have hq : ¬ (m2 : Int) = 2 := by omega
          have hB4 := HB1.out.trans (HBp4.out.mono (by have := HBB.out; have := HB1.out.size; omega))
          have hZ2 := HZ1.out.below (by have := HBp4.out; rwa [HPW.out] at this)
          have z0 := hZ2.c0
          have z1 := hZ2.c1
          have z2 := hZ2.c2
          have z3 := hZ2.f
          clear hm2 h2
          go_wp2
          have hZ3 := (((hZ2.set0 (.int .i64 0)).set1 (.slice none 0 0)).set2 (.slice none 0 0))
          have n0 := hZ3.c0
          have n1 := hZ3.c1
          have n2 := hZ3.c2
          refine bodyPost_ret (v := .tuple #[.agg #[.int .i64 0, .slice none 0 0, .slice none 0 0], .bool false]) (by simp [results, Tryd.results11, go_sem, n0, n1, n2]) rfl ?_
          rw [HVN.out.1, HVN.out.2.1, HVN.out.2.2, HK.out]
          exact ⟨_, rfl, OwnS.zero _, (((hB4.setCell (Nat.le_refl _) _).setCell (Nat.le_refl _) _).setCell (Nat.le_refl _) _)⟩
        case pos =>
          obtain ⟨q0, q1, hqe⟩ := two_of h2
          have HQE := Lib.hid hqe
          rw [hqe] at HCZ
          have hz0' := HCZ.out 0 q0 rfl
          have hz1' := HCZ.out 1 q1 rfl
          have HZL : Hid (z < W4.heap.size) := World.block_lt_of_cell? _ _ hz0'
          obtain ⟨T1, hT1⟩ : ∃ S : ByteArray, S = ⟨q1.toArray⟩ := ⟨_, rfl⟩
          obtain ⟨T0, hT0⟩ : ∃ S : ByteArray, S = ⟨q0.toArray⟩ := ⟨_, rfl⟩
          rw [← hT0] at hz0'
          rw [← hT1] at hz1'
          have HT1 : Hid (T1.size = q1.length) := by rw [hT1]; exact mk_size q1
          have HT0 : Hid (T0.size = q0.length) := by rw [hT0]; exact mk_size q0
          have HB0 : Hid (∀ k x, q0[k]? = some x → bt T0 k = (x.toNat : Int)) := fun k x hx => by rw [hT0]; exact mk_bt q0 k x hx
          have HB1' : Hid (∀ k x, q1[k]? = some x → bt T1 k = (x.toNat : Int)) := fun k x hx => by rw [hT1]; exact mk_bt q1 k x hx
          have h2' : ((cutP 47 qq).length : Int) = 2 := by omega
          rw [hqe]
          have hl2 : [q0, q1].length = 2 := rfl
          rw [hl2]
          clear h2' hl2 hT0 hT1 h2 HCZ
          by_cases hq1 : q1.length = 1
          case neg =>
            have HK := Lib.hid (parK_no fun ho => hq1 (by have h1 := ((HOK.out.1 ho).2 qq HQM.out).2; rw [HQE.out] at h1; exact h1))
            have HVN := Lib.hid (par_no HK.out)
            have hq : ¬ (T1.size : Int) = 1 := by have := HT1.out; omega
            have hB4 := HB1.out.trans (HBp4.out.mono (by have := HBB.out; have := HB1.out.size; omega))
            have hZ2 := HZ1.out.below (by have := HBp4.out; rwa [HPW.out] at this)
            have z0 := hZ2.c0
            have z1 := hZ2.c1
            have z2 := hZ2.c2
            have z3 := hZ2.f
            clear hq1 hqe
            go_wp2
            have hZ3 := (((hZ2.set0 (.int .i64 0)).set1 (.slice none 0 0)).set2 (.slice none 0 0))
            have n0 := hZ3.c0
            have n1 := hZ3.c1
            have n2 := hZ3.c2
            refine bodyPost_ret (v := .tuple #[.agg #[.int .i64 0, .slice none 0 0, .slice none 0 0], .bool false]) (by simp [results, Tryd.results11, go_sem, n0, n1, n2]) rfl ?_
            rw [HVN.out.1, HVN.out.2.1, HVN.out.2.2, HK.out]
            exact ⟨_, rfl, OwnS.zero _, (((hB4.setCell (Nat.le_refl _) _).setCell (Nat.le_refl _) _).setCell (Nat.le_refl _) _)⟩
          case pos =>
            have HOP : Hid (rowP qq = lettersL q0 ∧ outP qq = hexv ((q1.getD 0 0).toNat : Int)) := by
              show _ ∧ _
              unfold rowP outP
              rw [HQE.out]
              exact ⟨rfl, rfl⟩
            have hq0l : q0.length ≤ 1048576 := by
              have h1 := cutP_piece 47 qq q0 (by rw [HQE.out]; exact List.mem_cons_self ..)
              have := HPI.out qq HQM.out
              omega
            have hq : (T1.size : Int) = 1 := by have := HT1.out; omega
            have HBT1 : Hid (bt T1 0 = ((q1.getD 0 0).toNat : Int)) := by
              show _ = _
              refine HB1'.out 0 _ ?_
              match q1, hq1 with
              | [a], _ => rfl
            have hr3 : Has (Value.int .i64) 3 (W4.alloc (.cells #[] 3)) W4.heap.size (.slice (some ⟨W4.heap.size, 0, none⟩) 0 0) [] := has_lit0 (enc := Value.int .i64) rfl (Nat.le_refl _)
            have hb3 : Below W4.heap.size W4 (W4.alloc (.cells #[] 3)) := (Below.refl _ _).alloc (Nat.le_refl _) _
            have y0 := old_cellP hb3 hz0'
            clear hq1 hqe
            go_wp2
            have hR : Hid (Has (Value.int .i64) 3 (W4.alloc (.cells #[] 3)) W4.heap.size (.slice (some ⟨W4.heap.size, 0, none⟩) 0 0) (lettersL (q0.take 0))) := hr3
            have hBW := Lib.hid hb3
            have HZ0' := Lib.hid hz0'
            have HZ1' := Lib.hid hz1'
            have HTS : Hid (T1.size = 1) := by show _ = _; omega
            clear hb3 hr3 y0 hz0' hz1' hq
            go_loopw [8, 9] (fun r' k' wr => ∃ k : Nat, k ≤ q0.length ∧ k' = .int .i64 k ∧ Hid (Has (Value.int .i64) 3 wr W4.heap.size r' (lettersL (q0.take k))) ∧ Hid (Below W4.heap.size W4 wr)) (fun _ k' _ => q0.length - (intOf k').toNat)
            case atStart => exact ⟨0, Nat.zero_le _, rfl, hR, hBW⟩
            case round =>
              clear hR hBW
              obtain ⟨k, hkl, rfl, hR, hBW⟩ := hrel
              have y0 := old_cellP hBW.out HZ0'.out
              have htl0 : T0.size = q0.length := HT0.out
              by_cases hlk : k < q0.length
              case pos =>
                obtain ⟨x, hx⟩ : ∃ x, q0[k]? = some x := ⟨_, List.getElem?_eq_getElem hlk⟩
                have hbx := HB0.out k x hx
                have HXL : Hid (lettersL (q0.take (k + 1)) = lettersL (q0.take k) ++ [hexv (bt T0 k)]) := by
                  show _ = _
                  rw [hbx]
                  exact take_map_snoc _ hx
                have HLL : Hid ((lettersL (q0.take k)).length = k) := by
                  show _ = _
                  rw [lettersL, List.length_map, List.length_take, Nat.min_eq_left hkl]
                have hbt := get_bt T0
                have hkb : (k : Int) < (T0.size : Int) := by omega
                have hkb2 : k < T0.size := by omega
                have hk0 : (0 : Int) ≤ (k : Int) := Int.natCast_nonneg _
                have HZW := Lib.hid hBW.out.size
                clear hbx hx
                go_wp2_with (first | (go_at_call 33; refine (Mor.letter _ _ (bt_nonneg _ _) (bt_le _ _)).mono ?_; rintro e w' ⟨rfl, rfl⟩) | (at_builtin; refine append_one (enc := Value.int .i64) (e := 3) wr rfl _ _ 23 rfl W4.heap.size i0 (.int .i64 0) 8 Tryd.underlying23 hi0 hz0 hz1 hz2 rfl u8 (lettersL (q0.take k)) rfl hR.out (hexv (bt T0 k)) rfl (fun _ => rfl) (by rw [HLL.out]; omega) (by rw [HLL.out]; omega) HZW.out ?_; intro v' w' hown' hgrow'))
                have HR2 := Lib.hid hown'
                have HB2 : Hid (Below W4.heap.size W4 w') := hR.out.frame hBW.out (Nat.le_refl _) hgrow'
                rw [← HXL.out] at HR2
                clear hown' hgrow'
                go_wp2
                go_roundw
                case rel => exact ⟨k + 1, by omega, by go_num, HR2, HB2⟩
                case measure => simp [intOf]; omega
              case neg =>
                obtain rfl : k = q0.length := by omega
                have hkb : ¬ (q0.length : Int) < (T0.size : Int) := by omega
                obtain ⟨W5, rfl⟩ : ∃ W : World, W = wr := ⟨_, rfl⟩
                have hR2 : Has (Value.int .i64) 3 W5 W4.heap.size u8 (lettersL q0) := by
                  have h1 := hR.out
                  rwa [List.take_length] at h1
                obtain ⟨ra, rc, hru, _⟩ := hR2.form
                obtain ⟨rl, hrl⟩ : ∃ n, n = (lettersL q0).length := ⟨_, rfl⟩
                rw [← hrl] at hru
                subst hru
                have HU : Hid (Has (Value.int .i64) 3 W5 hi (.slice ra rl rc) (rowP qq)) := by
                  show Has _ _ _ _ _ _
                  rw [HOP.out.1]
                  exact hR2.mono HBL4.out.le
                have HBL5 := Lib.hid (HBL4.out.below hBW.out)
                have HBp5 := Lib.hid (HBp4.out.trans (hBW.out.mono (Nat.le_trans (Nat.le_of_lt HHI.out) HH4.out)))
                have d1 := HBL5.out.cells.c1
                have d2 := (HBL5.out.cells.alloc (.cells #[Value.slice ra rl rc] 23)).c1
                have hpl := HBL5.out.cells.lt
                have HNP := Lib.hid (has_ne_c3 HBL5.out.top HBL5.out.cells (by decide))
                have HLO5 := Lib.hid (show BB ≤ W5.heap.size from Nat.le_trans HBL5.out.lo HBL5.out.le)
                have HZLA := Lib.hid (show z < W5.heap.size from Nat.lt_of_lt_of_le HZL.out hBW.out.size)
                have HY1 := Lib.hid (old_cellP hBW.out HZ1'.out)
                clear hrl hR2 hR hBW HBL4 HBp4 HZL
                go_upto_region 18 with (at_builtin; refine wpList_append_list (enc := id) (e := 23) rfl _ _ 22 rfl BB i2 (.slice none 0 0) 24 Tryd.underlying22 hi2 hz20 hz21 hz22 rfl (.slice na i nc) us rfl (has_alloc HBL5.out.top _) (.slice (some ⟨W5.heap.size, 0, none⟩) 1 1) [.slice ra rl rc] rfl (lies_lit1v _ rfl) (fun y hy => by simp at hy; subst hy; rfl) (by rw [HUSL.out]; simp; omega) (by rw [HUSL.out]; simp; omega) (by have := HLO5.out; simp; omega) ?_; intro v' w2 hv' hg2 _; obtain ⟨a2, c2', hvf, _⟩ := hv'.form; rw [show (us ++ [Value.slice ra rl rc]).length = i + 1 from by rw [List.length_append, HUSL.out]; rfl] at hvf; subst hvf; have hg3 := grown_alloc hg2; have hc2 := HBL5.out.cells.grown hg3 HNP.out; have d3 := hc2.c1; have df := hc2.f)
                have HBL6' := Lib.hid (HBL5.out.row HU.out hv' hg3)
                have HG5 : Hid (BB ≤ w2.heap.size) := Nat.le_trans HLO5.out hg3.size
                have hpP : p ≤ p := Nat.le_refl _
                have HBp6 : Hid (Below p W1 (w2.setCell ⟨p, 1, none⟩ (.slice a2 (i + 1) c2'))) := (HBp5.out.grown hg3 (by have := HBB.out; have := HLO5.out; omega) (fun kk hk => Nat.le_trans (Nat.le_of_lt HBB.out.2) (HBL5.out.top.lt kk hk).1)).setCell hpP _
                have HG6 : Hid (BB ≤ (w2.setCell ⟨p, 1, none⟩ (.slice a2 (i + 1) c2')).heap.size) := by show _ ≤ _; rw [size_setCell']; exact HG5.out
                have hy1 : (w2.setCell ⟨p, 1, none⟩ (.slice a2 (i + 1) c2')).cell? ⟨z, 1, none⟩ = some (.string T1) := by
                  rw [World.cell?_setCell_far _ _ _ _ (by show p ≠ z; have := HHI.out; have := HZ3.out; omega)]
                  exact hg3.cell HY1.out (fun e => by have := HNA.out z e.symm; have := HZ3.out; omega)
                obtain ⟨W6, hW6⟩ : ∃ W, W = w2.setCell ⟨p, 1, none⟩ (.slice a2 (i + 1) c2') := ⟨_, rfl⟩
                rw [← hW6] at HBL6' HBp6 HG6 hy1 ⊢
                have HW6 := Lib.hid (show w2.heap.size = W6.heap.size by rw [hW6, size_setCell'])
                rw [HW6.out] at HBL6'
                have HRS : Hid ((tl.take (i + 1)).map rowP = (tl.take i).map rowP ++ [rowP qq]) := take_map_snoc _ HQQ.out
                have HOS : Hid ((tl.take (i + 1)).map outP = (tl.take i).map outP ++ [outP qq]) := take_map_snoc _ HQQ.out
                have HOL : Hid (((tl.take i).map outP).length = i) := by
                  show _ = _
                  have h1 := (List.getElem?_eq_some_iff.1 HQQ.out).1
                  rw [List.length_map, List.length_take]
                  omega
                have HBL6 : Hid (Building W6 BB W6.heap.size p b (.slice a2 (i + 1) c2') (.slice oa i oc) (us ++ [.slice ra rl rc]) ((tl.take (i + 1)).map rowP) ((tl.take i).map outP)) := by
                  show Building _ _ _ _ _ _ _ _ _ _
                  rw [HRS.out]
                  exact HBL6'.out
                have HTQ : Hid (hexv (bt T1 0) = outP qq) := by
                  show _ = _
                  rw [HOP.out.2, HBT1.out]
                clear hv' hg2 hg3 hc2 d1 d2 d3 df hpl HBL5 HBL6' HBp5 hW6 HNP HLO5 HG5 y0 HU HY1
                have HVO := Lib.hid HBL6.out.terms.has
                have c3 := HBL6.out.cells.c2
                have c4 := (HBL6.out.cells.alloc (.cells #[Value.int .i64 (hexv (bt T1 0))] 3)).c2
                have hpl := HBL6.out.cells.lt
                have HNO := Lib.hid (has_ne_c3 HVO.out HBL6.out.cells (by decide))
                have hbt1 := get_bt T1
                have hq2 : 0 < T1.size := by have := HTS.out; omega
                go_region_law (first
                  | (go_simp; go_at_call 33; refine (Mor.letter _ _ (bt_nonneg _ _) (bt_le _ _)).mono ?_; rintro e wa ⟨rfl, rfl⟩)
                  | (refine step_append_at_list (enc := Value.int .i64) (e := 3) rfl (.tmp 72) (.tmp 78) 23 rfl BB i0 (.int .i64 0) 8 Tryd.underlying23 hi0 hz0 hz1 hz2 rfl (.slice oa i oc) ((tl.take i).map outP) rfl (by repeat (first | with_reducible exact HVO.out | with_reducible apply has_drew | with_reducible apply has_alloc)) (Value.slice (some ⟨_, 0, none⟩) 1 1) [hexv (bt T1 0)] rfl (by repeat (first | with_reducible apply lies_drew | (with_reducible refine lies_lit1 (enc := Value.int .i64) _ rfl) | with_reducible apply lies_alloc)) (fun _ _ => rfl) (by rw [HOL.out]; simp; omega) (by rw [HOL.out]; simp; omega) (by have := HG6.out; simp; omega) ?_; intro vt w6 ho6 hg6 hb6; obtain ⟨a6, c6, hvf, _⟩ := ho6.form; rw [show ((tl.take i).map outP ++ [hexv (bt T1 0)]).length = i + 1 from by rw [List.length_append, HOL.out]; rfl] at hvf; subst hvf; refine with_fact (T := W6.grownBy w6 (Value.slice oa i oc).ownBlock) ?_ ?_; (focus (first | exact grown_alloc hg6 | exact grown_alloc (grown_drew hg6))); intro hg7; have hc7 := HBL6.out.cells.grown hg7 HNO.out; have r1 := hc7.c2; have r3 := hc7.f))
                all_goals
                  have hm7 := HBL6.out.term ho6 hg7 (fun kk hk => (hb6 kk hk).imp id (fun h => by simp at h; omega))
                  rw [HTQ.out, ← HOS.out] at hm7
                  have HM7 := Lib.hid hm7
                  have HB7 : Hid (Below p W1 (w6.setCell ⟨p, 2, none⟩ (.slice a6 (i + 1) c6))) := (HBp6.out.grown hg7 (by have := HBB.out; have := HG6.out; omega) (fun kk hk => Nat.le_trans (Nat.le_of_lt HBB.out.2) (HVO.out.lt kk hk).1)).setCell hpP _
                  have hij : i + 1 ≤ tl.length := hlt
                  have HJ2 : Hid (j + 1 = i + 1 + 1) := by show _ = _; rw [HJ.out]
                  have hj3 : j ≤ 1048577 := by have := HJ.out; omega
                  have hwr : IntKind.i64.wrap ((j : Int) + 1) = (j : Int) + 1 := by rw [IntKind.wrap_i64]; omega
                  clear ho6 hg6 hg7 hb6 hc7 r1 r3 c3 c4 hpl hm7
                  go_wp2
                  go_roundw
                  case rel => exact ⟨i + 1, j + 1, _, _, _, _, hij, HJ2, by go_num, HM7, HB7⟩
                  case measure =>
                    have htm : tm = tl.length + 1 := HTM.out
                    have hj : j = i + 1 := HJ.out
                    simp [intOf]
                    omega
end Par
end Go.Proofs.YtbebifnnnmgihabDoor
