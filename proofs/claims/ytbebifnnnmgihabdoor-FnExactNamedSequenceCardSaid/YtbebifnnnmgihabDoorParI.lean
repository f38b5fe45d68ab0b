/- Contract of ParseSequence of the program. Conditions: the library's table of powers of ten holds its numbers, and internal/bytealg.MaxLen some number. -/
import Derived.Test.YtbebifnnnmgihabDoorCutS
import Derived.Test.YtbebifnnnmgihabDoorParVal2
import Derived.Test.YtbebifnnnmgihabDoorLetI
import Derived.Test.YtbebifnnnmgihabDoorFmtI
import Derived.Test.YtbebifnnnmgihabDoorSeqBuild
import Derived.Test.YtbebifnnnmgihabDoorSeqForm
import Derived.Test.YtbebifnnnmgihabDoorSeqs3
import Derived.Test.YtbebifnnnmgihabDoorParseImpl
import Derived.Test.YtbebifnnnmgihabDoorCellsN
import Derived.Deep.RegionHeld
namespace Go.Proofs.YtbebifnnnmgihabDoor
open Go.ChangeShapes Go.WideShapes Go.ChangeAt Go.RowKit
open Go.PlainAid Plain
set_option linter.unusedVariables false
namespace ParI
open Seqs Par
theorem old_cellP {w w' : World} {p o : Nat} {u : Value} (hb : Below w.heap.size w w') (h : w.cell? ⟨p, o, none⟩ = some u) : w'.cell? ⟨p, o, none⟩ = some u := (hb.cell (p := ⟨p, o, none⟩) (World.block_lt_of_cell? w _ h)).trans h
theorem mk_size (l : List UInt8) : (⟨l.toArray⟩ : ByteArray).size = l.length := by show l.toArray.size = _; rw [List.size_toArray]
theorem take_map_snoc {α β : Type} {l : List α} {i : Nat} {x : α} (f : α → β) (h : l[i]? = some x) : (l.take (i + 1)).map f = (l.take i).map f ++ [f x] := by
  obtain ⟨hk, rfl⟩ := List.getElem?_eq_some_iff.1 h
  rw [List.take_succ_eq_append_getElem hk, List.map_append]
  rfl
theorem take_snoc {α : Type} {l : List α} {i : Nat} {x : α} (h : l[i]? = some x) : l.take (i + 1) = l.take i ++ [x] := by
  obtain ⟨hk, rfl⟩ := List.getElem?_eq_some_iff.1 h
  exact List.take_succ_eq_append_getElem hk
theorem cut_len (l sep : List UInt8) : (Lib.cut l sep).1.length ≤ l.length ∧ (Lib.cut l sep).2.1.length ≤ l.length := by
  unfold Lib.cut
  split
  · simp only [List.length_take, List.length_drop]
    omega
  · simp
theorem lets_all (s : ByteArray) : ∀ k : Nat, k ≤ s.size → lets s k = lettersL (s.data.toList.take k)
  | 0, _ => rfl
  | k + 1, h => by
    obtain ⟨x, hx⟩ : ∃ x, s.data.toList[k]? = some x := ⟨_, List.getElem?_eq_getElem (by rw [Array.length_toList]; exact h)⟩
    rw [lets_succ, lets_all s k (by omega), bt_data s k x hx, take_snoc hx]
    simp [lettersL]
theorem lets_mk (l : List UInt8) : lets ⟨l.toArray⟩ (⟨l.toArray⟩ : ByteArray).size = lettersL l := by
  rw [lets_all _ _ (Nat.le_refl _)]
  show lettersL (l.toArray.toList.take l.toArray.size) = _
  rw [List.toList_toArray, List.size_toArray, List.take_length]
theorem impl_cut (s sep : ByteArray) (m : Int) (w : World) (hs : s.size ≤ 1048576) (hm : w.cell? ⟨0, 0, none⟩ = some (.int .i64 m)) :
    Calls Tryd.prog 34 #[.string s, .string sep] w fun e w' => e = .returned (.tuple #[.string ⟨(Lib.cut s.data.toList sep.data.toList).1.toArray⟩, .string ⟨(Lib.cut s.data.toList sep.data.toList).2.1.toArray⟩, .bool (Lib.cut s.data.toList sep.data.toList).2.2]) ∧ Below w.heap.size w w' :=
  (Tryd.strings_Cut s sep m w (by omega) hm).mono fun e w' ⟨h1, n, h2⟩ => ⟨h1, by rw [h2]; exact below_drewN (Below.refl _ _) _⟩
theorem split_list (R : ByteArray) : (Lib.splitB ⟨#[32]⟩ 0 (Lib.countB R ⟨#[32]⟩) R).map (·.data.toList) = cutP 32 R.data.toList := by
  rw [Lib.splitB_data]
  exact split_cut 32 _ R.data.toList (Nat.le_refl _)
theorem split_vals (R : ByteArray) : (Lib.splitB ⟨#[32]⟩ 0 (Lib.countB R ⟨#[32]⟩) R).map Value.string = (cutP 32 R.data.toList).map encS := by
  rw [← split_list, List.map_map]
  refine List.map_congr_left fun x _ => ?_
  show Value.string x = Value.string ⟨x.data.toList.toArray⟩
  rw [Array.toArray_toList]
theorem impl_split (R : ByteArray) (m : Int) (w : World) (hs : R.size ≤ 1048576) (hm : w.cell? ⟨0, 0, none⟩ = some (.int .i64 m)) :
    Calls Tryd.prog 36 #[.string R, .string ⟨#[32]⟩] w fun e w' => e = .returned (.slice (some ⟨w.heap.size, 0, none⟩) (cutP 32 R.data.toList).length (cutP 32 R.data.toList).length) ∧ w' = w.alloc (.cells ((cutP 32 R.data.toList).map encS).toArray 9) := by
  refine (Tryd.strings_Split R ⟨#[32]⟩ m w (by omega) hm (by decide)).mono fun e w' ⟨h1, h2⟩ => ?_
  have h3 := Lib.splitB_all ⟨#[32]⟩ (by decide) 0 _ R rfl
  have h4 := congrArg List.length (split_list R)
  rw [List.length_map, h3] at h4
  rw [split_vals] at h2
  rw [h4] at h1
  exact ⟨h1, h2⟩
set_option maxRecDepth 100000 in
set_option maxHeartbeats 4000000 in
theorem impl_par (s : ByteArray) (m : Int) (w : World) (hm : w.cell? ⟨0, 0, none⟩ = some (.int .i64 m))
    (htab : ∀ W', Below w.heap.size w W' → Lib.TabIs Tryd.prog W' "internal/strconv.uint64pow10" .u64 Lib.pow10Tab) :
    Calls Tryd.prog 12 #[.string s] w (GivesK (parVB s.data.toList) (parVR s.data.toList) (parVO s.data.toList) (parK s.data.toList) w) := by
  obtain ⟨i0, hi0, hz0, hz1, hz2⟩ := info_parts Ints.infoI
  obtain ⟨i2, hi2, hz20, hz21, hz22⟩ := info_parts infoR
  have HLS : Hid (s.data.toList.length = s.size) := Array.length_toList
  have HT := Lib.hid htab
  have HM := Lib.hid hm
  have HZ0 := Lib.hid (Cells3.new w 28 (.int .i64 0) (.slice none 0 0) (.slice none 0 0))
  have HB0 : Hid (Below w.heap.size w (w.alloc (Obj.cells #[Value.int .i64 0, Value.slice none 0 0, Value.slice none 0 0] 28))) := (Below.refl _ _).alloc (Nat.le_refl _) _
  clear htab hm
  by_cases h114 : s.size ≤ 114
  case neg =>
    have HK : Hid (parK s.data.toList = false) := by
      show _ = _
      cases hk : parK s.data.toList with
      | false => rfl
      | true => have := parK_len hk; have := HLS.out; omega
    have HVN := Lib.hid (par_no HK.out)
    have hd : ((s.size : Nat) : Int) > 114 := by omega
    have hd2 := decide_eq_true hd
    have hd3 : 114 < s.size := by omega
    have hZ2 := HZ0.out
    have hB4 := HB0.out
    have z0 := hZ2.c0
    have z1 := hZ2.c1
    have z2 := hZ2.c2
    have z3 := hZ2.f
    clear h114
    go_enter Tryd.func12, Tryd.ntmps12
    go_wp2
    refine bodyPost_ret (v := .tuple #[.agg #[.int .i64 0, .slice none 0 0, .slice none 0 0], .bool false]) (by simp [results, Tryd.results12, go_sem]) rfl ?_
    rw [HVN.out.1, HVN.out.2.1, HVN.out.2.2, HK.out]
    exact ⟨_, rfl, OwnS.zero _, hB4⟩
  case pos =>
    obtain ⟨C1, hC1⟩ : ∃ l, l = (Lib.cut s.data.toList [58, 32]).1 := ⟨_, rfl⟩
    obtain ⟨C2, hC2⟩ : ∃ l, l = (Lib.cut s.data.toList [58, 32]).2.1 := ⟨_, rfl⟩
    have HC1 := Lib.hid hC1
    have HC2 := Lib.hid hC2
    obtain ⟨C3, hC3⟩ : ∃ l, l = (Lib.cut s.data.toList [58, 32]).2.2 := ⟨_, rfl⟩
    have hcl := cut_len s.data.toList [58, 32]
    have h1l : C1.length ≤ 114 := by rw [hC1]; have := hcl.1; have := HLS.out; omega
    have h2l : C2.length ≤ 114 := by rw [hC2]; have := hcl.2; have := HLS.out; omega
    have HCT : Hid (∀ W, W.cell? ⟨0, 0, none⟩ = some (.int .i64 m) → Calls Tryd.prog 34 #[.string s, .string ⟨#[58, 32]⟩] W fun e w' => e = .returned (.tuple #[.string ⟨C1.toArray⟩, .string ⟨C2.toArray⟩, .bool C3]) ∧ Below W.heap.size W w') := by
      intro W hW
      rw [hC1, hC2, hC3]
      exact impl_cut s ⟨#[58, 32]⟩ m W (by omega) hW
    obtain ⟨HD, hHD⟩ : ∃ S : ByteArray, S = ⟨C1.toArray⟩ := ⟨_, rfl⟩
    obtain ⟨RS, hRS⟩ : ∃ S : ByteArray, S = ⟨C2.toArray⟩ := ⟨_, rfl⟩
    rw [← hHD, ← hRS] at HCT
    have HDs : Hid (HD.size ≤ 1048576) := by show _ ≤ _; rw [hHD, mk_size]; omega
    have HRs : Hid (RS.size ≤ 1048576) := by show _ ≤ _; rw [hRS, mk_size]; omega
    have HRL : Hid (RS.data.toList = C2) := by show _ = _; rw [hRS]
    obtain ⟨b, hb⟩ : ∃ b, b = Parse.resV HD := ⟨_, rfl⟩
    have HBB' : Hid (b = Parse.resV ⟨(Lib.cut s.data.toList [58, 32]).1.toArray⟩) := by show _ = _; rw [hb, hHD, hC1]
    have HPI : Hid (∀ q ∈ cutP 32 C2, q.length ≤ 114) := fun q hq => by have := cutP_piece 32 C2 q hq; omega
    have hpn : (cutP 32 C2).length ≤ 115 := by
      have h1 := (cutF_size 32 C2).1
      rw [cutP, List.length_append, List.length_singleton]
      omega
    have hd2 : ¬ 114 < s.size := by omega
    have hd3 : ¬ (114 : Int) < (s.size : Int) := by omega
    clear hC1 hC2 hC3 hcl hHD hRS h1l h2l h114
    go_enter Tryd.func12, Tryd.ntmps12
    go_wp2_with fail
    refine (HCT.out _ (old_cellP HB0.out HM.out)).mono ?_
    rintro e W1 ⟨rfl, b1⟩
    have HB1 := Lib.hid (HB0.out.trans (b1.mono HB0.out.size))
    have HZ1 := Lib.hid (HZ0.out.below b1)
    clear b1 HB0 HZ0
    go_wp2_with fail
    refine (Parse.impl_any HD _ (by have := HDs.out; unfold maxLen; omega) (fun W' h => HT.out W' (HB1.out.trans (h.mono HB1.out.size)))).mono ?_
    rintro e W2 ⟨rfl, b1⟩
    rw [← hb]
    have HB2 := Lib.hid (HB1.out.trans (b1.mono HB1.out.size))
    have HZ2 := Lib.hid (HZ1.out.below b1)
    clear b1 HB1 HZ1 hb
    go_upto_region 6 with fail
    have hP3 := Cells3.new W2 28 (.int .i64 b) (.slice none 0 0) (.slice none 0 0)
    have hB3 : Below W2.heap.size W2 (W2.alloc (Obj.cells #[.int .i64 b, .slice none 0 0, .slice none 0 0] 28)) := (Below.refl _ _).alloc (Nat.le_refl _) _
    have hz3 : (W2.alloc (Obj.cells #[.int .i64 b, .slice none 0 0, .slice none 0 0] 28)).heap.size = W2.heap.size + 1 := size_alloc' _ _
    obtain ⟨W3, hW3⟩ : ∃ W, W = W2.alloc (Obj.cells #[.int .i64 b, .slice none 0 0, .slice none 0 0] 28) := ⟨_, rfl⟩
    rw [← hW3] at hP3 hB3 hz3 ⊢
    have HSP := Lib.hid (impl_split RS m W3 HRs.out (old_cellP hB3 (old_cellP HB2.out HM.out)))
    rw [HRL.out] at HSP
    obtain ⟨p, hp⟩ : ∃ p, p = W2.heap.size := ⟨_, rfl⟩
    have HPW := Lib.hid hp
    rw [← hp] at hP3 hB3 hz3 ⊢
    obtain ⟨PC, hPC⟩ : ∃ P, P = cutP 32 C2 := ⟨_, rfl⟩
    have HPC := Lib.hid hPC
    rw [← hPC] at HSP HPI hpn
    have hZp := HZ2.out.lt
    clear hW3 hPC
    go_wp2_with fail
    refine HSP.out.mono ?_
    rintro e W4 ⟨rfl, hW4⟩
    have hB4 : Below p W2 W4 := by rw [hW4]; exact hB3.alloc (by omega) _
    have hP4 : Cells3 W4 p 28 (.int .i64 b) (.slice none 0 0) (.slice none 0 0) := by rw [hW4]; exact hP3.alloc _
    have hcn := CellsN.new W3 9 (PC.map encS)
    have HG4 : Hid (∀ (i : Nat) (x : List UInt8), PC[i]? = some x → W4.cell? ⟨W3.heap.size, i, none⟩ = some (.string ⟨x.toArray⟩)) := fun i x hx => by rw [hW4]; exact hcn.at_ (i := i) (by rw [List.getElem?_map, hx]; rfl)
    have hz4 : W4.heap.size = W3.heap.size + 1 := by rw [hW4, size_alloc']
    obtain ⟨g, hg⟩ : ∃ g, g = W3.heap.size := ⟨_, rfl⟩
    rw [← hg] at HG4 hz4 hz3 ⊢
    obtain ⟨pn, hpnn⟩ : ∃ n, n = PC.length := ⟨_, rfl⟩
    have HPN := Lib.hid hpnn
    rw [← hpnn] at hpn ⊢
    obtain ⟨BB, hBB⟩ : ∃ B, B = W4.heap.size := ⟨_, rfl⟩
    have HBB : Hid (w.heap.size < p ∧ p < g ∧ g < BB) := by
      show _ ∧ _ ∧ _
      omega
    have hBL : Hid (Building W4 BB BB p b (.slice none 0 0) (.slice none 0 0) [] [] ((PC.take 0).map outI)) := Building.start hP4 (by rw [hBB]; exact Nat.le_refl _)
    have hBp := Lib.hid hB4
    have hRR : Hid (RowsRel (PC.take 0) []) := RowsRel.nil
    clear hB4 hP4 hcn hW4 hz4 hz3 hg hpnn hBB hP3 hB3 hp hZp HSP
    go_wp2
    go_loopw [37] (fun i' wr => ∃ (i : Nat) (vn vo : Value) (us : List Value) (rows : List (List Int)) (hi : Nat), i ≤ PC.length ∧ i' = .int .i64 i ∧ Hid (rows.length = i) ∧ Hid (RowsRel (PC.take i) rows) ∧ Hid (Building wr BB hi p b vn vo us rows ((PC.take i).map outI)) ∧ Hid (Below p W2 wr) ∧ Hid (∀ (i : Nat) (x : List UInt8), PC[i]? = some x → wr.cell? ⟨g, i, none⟩ = some (.string ⟨x.toArray⟩))) (fun i' _ => pn - (intOf i').toNat)
    case atStart => exact ⟨0, _, _, [], [], BB, Nat.zero_le _, rfl, rfl, hRR, hBL, hBp, HG4⟩
    case round =>
      clear hBL hBp hRR HG4
      obtain ⟨i, vn, vo, us, rows, hi, hil, rfl, HRN, HRR, hBL, hBp, HG⟩ := hrel
      have hpe : pn = PC.length := HPN.out
      obtain ⟨na, nc, oa, oc, hvn, hvo⟩ := hBL.out.form
      rw [HRN.out] at hvn
      rw [List.length_map, List.length_take, Nat.min_eq_left hil] at hvo
      subst hvn; subst hvo
      have HUSL : Hid (us.length = i) := by show _ = _; rw [hBL.out.len, HRN.out]
      obtain ⟨W5, rfl⟩ : ∃ W : World, W = wr := ⟨_, rfl⟩
      have HB5 := Lib.hid (HB2.out.trans (hBp.out.mono (by have := HBB.out; omega)))
      by_cases hlt : i < PC.length
      case neg =>
        have hje : ¬ (i : Int) < (pn : Int) := by omega
        have hie : i = PC.length := by omega
        obtain ⟨outs, houts⟩ : ∃ o, o = (PC.take i).map outI := ⟨_, rfl⟩
        rw [← houts] at hBL
        have HRQ : Hid (RowsRel (cutP 32 (Lib.cut s.data.toList [58, 32]).2.1) rows) := by
          have h1 := HRR.out
          rw [hie, List.take_length, HPC.out, HC2.out] at h1
          exact h1
        have HOQ : Hid (outs = (cutP 32 (Lib.cut s.data.toList [58, 32]).2.1).map outI) := by
          show _ = _
          rw [houts, hie, List.take_length, HPC.out, HC2.out]
        have hZ5 := HZ2.out.below (by have := hBp.out; rwa [HPW.out] at this)
        have HZ5 := Lib.hid hZ5
        have HOS : Hid (OwnS W5 BB W5.heap.size (.agg #[.int .i64 b, .slice na i nc, .slice oa i oc]) b rows outs) := hBL.out.seq
        have HC5 := Lib.hid hBL.out.cells
        have HBE2 := hBL
        have k0 := HC5.out.c0
        have k1 := HC5.out.c1
        have k2 := HC5.out.c2
        clear hie houts hZ5 hBL hBp hpe hil HRR
        by_cases h0 : s.size = 0
        · have HK : Hid (parK s.data.toList = false) := by
            show _ = _
            refine decide_eq_false fun h => h.1 (List.eq_nil_of_length_eq_zero ?_)
            rw [HLS.out]
            exact h0
          have HVN := Lib.hid (par_no HK.out)
          have hN := Mor.eq_none s
          rw [decide_eq_true h0] at hN
          have hN2 := Mor.eq_none' h0
          have hZ2 := HZ5.out
          have hB4 := HB5.out
          have z0 := hZ2.c0
          have z1 := hZ2.c1
          have z2 := hZ2.c2
          have z3 := hZ2.f
          clear h0
          go_wp2
          have hZ3 := (((hZ2.set0 (.int .i64 0)).set1 (.slice none 0 0)).set2 (.slice none 0 0))
          have n0 := hZ3.c0
          have n1 := hZ3.c1
          have n2 := hZ3.c2
          refine bodyPost_ret (v := .tuple #[.agg #[.int .i64 0, .slice none 0 0, .slice none 0 0], .bool false]) (by simp [results, Tryd.results12, go_sem, n0, n1, n2]) rfl ?_
          rw [HVN.out.1, HVN.out.2.1, HVN.out.2.2, HK.out]
          exact ⟨_, rfl, OwnS.zero _, (((hB4.setCell (Nat.le_refl _) _).setCell (Nat.le_refl _) _).setCell (Nat.le_refl _) _)⟩
        · have HFM := Lib.hid (Fmt.impl_fmt _ _ _ _ _ HOS.out.lies (fun W' h => HT.out W' (HB5.out.trans (h.mono HB5.out.size))))
          have hN := Mor.eq_none s
          rw [decide_eq_false h0] at hN
          have hN2 := Mor.ne_none h0
          obtain ⟨T, hT⟩ : ∃ T, T = fmtV b rows outs := ⟨_, rfl⟩
          rw [← hT] at HFM
          by_cases hTs : T = s
          · have hb1 := Parse.beq_str hTs
            have HK := Lib.hid (imp_yes h0 (hT.symm.trans hTs))
            clear h0 hTs hT
            go_wp2_with fail
            refine HFM.out.mono ?_
            rintro e W6 ⟨rfl, bx⟩
            have hB4 := HB5.out.trans (bx.mono HB5.out.size)
            have hZ2 := HZ5.out.below bx
            have hC4 := HC5.out.below bx
            have HW := Lib.hid (HBE2.out.below bx).seq
            have k0 := hC4.c0
            have k1 := hC4.c1
            have k2 := hC4.c2
            have z0 := hZ2.c0
            have z1 := hZ2.c1
            have z2 := hZ2.c2
            have z3 := hZ2.f
            clear bx hC4
            go_wp2
            have hZ3 := (((hZ2.set0 (.int .i64 b)).set1 (.slice na i nc)).set2 (.slice oa i oc))
            have n0 := hZ3.c0
            have n1 := hZ3.c1
            have n2 := hZ3.c2
            refine bodyPost_ret (v := .tuple #[.agg #[.int .i64 b, .slice na i nc, .slice oa i oc], .bool true]) (by simp [results, Tryd.results12, go_sem, n0, n1, n2]) rfl ?_
            rw [HK.out.1, HK.out.2.1, HK.out.2.2.1, HK.out.2.2.2]
            refine ⟨_, rfl, ?_, ((hB4.setCell (Nat.le_refl _) _).setCell (Nat.le_refl _) _).setCell (Nat.le_refl _) _⟩
            have hT : ∀ (i : Nat) (u : Value) (W : World), Plain.Touch w.heap.size (w.heap.size + 1) W (W.setCell ⟨w.heap.size, i, none⟩ u) := fun i u W => Plain.Touch.of_set (a := ⟨w.heap.size, i, none⟩) u (Nat.le_refl _) (Nat.lt_succ_self _)
            have T0 : Plain.Touch w.heap.size (w.heap.size + 1) W6 (((W6.setCell ⟨w.heap.size, 0, none⟩ (.int .i64 b)).setCell ⟨w.heap.size, 1, none⟩ (.slice na i nc)).setCell ⟨w.heap.size, 2, none⟩ (.slice oa i oc)) := ((hT 0 _ _).trans (hT 1 _ _)).trans (hT 2 _ _)
            have := (HW.out.touch T0 (.inr (by have := HBB.out; omega))).lower (show w.heap.size ≤ BB by have := HBB.out; omega)
            simpa only [size_setCell'] using this
          · have hb1 := Parse.bne_str hTs
            have HK := Lib.hid (imp_no HBB'.out HRQ.out HOQ.out (by rw [← hT]; exact hTs))
            have HVN := Lib.hid (par_no HK.out)
            clear hTs hT h0
            go_wp2_with fail
            refine HFM.out.mono ?_
            rintro e W6 ⟨rfl, bx⟩
            have hB4 := HB5.out.trans (bx.mono HB5.out.size)
            have hZ2 := HZ5.out.below bx
            have z0 := hZ2.c0
            have z1 := hZ2.c1
            have z2 := hZ2.c2
            have z3 := hZ2.f
            clear bx k0 k1 k2
            go_wp2
            have hZ3 := (((hZ2.set0 (.int .i64 0)).set1 (.slice none 0 0)).set2 (.slice none 0 0))
            have n0 := hZ3.c0
            have n1 := hZ3.c1
            have n2 := hZ3.c2
            refine bodyPost_ret (v := .tuple #[.agg #[.int .i64 0, .slice none 0 0, .slice none 0 0], .bool false]) (by simp [results, Tryd.results12, go_sem, n0, n1, n2]) rfl ?_
            rw [HVN.out.1, HVN.out.2.1, HVN.out.2.2, HK.out]
            exact ⟨_, rfl, OwnS.zero _, (((hB4.setCell (Nat.le_refl _) _).setCell (Nat.le_refl _) _).setCell (Nat.le_refl _) _)⟩
      case pos =>
        obtain ⟨qq, hqq⟩ : ∃ x, PC[i]? = some x := ⟨_, List.getElem?_eq_getElem hlt⟩
        have hqm : qq ∈ PC := List.mem_of_getElem? hqq
        have hql := HPI.out qq hqm
        have hcq := HG.out i qq hqq
        obtain ⟨Q, hQ⟩ : ∃ Q : ByteArray, Q = ⟨qq.toArray⟩ := ⟨_, rfl⟩
        have hQs : Q.size ≤ 1048576 := by rw [hQ, mk_size]; omega
        rw [← hQ] at hcq
        have hcl := cut_len qq [47]
        obtain ⟨D, hD⟩ : ∃ S : ByteArray, S = ⟨(Lib.cut qq [47]).1.toArray⟩ := ⟨_, rfl⟩
        obtain ⟨OT, hOT⟩ : ∃ S : ByteArray, S = ⟨(Lib.cut qq [47]).2.1.toArray⟩ := ⟨_, rfl⟩
        obtain ⟨C4, hC4⟩ : ∃ c, c = (Lib.cut qq [47]).2.2 := ⟨_, rfl⟩
        have HDs2 : Hid (D.size ≤ 1048576) := by show _ ≤ _; rw [hD, mk_size]; omega
        have HOs : Hid (OT.size ≤ 1048576) := by show _ ≤ _; rw [hOT, mk_size]; omega
        have HCQ : Hid (∀ W, W.cell? ⟨0, 0, none⟩ = some (.int .i64 m) → Calls Tryd.prog 34 #[.string Q, .string ⟨#[47]⟩] W fun e w' => e = .returned (.tuple #[.string D, .string OT, .bool C4]) ∧ Below W.heap.size W w') := by
          intro W hW
          rw [hD, hOT, hC4]
          have h1 := impl_cut Q ⟨#[47]⟩ m W hQs hW
          rw [hQ] at h1 ⊢
          exact h1
        have HLD : Hid (lets D D.size = lettersL (Lib.cut qq [47]).1) := by show _ = _; rw [hD]; exact lets_mk _
        obtain ⟨o, ho⟩ : ∃ o, o = Parse.resV OT := ⟨_, rfl⟩
        have HOO : Hid (o = outI qq) := by show _ = _; rw [ho, hOT]; rfl
        have HQQ := Lib.hid hqq
        have hjd : (i : Int) < (pn : Int) := by omega
        have hjd2 : i < pn := by omega
        have hj0 : (0 : Int) ≤ (i : Int) := Int.natCast_nonneg _
        have hi115 : i ≤ 115 := by omega
        clear hQ hQs hqm hqq hql hcl hD hOT hC4 hpe
        go_wp2_with fail
        refine (HCQ.out _ (old_cellP HB5.out HM.out)).mono ?_
        rintro e W6 ⟨rfl, b1⟩
        have HBL6 := Lib.hid (hBL.out.below b1)
        have HBp6 := Lib.hid (hBp.out.trans (b1.mono (Nat.le_of_lt hBL.out.cells.lt)))
        have HB6 := Lib.hid (HB5.out.trans (b1.mono HB5.out.size))
        have HG6 : Hid (∀ (i : Nat) (x : List UInt8), PC[i]? = some x → W6.cell? ⟨g, i, none⟩ = some (.string ⟨x.toArray⟩)) := fun i x hx => old_cellP b1 (HG.out i x hx)
        clear b1 hBL hBp HB5 HG hcq
        go_wp2_with fail
        refine (Parse.impl_any OT _ (by have := HOs.out; unfold maxLen; omega) (fun W' h => HT.out W' (HB6.out.trans (h.mono HB6.out.size)))).mono ?_
        rintro e W7 ⟨rfl, b1⟩
        rw [← ho]
        have HBL7 := Lib.hid (HBL6.out.below b1)
        have HBp7 := Lib.hid (HBp6.out.trans (b1.mono (Nat.le_of_lt HBL6.out.cells.lt)))
        have HG7 : Hid (∀ (i : Nat) (x : List UInt8), PC[i]? = some x → W7.cell? ⟨g, i, none⟩ = some (.string ⟨x.toArray⟩)) := fun i x hx => old_cellP b1 (HG6.out i x hx)
        clear b1 HBL6 HBp6 HB6 HG6 ho
        go_upto_region 11 with fail
        have c1 := HBL7.out.cells.c1
        have hpl := HBL7.out.cells.lt
        go_region_law (first
          | (go_simp; go_at_call 37; refine (Mor.hex_values D _ HDs2.out).mono ?_; rintro e wa ⟨va, xs, rfl, hva, hxs, ba⟩; obtain ⟨aa, ca, hvf, _⟩ := hva.form; subst hvf; have hba := (below_drew' W7).trans ba; have hca := HBL7.out.cells.below hba; have q1 := hca.c1; have q2 := (hca.alloc (Obj.cells #[Value.slice aa xs.length ca] 23)).c1; have hna := HBL7.out.top.below hba)
          | (refine step_append_list (enc := id) (e := 23) rfl (.tmp 53) (.tmp 56) 22 rfl BB i2 (.slice none 0 0) 24 Tryd.underlying22 hi2 hz20 hz21 hz22 rfl (.slice na i nc) us rfl (by repeat (first | with_reducible exact hna | with_reducible apply has_drew | with_reducible apply has_alloc)) (Value.slice (some ⟨_, 0, none⟩) 1 1) [Value.slice aa xs.length ca] rfl (by repeat (first | with_reducible apply lies_drew | (with_reducible refine lies_lit1v _ rfl) | with_reducible apply lies_alloc)) (fun y hy => by simp at hy; subst hy; rfl) (by rw [HUSL.out]; simp; omega) (by rw [HUSL.out]; simp; omega) (by have := HBL7.out.lo; have := HBL7.out.le; have := hba.size; simp; omega) ?_; intro vt w2 ho2 hg2; obtain ⟨at2, ct2, hvf2, _⟩ := ho2.form; rw [show (us ++ [Value.slice aa xs.length ca]).length = i + 1 from by rw [List.length_append, HUSL.out]; rfl] at hvf2; subst hvf2; refine with_fact (T := wa.grownBy w2 (Value.slice na i nc).ownBlock) ?_ ?_; (focus (first | exact grown_alloc hg2 | exact grown_alloc (grown_drew hg2))); intro hg3; have hc2 := hca.grown hg3 (has_ne_c3 hna hca (by decide)); have r1 := hc2.c1; have r3 := hc2.f))
        all_goals
          have HU : Hid (Has (Value.int .i64) 3 wa hi (.slice aa xs.length ca) xs) := hva.mono HBL7.out.le
          have HBLa := Lib.hid (HBL7.out.below hba)
          have HBL8' := Lib.hid (HBLa.out.row HU.out ho2 hg3)
          have HRX : Hid (RowRel qq xs) := fun h => by
            have h1 := hxs.2
            rw [HLD.out] at h1
            exact h1 h
          have HRR2 : Hid (RowsRel (PC.take (i + 1)) (rows ++ [xs])) := by
            show RowsRel _ _
            rw [take_snoc HQQ.out]
            exact HRR.out.snoc HRX.out
          have HRN2 : Hid ((rows ++ [xs]).length = i + 1) := by show _ = _; rw [List.length_append, HRN.out]; rfl
          have HBpa := Lib.hid (HBp7.out.trans (hba.mono (Nat.le_of_lt HBL7.out.cells.lt)))
          have HLOa := Lib.hid (show BB ≤ wa.heap.size from Nat.le_trans HBLa.out.lo HBLa.out.le)
          have HG5 : Hid (BB ≤ w2.heap.size) := Nat.le_trans HLOa.out hg3.size
          have HBp8 : Hid (Below p W2 (w2.setCell ⟨p, 1, none⟩ (.slice at2 (i + 1) ct2))) := (HBpa.out.grown hg3 (by have := HBB.out; have := HLOa.out; omega) (fun kk hk => by have h1 := (hna.lt kk hk).1; have := HBB.out; omega)).setCell (Nat.le_refl _) _
          have HG8 : Hid (∀ (i' : Nat) (x : List UInt8), PC[i']? = some x → (w2.setCell ⟨p, 1, none⟩ (.slice at2 (i + 1) ct2)).cell? ⟨g, i', none⟩ = some (.string ⟨x.toArray⟩)) := fun i' x hx => by
            rw [World.cell?_setCell_far _ _ _ _ (by show p ≠ g; have := HBB.out; omega)]
            exact hg3.cell (old_cellP hba (HG7.out i' x hx)) (fun e => by have h1 := (hna.lt g e.symm).1; have := HBB.out; omega)
          have HG6 : Hid (BB ≤ (w2.setCell ⟨p, 1, none⟩ (.slice at2 (i + 1) ct2)).heap.size) := by show _ ≤ _; rw [size_setCell']; exact HG5.out
          obtain ⟨W8, hW8⟩ : ∃ W, W = w2.setCell ⟨p, 1, none⟩ (.slice at2 (i + 1) ct2) := ⟨_, rfl⟩
          rw [← hW8] at HBL8' HBp8 HG8 HG6 ⊢
          have HW8 := Lib.hid (show w2.heap.size = W8.heap.size by rw [hW8, size_setCell'])
          rw [HW8.out] at HBL8'
          obtain ⟨rows2, hrows2⟩ : ∃ r, r = rows ++ [xs] := ⟨_, rfl⟩
          obtain ⟨us2, hus2⟩ : ∃ r, r = us ++ [Value.slice aa xs.length ca] := ⟨_, rfl⟩
          rw [← hrows2] at HBL8' HRR2 HRN2
          rw [← hus2] at HBL8'
          clear hva hxs ba hba hca q1 q2 hna ho2 hg2 hg3 hc2 r1 r3 HU HBLa HRX HBpa HLOa HG5 hW8 hrows2 hus2 c1 hpl
          have HVO := Lib.hid HBL8'.out.terms
          have HOL : Hid (((PC.take i).map outI).length = i) := by
            show _ = _
            have h1 := (List.getElem?_eq_some_iff.1 HQQ.out).1
            rw [List.length_map, List.length_take]
            omega
          have HOS : Hid ((PC.take (i + 1)).map outI = (PC.take i).map outI ++ [o]) := by
            show _ = _
            rw [HOO.out]
            exact take_map_snoc _ HQQ.out
          have c3 := HBL8'.out.cells.c2
          have c4 := (HBL8'.out.cells.alloc (.cells #[Value.int .i64 o] 3)).c2
          have hpl := HBL8'.out.cells.lt
          have HNO := Lib.hid (has_ne_c3 HVO.out.has HBL8'.out.cells (by decide))
          go_wp2_with (at_builtin; refine wpList_append_list (enc := Value.int .i64) (e := 3) rfl _ _ 23 rfl BB i0 (.int .i64 0) 8 Tryd.underlying23 hi0 hz0 hz1 hz2 rfl (.slice oa i oc) ((PC.take i).map outI) rfl (has_alloc HVO.out.has _) (.slice (some ⟨W8.heap.size, 0, none⟩) 1 1) [o] rfl (lies_lit1 (enc := Value.int .i64) _ rfl) (fun _ _ => rfl) (by rw [HOL.out]; simp; omega) (by rw [HOL.out]; simp; omega) (by have := HG6.out; simp; omega) ?_; intro vt w6 ho6 hg6 hb6; obtain ⟨a6, c6, hvf, _⟩ := ho6.form; rw [show ((PC.take i).map outI ++ [o]).length = i + 1 from by rw [List.length_append, HOL.out]; rfl] at hvf; subst hvf; have hg7 := grown_alloc hg6; have hc7 := HBL8'.out.cells.grown hg7 HNO.out; have r1 := hc7.c2; have r3 := hc7.f)
          have hm9 := HBL8'.out.term ho6 hg7 (fun k hk => (hb6 k hk).imp id (fun h => by simp at h; omega))
          rw [← HOS.out] at hm9
          have HM9 := Lib.hid hm9
          have HBp9 : Hid (Below p W2 (w6.setCell ⟨p, 2, none⟩ (.slice a6 (i + 1) c6))) := (HBp8.out.grown hg7 (by have := HBB.out; have := HG6.out; omega) (fun kk hk => by have h1 := (HVO.out.has.lt kk hk).1; have := HBB.out; omega)).setCell (Nat.le_refl _) _
          have HG9 : Hid (∀ (i' : Nat) (x : List UInt8), PC[i']? = some x → (w6.setCell ⟨p, 2, none⟩ (.slice a6 (i + 1) c6)).cell? ⟨g, i', none⟩ = some (.string ⟨x.toArray⟩)) := fun i' x hx => by
            rw [World.cell?_setCell_far _ _ _ _ (by show p ≠ g; have := HBB.out; omega)]
            exact hg7.cell (HG8.out i' x hx) (fun e => by have h1 := (HVO.out.has.lt g e.symm).1; have := HBB.out; omega)
          have hij : i + 1 ≤ PC.length := (List.getElem?_eq_some_iff.1 HQQ.out).1
          clear ho6 hb6 hg6 hg7 hc7 r1 r3 c3 c4 hpl hm9 HBL8' HVO HNO HBp8 HG8
          go_wp2
          go_roundw
          case rel => exact ⟨i + 1, _, _, _, _, _, hij, by go_num, HRN2, HRR2, HM9, HBp9, HG9⟩
          case measure => simp [intOf]; omega
end ParI
end Go.Proofs.YtbebifnnnmgihabDoor
