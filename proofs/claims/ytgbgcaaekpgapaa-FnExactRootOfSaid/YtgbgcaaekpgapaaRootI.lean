/- Contracts of the program's LeastPeriod, IsPrimitive and RootOf. No conditions beyond those that each states. -/
import Derived.ArgAppend
import Derived.Laws.CopyOwn
import Derived.Test.YtgbgcaaekpgapaaPerI
import Derived.Test.YtgbgcaaekpgapaaDigits4
namespace Go.Proofs.Ytgbgcaaekpgapaa
open Go.ChangeShapes Go.WideShapes Go.ChangeAt Go.RowKit
open Go.PlainAid Plain
set_option linter.unusedVariables false
namespace Fac
set_option maxHeartbeats 2000000 in
theorem impl_lp (v : Value) (u : List Int) (w : World) (h : Lies (Value.int .i64) w v u) (hs : u.length ≤ 4194303) :
    Calls Try.prog 18 #[v] w fun e w' => e = .returned (.int .i64 (lpV u)) ∧ Below w.heap.size w w' := by
  have HC := Lib.hid (impl_per v u w h hs)
  have HPL := Lib.hid (prV_len u)
  obtain ⟨pa, pc, rfl⟩ := lies_form h
  by_cases h0 : 0 < u.length
  · have hp := prV_pos h0
    have HF := Lib.hid (prV_first h0)
    obtain ⟨L, hL⟩ : ∃ L, L = prV u := ⟨_, rfl⟩
    obtain ⟨y, hy⟩ : ∃ y, y = lpV u := ⟨_, rfl⟩
    rw [← hL] at HC HPL hp HF
    rw [← hy] at HF ⊢
    have hlv : L.length ≤ 4194304 := by have := HPL.out; omega
    clear hL hy h
    have hd0 : ((u.length : Int) == 0) = false := by simp; intro e; rw [e] at h0; simp at h0
    go_enter Try.func18, Try.ntmps18
    go_wp2_with fail
    refine HC.out.mono ?_
    rintro e W1 ⟨vb, rfl, hv, b1⟩
    obtain ⟨ba, bc, rfl, _⟩ := hv.form
    obtain ⟨q, r, hba, hc⟩ := lies_cell hv.lies HF.out
    rw [Nat.add_zero] at hc
    subst hba
    have HB := Lib.hid b1
    clear hv b1
    go_wp2
    go_ret
    exact ⟨rfl, HB.out⟩
  · cases u with
    | cons x l => simp at h0
    | nil =>
      rw [lpV_nil rfl]
      clear h0 hs HC HPL h
      go_enter Try.func18, Try.ntmps18
      go_wp2
      go_ret
      exact ⟨rfl, Below.refl _ _⟩
/-- A slice cut to its own length. -/
theorem LiesC.full {w : World} {b off c : Nat} {xs : List Int} (hl : LiesC w (.slice (some ⟨b, off, none⟩) xs.length c) xs) (h0 : 0 < xs.length) :
    (∀ W : World, (Instr.slice 22 (.slice (some ⟨b, off, none⟩) xs.length c) none (some (.int .i64 (xs.length : Int))) (some (.int .i64 (xs.length : Int)))).run Try.prog W = .ok (.slice (some ⟨b, off, none⟩) xs.length xs.length) W) ∧ Lies (Value.int .i64) w (.slice (some ⟨b, off, none⟩) xs.length xs.length) xs := by
  have hcap := hl.2 _ _ _ rfl
  refine ⟨fun W => ?_, ?_⟩
  · have := run_slice_hm (P := Try.prog) (w := W) (t := 22) (a := some ⟨b, off, none⟩) (len := xs.length) (cap := c) (by rw [elem_tr]; exact Try.underlying22) .i64 .i64 (xs.length : Int) (xs.length : Int) (by omega) (by omega) (by omega)
    rw [this, elem_tr]
    have hne : ¬ xs.length = 0 := by omega
    simp [go_sem, Result.andThen, sliced, hne]
  · obtain ⟨⟨hs, a', c', hv, hn, hc⟩, _⟩ := hl
    injection hv with e1 e2 e3
    subst e1
    exact ⟨hs, _, _, rfl, (fun h => by cases h), hc⟩
/-- 'append(v, u...)', v a slice without room: what is handed back lies in a new block. -/
theorem append_full {P : Program} (w : World) {ops : Array Oper} {rest : List Oper} {o : Oper} {a : Act} {Q : Exit → Act → World → Prop} (hgd : o.guard = none) (s x : Operand) (t : TypeId)
    (ho : o.op = .call { callee := .builtin .append, args := #[s, x], argTypes := #[t, t] })
    (i : TypeInfo) (ht : P.underlying t = some (.slice 3)) (hi : P.info? 3 = some i) (hz : i.zero = some (.int .i64 0)) (hsize : i.size = 1) (hby : i.bytes = 8)
    (b off b2 off2 c : Nat) (xs ys : List Int) (hs : a.eval s = .slice (some ⟨b, off, none⟩) xs.length xs.length) (hx : a.eval x = .slice (some ⟨b2, off2, none⟩) ys.length c)
    (h1 : Lies (Value.int .i64) w (.slice (some ⟨b, off, none⟩) xs.length xs.length) xs) (h2 : Lies (Value.int .i64) w (.slice (some ⟨b2, off2, none⟩) ys.length c) ys) (hm : 0 < ys.length) (hl : xs.length + ys.length ≤ 100000000)
    (h : ∀ v' w', Has (Value.int .i64) 3 w' w.heap.size v' (xs ++ ys) → w.grownBy w' none → wpList P ops Q rest (a.put o.dst v') w') :
    wpList P ops Q (o :: rest) a w := by
  have cells : ∀ {b off c n : Nat} {zs : List Int}, Lies (Value.int .i64) w (.slice (some ⟨b, off, none⟩) n c) zs → ∀ j u, (zs.map (Value.int .i64))[j]? = some u → w.cell? ((⟨b, off, none⟩ : Addr).add j) = some u := fun hL j u hj => by
    rw [List.getElem?_map, Option.map_eq_some_iff] at hj
    obtain ⟨x', hx', rfl⟩ := hj
    obtain ⟨b', o', he, hcell⟩ := lies_cell hL hx'
    cases he
    rw [addr_plus]
    exact hcell
  refine wpList_append_grows w hgd s x t ho 3 i (.int .i64 0) 1 8 ht hi hz hsize hby rfl (by decide) (some ⟨b, off, none⟩) xs.length xs.length (xs.map (Value.int .i64)) hs (fun h => by cases h) (by simp) (fun p hp j u hj => by cases hp; exact cells h1 j u hj) ⟨b2, off2, none⟩ ys.length c (ys.map (Value.int .i64)) hx (by simp) (cells h2) (fun u hu => by obtain ⟨_, _, rfl⟩ := List.mem_map.1 hu; rfl) (by omega) (by unfold maxLen; omega) (by omega) fun v' w' hr hg => h v' w' ?_ hg
  show World.ownsRow _ _ _ _ _ _ _
  rw [List.length_append, List.map_append]
  exact hr
set_option maxHeartbeats 2000000 in
theorem root_len (v : Value) (u : List Int) (w : World) (h : LiesC w v u) (hs : u.length ≤ 2097152) :
    Calls Try.prog 29 #[v] w fun e w' => e = .returned (.int .i64 (rlV u : Int)) ∧ Below w.heap.size w w' := by
  obtain ⟨i0, hi, hz0, hz1, hz2⟩ := info_parts Ints.infoI
  by_cases h0 : 0 < u.length
  · obtain ⟨pa, pc, rfl, hcap⟩ := h.form
    obtain ⟨x0, hx0⟩ : ∃ x, u[0]? = some x := ⟨_, List.getElem?_eq_getElem h0⟩
    obtain ⟨b, off, hpa, _⟩ := lies_cell h.lies hx0
    subst hpa
    obtain ⟨hsl, hlf⟩ := h.full h0
    have HX := Lib.hid h
    have HF := Lib.hid hlf
    have HR := Lib.hid (rlV_occ h0)
    have HOC := Lib.hid (fun (W : World) (vd : Value) (h1 : Lies (Value.int .i64) W vd (u ++ u)) (h2 : Lies (Value.int .i64) W (.slice (some ⟨b, off, none⟩) u.length pc) u) => impl_occ vd _ (u ++ u) u W h1 h2 (by simp; omega) (by omega))
    have HOL := Lib.hid (occ_len (u ++ u) u)
    obtain ⟨L, hL⟩ : ∃ L, L = occ (u ++ u) u := ⟨_, rfl⟩
    rw [← hL] at HR HOC HOL
    obtain ⟨y, hy⟩ : ∃ y : Int, y = (rlV u : Int) := ⟨_, rfl⟩
    rw [← hy] at HR ⊢
    have hll : 1 < L.length := (List.getElem?_eq_some_iff.1 HR.out).1
    have hlv : L.length ≤ 4194305 := by have := HOL.out; simp at this; omega
    have hd0 : ((u.length : Int) == 0) = false := by simp; intro e; rw [e] at h0; simp at h0
    clear hL hy h hlf hx0
    go_enter Try.func29, Try.ntmps29
    go_upto_region 4 with (at_builtin; refine append_full w rfl _ _ 22 rfl i0 Try.underlying22 hi hz0 hz1 hz2 b off b off pc u u rfl rfl HF.out HX.out.lies h0 (by omega) ?_; intro vd w1 hvd hgd)
    have hb1 := below_of_grown hgd
    have HB1 := Lib.hid hb1
    have HD := Lib.hid hvd
    have HX1 := Lib.hid (HX.out.lies.below hb1)
    clear hvd hgd hb1
    go_wp2_with fail
    refine (HOC.out _ _ HD.out.lies HX1.out).mono ?_
    rintro e W2 ⟨vo, rfl, ho, b2⟩
    obtain ⟨oa, oc, rfl, _⟩ := ho.form
    obtain ⟨q, r, hoa, hc⟩ := lies_cell ho.lies HR.out
    subst hoa
    have HB2 := Lib.hid (HB1.out.trans (b2.mono HB1.out.size))
    clear ho b2
    go_wp2
    go_ret
    exact ⟨rfl, HB2.out⟩
  · cases u with
    | cons x l => simp at h0
    | nil =>
      rw [rlV_nil rfl]
      obtain ⟨pa, pc, rfl, hcap⟩ := h.form
      clear h0 hs h
      go_enter Try.func29, Try.ntmps29
      go_wp2
      go_ret
      exact ⟨rfl, Below.refl _ _⟩
set_option maxHeartbeats 2000000 in
theorem impl_prim (v : Value) (u : List Int) (w : World) (h : LiesC w v u) (hs : u.length ≤ 2097152) :
    Calls Try.prog 20 #[v] w fun e w' => e = .returned (.bool (pmB u)) ∧ Below w.heap.size w w' := by
  have HC := Lib.hid (root_len v u w h hs)
  obtain ⟨pa, pc, rfl, hcap⟩ := h.form
  by_cases h0 : 0 < u.length
  · rw [pmB_pos h0]
    obtain ⟨r, hr⟩ : ∃ r, r = rlV u := ⟨_, rfl⟩
    rw [← hr] at HC ⊢
    have HD : Hid (decide ((r : Int) = (u.length : Int)) = decide (r = u.length)) := decide_eq_decide.2 ⟨fun e => by omega, fun e => by omega⟩
    obtain ⟨y, hy⟩ : ∃ y, y = decide ((r : Int) = (u.length : Int)) := ⟨_, rfl⟩
    rw [← hy]
    have hgt := decide_eq_true (show (u.length : Int) > 0 by omega)
    have hyd : ((r : Int) == (u.length : Int)) = y := by rw [hy]; rfl
    clear hr hy h
    go_enter Try.func20, Try.ntmps20
    go_wp2_with (go_at_call 29; refine HC.out.mono ?_; rintro e W1 ⟨rfl, b1⟩)
    go_ret
    exact ⟨rfl, b1⟩
  · cases u with
    | cons x l => simp at h0
    | nil =>
      rw [pmB_nil rfl]
      clear h0 hs h HC
      go_enter Try.func20, Try.ntmps20
      go_wp2
      go_ret
      exact ⟨rfl, Below.refl _ _⟩
set_option maxHeartbeats 2000000 in
theorem impl_root (v : Value) (u : List Int) (w : World) (h : LiesC w v u) (hs : u.length ≤ 2097152) :
    Calls Try.prog 22 #[v] w (Gives (Value.int .i64) 3 (rtV u) w) := by
  obtain ⟨i0, hi, hz0, hz1, hz2⟩ := info_parts Ints.infoI
  have HC := Lib.hid (root_len v u w h hs)
  obtain ⟨pa, pc, rfl, hcap⟩ := h.form
  have HX := Lib.hid h
  have HL := Lib.hid (rlV_le u)
  have HT : Hid (u.take (rlV u) = rtV u) := rfl
  obtain ⟨r, hr⟩ : ∃ r, r = rlV u := ⟨_, rfl⟩
  rw [← hr] at HC HL HT
  have hrl := HL.out
  clear hr h
  go_enter Try.func22, Try.ntmps22
  go_wp2_with fail
  refine HC.out.mono ?_
  rintro e W1 ⟨rfl, b1⟩
  have HB1 := Lib.hid b1
  clear b1
  go_upto_region 2 with (at_make; refine wpList_make_full W1 rfl _ _ 22 rfl W1.heap.size 3 i0 (.int .i64 0) 1 Try.underlying22 hi hz0 hz1 .i64 .i64 _ _ r rfl rfl rfl rfl (by rw [hz2]; omega) (by unfold maxLen; omega) (Nat.le_refl _) ?_; intro w1 hown hgrow)
  have HO : Hid (Has (Value.int .i64) 3 w1 W1.heap.size (.slice (some ⟨W1.heap.size, 0, none⟩) r r) (List.replicate r 0)) := Ints.made_has hown
  have hb := below_of_grown hgrow
  have HX1 := Lib.hid ((HX.out.lies.below HB1.out).below hb)
  have HB := Lib.hid (HB1.out.trans (hb.mono HB1.out.size))
  have HB' := Lib.hid hb
  clear hown hgrow hb
  have HK : Hid ((List.replicate r (0 : Int)).take 0 ++ (u.take r ++ (List.replicate r (0 : Int)).drop (0 + r)) = rtV u) := by
    show _ = _
    rw [List.take_zero, List.nil_append, Nat.zero_add, List.drop_of_length_le (by rw [List.length_replicate]; exact Nat.le_refl _), List.append_nil]
    exact HT.out
  go_wp2_with (refine copy_has (enc := (Value.int .i64)) (e := 3) rfl (.tmp 7) (.tmp 8) 22 22 rfl Try.underlying22 size_ti W1.heap.size r r (List.replicate r 0) HO.out _ _ _ rfl _ u rfl HX1.out (fun _ => rfl) 0 r (by omega) (fun _ => rfl) (by rw [List.length_replicate]; omega) ?_; intro w2 hown hgrow; rw [HK.out] at hown; have H2 := Lib.hid hown; have H3 := Lib.hid (HB1.out.trans ((HO.out.frame HB'.out (Nat.le_refl _) hgrow).mono HB1.out.size)); clear hown hgrow)
  go_ret
  exact ⟨_, rfl, Has.mono H2.out HB1.out.size, H3.out⟩
end Fac
end Go.Proofs.Ytgbgcaaekpgapaa
