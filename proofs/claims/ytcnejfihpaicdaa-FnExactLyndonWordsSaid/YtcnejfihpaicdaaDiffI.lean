/- Contracts of the library's sort and compaction at a slice of parts of words. No conditions beyond those that each states. -/
import Derived.Test.YtcnejfihpaicdaaSortV
import Derived.Test.YtcnejfihpaicdaaShelf
import Derived.BigQuiet
import Derived.Deep.QuietTactic
namespace Go.Proofs.Ytcnejfihpaicdaa
open Go.ChangeShapes Go.WideShapes Go.ChangeAt Go.RowKit
open Go.PlainAid Plain
set_option linter.unusedVariables false
namespace Fac
open Seqs
theorem ins_none (p : Option Addr) (cap : Nat) (fv : Value) (w : World) :
    Calls Try.prog 64 #[.slice p 0 cap, .int .i64 0, .int .i64 0, fv] w fun e w' => e = .returned (.tuple #[]) ∧ w = w' := by
  go_enter Try.func64, Try.ntmps64
  go_wp2
  refine wp_loop_rounds 1 ?_
  rw [rounds_succ]
  go_wp2
  go_end0
  exact ⟨rfl, rfl⟩
theorem pdq_none (p : Option Addr) (cap : Nat) (lim : Int) (fv : Value) (w : World) :
    Calls Try.prog 61 #[.slice p 0 cap, .int .i64 0, .int .i64 0, .int .i64 lim, fv] w fun e w' => e = .returned (.tuple #[]) ∧ w = w' := by
  go_enter Try.func61, Try.ntmps61
  go_wp2
  refine wp_loop_rounds 1 ?_
  rw [rounds_succ]
  go_wp2_with (go_at_call 64; refine (ins_none _ _ _ _).mono ?_; rintro e w' ⟨rfl, rfl⟩)
  (try simp only [Exit.inBlock, Exit.then]); refine bodyPost_ret (results_none rfl _ _ _) rfl ?_
  exact ⟨rfl, rfl⟩
theorem sort_none (p : Option Addr) (cap : Nat) (fv : Value) (w : World) :
    Calls Try.prog 57 #[.slice p 0 cap, fv] w fun e w' => e = .returned (.tuple #[]) ∧ w = w' := by
  have hl : ∀ W, Calls Try.prog 62 #[.int .u64 0] W fun e w' => e = .returned (.int .i64 (Lib.bitLen 0 : Nat)) ∧ w' = W := fun W => Try.bits_Len 0 W (by omega) (by omega)
  go_enter Try.func57, Try.ntmps57
  go_wp2_with (first | (go_at_call 62; refine (hl _).mono ?_; rintro e w' ⟨rfl, rfl⟩) | (go_at_call 61; refine (pdq_none _ _ _ _ _).mono ?_; rintro e w' ⟨rfl, rfl⟩))
  go_end0
  exact ⟨rfl, rfl⟩
theorem sort_any (v : Value) (w0 w : World) (L : List (Part w0)) (hb : Below w0.heap.size w0 w) (hv : Has Part.v 22 w w0.heap.size v L) (hn : L.length ≤ 100000) :
    Calls Try.prog 57 #[v, .func (.func 58) #[] #[]] w fun e w' => e = .returned (.tuple #[]) ∧ ∃ L' : List (Part w0), L'.Perm L ∧ (L'.Pairwise fun x y => cmpW x.k y.k ≤ 0) ∧ Has Part.v 22 w' w0.heap.size v L' ∧ Below w0.heap.size w0 w' := by
  rcases Nat.eq_zero_or_pos L.length with h0 | h0
  · obtain rfl : L = [] := List.eq_nil_of_length_eq_zero h0
    obtain ⟨a, c, rfl, _⟩ := hv.form
    refine (sort_none a c _ w).mono fun e w' h => ?_
    obtain ⟨rfl, rfl⟩ := h
    exact ⟨rfl, [], List.Perm.refl _, List.Pairwise.nil, hv, hb⟩
  · exact sorted v w0 w L hb hv hn h0
theorem eq_q {u v : Value} {xs ys : List Int} {w : World} {n : Nat} {c : Bool} (h1 : Lies (Value.int .i64) w u xs) (h2 : Lies (Value.int .i64) w v ys) (hc : decide (xs = ys) = c) :
    Calls Try.prog 60 #[u, v] (w.drewN n) fun e w' => e = .returned (.bool c) ∧ ∃ m, w' = w.drewN m :=
  (equal_ints u v xs ys (w.drewN n) (Lies_drewN h1 n) (Lies_drewN h2 n)).mono fun _ _ ⟨h, m, hm⟩ => ⟨by rw [h, hc], n + m, by rw [hm, World.drewN_drewN]⟩
theorem has_part {w0 w : World} {base : Nat} {a : Option Addr} {n c i : Nat} {x : Part w0} {L : List (Part w0)} (h : Has Part.v 22 w base (.slice a n c) L) (hx : L[i]? = some x) : ∃ g, a = some ⟨g, 0, none⟩ ∧ w.cell? ⟨g, i, none⟩ = some x.v ∧ ∃ b d, x.v = .slice b x.k.length d := by
  obtain ⟨p, o, ha, hc⟩ := lies_at h.lies hx
  obtain ⟨a', c', hv, hg⟩ := h.form
  injection hv with e1 e2 e3
  obtain ⟨g, hg⟩ := hg (by have := (List.getElem?_eq_some_iff.1 hx).1; omega)
  rw [e1, hg] at ha
  injection ha with ha
  injection ha with h1 h2
  subst h1; subst h2
  rw [Nat.zero_add] at hc
  obtain ⟨_, b, d, hv, _⟩ := x.lies
  exact ⟨g, by rw [e1, hg], hc, b, d, hv⟩
theorem dd_len {w0 : World} (L : List (Part w0)) : (dd Part.k L).length ≤ L.length := by
  have : ∀ (p : List Int) (l : List (Part w0)), (ddF Part.k p l).length ≤ l.length := fun p l => by
    induction l generalizing p with
    | nil => simp [ddF]
    | cons y l ih =>
      unfold ddF
      have := ih (y.k)
      split <;> simp <;> omega
  cases L with
  | nil => simp [dd]
  | cons x l => have := this x.k l; simp [dd]; exact this
theorem take_two {α : Type} {l : List α} {k : Nat} {y : α} (h : l[k]? = some y) : l.take (k + 1) = l.take k ++ [y] := by
  obtain ⟨h1, rfl⟩ := List.getElem?_eq_some_iff.1 h
  exact List.take_succ_eq_append_getElem h1
theorem has_frozen {α : Type} {enc : α → Value} {e : TypeId} {w : World} {base g n c : Nat} {xs : List α} (h : Has enc e w base (.slice (some ⟨g, 0, none⟩) n c) xs) (hn : n = xs.length) (j : Nat) : w.frozen? ⟨g, j, none⟩ = false := by
  subst hn
  have h' : w.ownsRow base e 1 (.slice (some ⟨g, 0, none⟩) xs.length c) xs.length (xs.map enc) := h
  exact h'.frozenAt j
set_option maxRecDepth 100000 in
set_option maxHeartbeats 4000000 in
theorem compact (v : Value) (w0 w : World) (L : List (Part w0)) (hb : Below w0.heap.size w0 w) (hv : Has Part.v 22 w w0.heap.size v L) (hn : L.length ≤ 100000) :
    Calls Try.prog 59 #[v, .func (.func 60) #[] #[]] w fun e w' => ∃ v', e = .returned v' ∧ Has Part.v 22 w' w0.heap.size v' (dd Part.k L) ∧ Below w0.heap.size w0 w' := by
  have eg : ∀ args w, (callFunc 60 args).run Try.prog w = .ok (.enter 60 args) w := enters_of Try.func60 (by kernel_rfl) rfl
  obtain ⟨a, c, rfl, _⟩ := hv.form
  have HV := Lib.hid hv
  have HB := Lib.hid hb
  clear hv hb
  by_cases h2 : L.length < 2
  · have hdd : dd Part.k L = L := by
      have := dd_one (key := Part.k) L
      rwa [List.take_of_length_le (by omega)] at this
    go_enter Try.func59, Try.ntmps59
    go_wp2
    go_ret
    exact ⟨_, rfl, by rw [hdd]; exact HV.out, HB.out⟩
  · go_enter Try.func59, Try.ntmps59
    go_wp2
    go_loopw [5] (fun k' wr => ∃ k : Nat, k + 1 ≤ L.length ∧ k' = .int .i64 ((k : Int) + 1) ∧ Hid (dd Part.k (L.take (k + 1)) = L.take (k + 1)) ∧ Hid (Has Part.v 22 wr w0.heap.size (.slice a L.length c) L) ∧ Hid (Below w0.heap.size w0 wr)) (fun k' _ => L.length - (intOf k').toNat)
    case atStart => exact ⟨0, by omega, rfl, dd_one L, HV, HB⟩
    case round =>
      obtain ⟨k, hk, rfl, HD, HV, HB⟩ := hrel
      obtain ⟨W4, rfl⟩ : ∃ W : World, W = wr := ⟨_, rfl⟩
      by_cases hlt : k + 1 < L.length
      · obtain ⟨x, hx⟩ : ∃ x, L[k]? = some x := ⟨_, List.getElem?_eq_getElem (by omega)⟩
        obtain ⟨y, hy⟩ : ∃ y, L[k + 1]? = some y := ⟨_, List.getElem?_eq_getElem hlt⟩
        obtain ⟨g, ha, c1, xb, xd, hxv⟩ := has_part HV.out hx
        subst ha
        obtain ⟨_, ha, c2, yb, yd, hyv⟩ := has_part HV.out hy
        cases ha
        have HXL := Lib.hid (x.lies.below HB.out)
        have HYL := Lib.hid (y.lies.below HB.out)
        rw [hxv] at c1 HXL
        rw [hyv] at c2 HYL
        have HS := Lib.hid (dd_snoc (key := Part.k) (l := L) hx hy)
        have HX := Lib.hid hy
        have hcap := (has_cap HV.out).2
        clear hx hy hxv hyv
        have hwr : IntKind.i64.wrap ((k : Int) + 1 - 1) = (k : Int) := by rw [IntKind.wrap_i64]; omega
        have hwr2 : IntKind.i64.wrap (k : Int) = (k : Int) := by rw [IntKind.wrap_i64]; omega
        have hl1 : k < L.length := by omega
        have hl2 : (k : Int) + 1 < (L.length : Int) := by omega
        have hl3 : (0 : Int) ≤ (k : Int) + 1 := by omega
        have hl4 : ((k : Int) + 1).toNat = k + 1 := by omega
        have hl5 : (k : Int) < (L.length : Int) := by omega
        by_cases he : y.k = x.k
        · have HQ := Lib.hid (decide_eq_true he)
          have HS2 : Hid (L.take (k + 1) = dd Part.k (L.take (k + 2))) := by
            have := HS.out
            rw [if_pos he, List.append_nil, HD.out] at this
            exact this.symm
          clear he HS HD
          go_wp2
          go_quiet ((go_at_fn 60; exact eq_q HYL.out HXL.out HQ.out))
          clear hwr hwr2 hl4
          have hsl := slice_from g L.length c (k + 1) ((k : Int) + 1) hlt hcap (by omega)
          have HB1 := Lib.hid (below_drewN HB.out nq)
          have HV1 := Lib.hid (HV.out.below (below_drewN (Below.refl _ _) nq))
          go_wp2_with fail
          go_loopw [5, 7] (fun k' m' wr => ∃ (q kk : Nat) (M : List (Part w0)), k + 1 + (q + 1) ≤ L.length ∧ k' = .int .i64 kk ∧ m' = .int .i64 ((q : Int) + 1) ∧ kk ≤ k + 1 + q ∧ Hid (M.length = L.length ∧ M.take kk = dd Part.k (L.take (k + 1 + q + 1)) ∧ ∀ i, k + 1 + q ≤ i → M[i]? = L[i]?) ∧ Hid (Has Part.v 22 wr w0.heap.size (.slice (some ⟨g, 0, none⟩) L.length c) M) ∧ Hid (Below w0.heap.size w0 wr)) (fun _ m' _ => L.length - (intOf m').toNat)
          case atStart => exact ⟨0, k + 1, L, by omega, by go_num, rfl, by omega, ⟨rfl, HS2.out, fun _ _ => rfl⟩, HV1, HB1⟩
          case round =>
            obtain ⟨q, kk, M, hq, rfl, rfl, hkk, HI, HVr, HBr⟩ := hrel
            have hcap2 := (has_cap HVr.out).2
            by_cases hlt2 : k + 1 + (q + 1) < L.length
            · obtain ⟨x2, hx2⟩ : ∃ x, L[k + 1 + q]? = some x := ⟨_, List.getElem?_eq_getElem (by omega)⟩
              obtain ⟨y2, hy2⟩ : ∃ y, L[k + 1 + q + 1]? = some y := ⟨_, List.getElem?_eq_getElem (by omega)⟩
              obtain ⟨_, ha, d1, xb2, xd2, hxv⟩ := has_part HVr.out ((HI.out.2.2 _ (by omega)).trans hx2)
              cases ha
              obtain ⟨_, ha, d2, yb2, yd2, hyv⟩ := has_part HVr.out ((HI.out.2.2 _ (by omega)).trans hy2)
              cases ha
              have HXL2 := Lib.hid (x2.lies.below HBr.out)
              have HYL2 := Lib.hid (y2.lies.below HBr.out)
              rw [hxv] at d1 HXL2
              rw [hyv] at d2 HYL2
              have HYV := Lib.hid hyv
              have HSS := Lib.hid (dd_snoc (key := Part.k) (l := L) hx2 hy2)
              have HY2 := Lib.hid hy2
              rw [show k + 1 + q + 1 = k + 1 + (q + 1) from by omega] at d2
              have hw1 : IntKind.i64.wrap ((q : Int) + 1 - 1) = (q : Int) := by rw [IntKind.wrap_i64]; omega
              have hw2 : IntKind.i64.wrap (q : Int) = (q : Int) := by rw [IntKind.wrap_i64]; omega
              have hm1 : q < L.length - (k + 1) := by omega
              have hm2 : (q : Int) + 1 < ((L.length - (k + 1) : Nat) : Int) := by omega
              have hm3 : (0 : Int) ≤ (q : Int) + 1 := by omega
              have hm4 : ((q : Int) + 1).toNat = q + 1 := by omega
              have hm5 : (q : Int) < ((L.length - (k + 1) : Nat) : Int) := by omega
              clear hx2 hy2 hxv hyv
              by_cases he2 : y2.k = x2.k
              · have HQ2 := Lib.hid (decide_eq_true he2)
                have HN2 : Hid (M.take kk = dd Part.k (L.take (k + 1 + (q + 1) + 1))) := by
                  have := HSS.out
                  rw [if_pos he2, List.append_nil] at this
                  exact HI.out.2.1.trans this.symm
                have HI2 : Hid (∀ i, k + 1 + (q + 1) ≤ i → M[i]? = L[i]?) := fun i hi => HI.out.2.2 i (by omega)
                have HI1 := Lib.hid HI.out.1
                clear he2 HSS HI HYV
                go_wp2
                go_quiet ((go_at_fn 60; exact eq_q HYL2.out HXL2.out HQ2.out))
                clear hw1 hw2 hm4
                go_wp2
                go_roundw
                case rel => exact ⟨q + 1, kk, M, by omega, rfl, by go_num, by omega, ⟨HI1.out, HN2.out, HI2.out⟩, HVr.out.below (below_drewN (Below.refl _ _) _), below_drewN HBr.out _⟩
                case measure => simp [intOf]; omega
              · have HQ2 := Lib.hid (decide_eq_false he2)
                have hkl : kk < M.length := by rw [HI.out.1]; omega
                have HN2 : Hid ((M.set kk y2).take (kk + 1) = dd Part.k (L.take (k + 1 + (q + 1) + 1))) := by
                  have := HSS.out
                  rw [if_neg he2, ← HI.out.2.1] at this
                  show _ = _
                  rw [show k + 1 + (q + 1) + 1 = k + 1 + q + 2 from by omega, this, List.take_succ_eq_append_getElem (by simpa using hkl), List.take_set, List.set_eq_of_length_le (by rw [List.length_take]; omega)]
                  simp
                have HI2 : Hid (∀ i, k + 1 + (q + 1) ≤ i → (M.set kk y2)[i]? = L[i]?) := fun i hi => by
                  rw [List.getElem?_set_ne (by omega)]
                  exact HI.out.2.2 i (by omega)
                have HI1 : Hid ((M.set kk y2).length = L.length) := by show _ = _; rw [List.length_set]; exact HI.out.1
                obtain ⟨z, hz⟩ : ∃ z, M[kk]? = some z := ⟨_, List.getElem?_eq_getElem hkl⟩
                obtain ⟨_, ha, d3, _, _, _⟩ := has_part HVr.out hz
                cases ha
                have hkL : kk < L.length := by rw [← HI.out.1]; exact hkl
                have hkL2 : (kk : Int) < (L.length : Int) := by omega
                have HL1 := Lib.hid HI.out.1
                clear he2 HSS HI hz hkl
                go_wp2
                go_quiet ((go_at_fn 60; exact eq_q HYL2.out HXL2.out HQ2.out))
                clear hw1 hw2
                have HV5 := Lib.hid (HVr.out.below (below_drewN (Below.refl _ _) nq))
                have HB5 := Lib.hid (below_drewN HBr.out nq)
                have hst := has_store HV5.out HL1.out.symm kk y2
                rw [HYV.out] at hst
                have HST := Lib.hid hst
                have m3 := has_frozen HV5.out HL1.out.symm kk
                have m1 : (wr.drewN nq).cell? ⟨g, kk, none⟩ = some z.v := d3
                have HBS : Hid (Below w0.heap.size w0 ((wr.drewN nq).setCell ⟨g, kk, none⟩ (.slice yb2 y2.k.length yd2))) := HB5.out.grown hst.2 HB5.out.size (fun k hk => by cases hk; exact (HV5.out.lt g rfl).1)
                clear hst
                go_wp2
                go_roundw
                case rel => exact ⟨q + 1, kk + 1, M.set kk y2, by omega, by go_num, by go_num, by omega, ⟨HI1.out, HN2.out, HI2.out⟩, HST.out.1, HBS⟩
                case measure => simp [intOf]; omega
            · have hend : k + 1 + (q + 1) = L.length := by omega
              have HE : Hid (M.take kk = dd Part.k L) := by
                have := HI.out.2.1
                rw [List.take_of_length_le (show L.length ≤ k + 1 + q + 1 by omega)] at this
                exact this
              have HL1 := Lib.hid HI.out.1
              have hkl : kk < L.length := by omega
              have hsf := slice_from g L.length c kk (kk : Int) hkl hcap2 rfl
              have hcl := fun ty => run_clear HVr.out HL1.out.symm hkl ty (c - kk)
              have hsto := slice_to g L.length c kk (by omega) (by omega)
              have HCUT := Lib.hid (has_cut HVr.out HL1.out.symm (Nat.le_of_lt hkl) HE.out (List.replicate (L.length - kk) (.slice none 0 0)) (.inr (by rw [List.length_replicate]; omega)))
              have hm9 : ¬ ((q : Int) + 1 < ((L.length - (k + 1) : Nat) : Int)) := by omega
              clear hend HI
              go_wp2
              go_ret
              exact ⟨_, rfl, HCUT.out.1, HBr.out.grown HCUT.out.2 HBr.out.size (fun k hk => by cases hk; exact (HVr.out.lt g rfl).1)⟩
        · have HQ := Lib.hid (decide_eq_false he)
          have HS2 : Hid (dd Part.k (L.take (k + 1 + 1)) = L.take (k + 1 + 1)) := by
            have := HS.out
            rw [if_neg he, HD.out] at this
            show _ = _
            rw [show k + 1 + 1 = k + 2 from rfl, this]
            exact (take_two HX.out).symm
          clear he HS HD
          go_wp2
          go_quiet ((go_at_fn 60; exact eq_q HYL.out HXL.out HQ.out))
          clear hwr hwr2 hl4
          go_wp2
          go_roundw
          case rel => exact ⟨k + 1, by omega, by go_num, HS2, HV.out.below (below_drewN (Below.refl _ _) _), below_drewN HB.out _⟩
          case measure => simp [intOf]; omega
      · have HE : Hid (dd Part.k L = L) := by
          have := HD.out
          rw [List.take_of_length_le (by omega)] at this
          exact this
        go_wp2
        go_ret
        exact ⟨_, rfl, by rw [HE.out]; exact HV.out, HB.out⟩
end Fac
end Go.Proofs.Ytcnejfihpaicdaa
