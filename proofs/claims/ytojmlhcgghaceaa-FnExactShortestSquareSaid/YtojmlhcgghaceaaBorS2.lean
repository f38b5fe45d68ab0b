/- Contracts of the model's BordersOf, PeriodsOf, LeastPeriod, IsPrimitive and RootOf. No conditions beyond those that each states. -/
import Derived.Test.YtojmlhcgghaceaaBorS
import Derived.Test.YtojmlhcgghaceaaSeqs3
import Derived.Test.YtojmlhcgghaceaaCellsN2
namespace Go.Proofs.Ytojmlhcgghaceaa
open Go.ChangeShapes Go.WideShapes Go.ChangeAt Go.RowKit
open Go.PlainAid Plain
set_option linter.unusedVariables false
namespace Fac
theorem brs_more {u xs : List Int} {k m : Nat} (h : brs u k ++ xs = brV u) (hk : 0 < k) (hm : bd u k = m) : brs u m ++ ([(m : Int)] ++ xs) = brV u := by
  rw [brs_pos u hk, hm, Int.toNat_natCast, List.append_assoc] at h
  exact h
theorem brs_left {u xs : List Int} {k : Nat} (h : brs u k ++ xs = brV u) : xs.length ≤ u.length := by
  have h1 := congrArg List.length h
  rw [List.length_append] at h1
  have := brV_len u
  omega
set_option maxHeartbeats 2000000 in
theorem spec_bor (v : Value) (u : List Int) (w : World) (h : Lies (Value.int .i64) w v u) (hs : u.length ≤ 4194304) :
    Calls Try.prog 62 #[v] w (Gives (Value.int .i64) 3 (brV u) w) := by
  obtain ⟨i0, hi, hz0, hz1, hz2⟩ := info_parts Ints.infoI
  obtain ⟨pa, pc, rfl⟩ := lies_shape h
  have HU := Lib.hid h
  have HB : Hid (Below w.heap.size w (w.alloc (Obj.cells #[] 3))) := (Below.refl _ _).alloc (Nat.le_refl _) _
  have HO : Hid (Has (Value.int .i64) 3 (w.alloc (Obj.cells #[] 3)) w.heap.size (.slice (some ⟨w.heap.size, 0, none⟩) 0 0) []) := has_lit0 rfl (Nat.le_refl _)
  clear h
  go_enter Try.func62, Try.ntmps62
  go_wp2_with fail
  refine (spec_l9 _ u _ (HU.out.below HB.out) hs).mono ?_
  rintro e W1 ⟨vb, rfl, hv, b1⟩
  obtain ⟨ba, bc, hvb, _⟩ := hv.form
  rw [blT_len] at hvb
  subst hvb
  have HV := Lib.hid hv.lies
  have HO1 := Lib.hid (HO.out.below b1)
  have HB1 := Lib.hid (HB.out.trans (b1.mono HB.out.size))
  clear hv b1 HO HB
  go_wp2
  go_loopw [3, 5] (fun o' k' wr => ∃ (k : Nat) (vo : Value) (xs : List Int), k ≤ u.length ∧ k' = .int .i64 k ∧ vo = o' ∧ Hid (brs u k ++ xs = brV u) ∧ Hid (Has (Value.int .i64) 3 wr w.heap.size vo xs) ∧ Hid (Below W1.heap.size W1 wr)) (fun _ k' _ => (intOf k').toNat)
  case atStart => exact ⟨u.length, _, [], Nat.le_refl _, rfl, rfl, List.append_nil _, HO1, Below.refl _ _⟩
  case round =>
    obtain ⟨k, vo, xs, hk, rfl, rfl, HX, HOr, HBr⟩ := hrel
    obtain ⟨oa, oc, rfl, _⟩ := HOr.out.form
    by_cases h0 : 0 < k
    · obtain ⟨j, rfl⟩ : ∃ j, k = j + 1 := ⟨k - 1, by omega⟩
      obtain ⟨m, hm⟩ : ∃ m : Nat, bd u (j + 1) = m := ⟨(bd u (j + 1)).toNat, by have := bd_pos u h0; omega⟩
      have hmk : m < j + 1 := by have := bd_ge u (j + 1); omega
      have HX2 := Lib.hid (brs_more HX.out h0 hm)
      have HL := Lib.hid (brs_left HX.out)
      have hat := blT_at u (i := u.length) (j := j) (by omega)
      rw [hm] at hat
      obtain ⟨q, r, hba, hc⟩ := lies_cell (HV.out.below HBr.out) hat
      have HBA := Lib.hid hba
      subst hba
      have e1 : ((j + 1 : Nat) : Int) - 1 = (j : Int) := by omega
      have hjl : j < u.length := by omega
      have hlit := Lib.hid (Has.lit (enc := (Value.int .i64)) (e := 3) wr [(m : Int)] HBr.out.size (by simp))
      have hl := Lib.hid (HOr.out.lies.below ((Below.refl wr.heap.size wr).alloc (Nat.le_refl _) (.cells #[.int .i64 (m : Int)] 3)))
      clear hm hat
      go_wp2_with (at_builtin; refine append_lies (enc := (Value.int .i64)) (e := 3) _ rfl _ _ 22 rfl W1.heap.size i0 (.int .i64 0) 8 Try.underlying22 hi hz0 hz1 hz2 rfl _ [(m : Int)] rfl hlit.out (.slice oa xs.length oc) xs rfl hl.out (fun _ => rfl) (by have := HL.out; simp; omega) (by have := HL.out; simp; omega) (by have := HBr.out.size; simp; omega) ?_; intro v' w' hown' hgrow')
      have hb' : Hid (Below W1.heap.size W1 w') := hlit.out.frame (HBr.out.alloc HBr.out.size _) (Nat.le_refl _) hgrow'
      have HO' := Lib.hid (hown'.mono HB1.out.size)
      clear hown' hgrow' hlit hl
      go_wp2
      go_roundw
      case rel => exact ⟨m, _, _, by omega, rfl, rfl, HX2, HO', hb'⟩
      case measure => simp [intOf]; omega
    · obtain rfl : k = 0 := by omega
      have HE : Hid (Has (Value.int .i64) 3 wr w.heap.size (.slice oa xs.length oc) (brV u)) := by
        have h := HOr.out
        rw [← HX.out, brs_zero]
        exact h
      go_wp2
      go_ret
      exact ⟨_, rfl, HE.out, HB1.out.trans (HBr.out.mono HB1.out.size)⟩
def prT (u : List Int) (k : Nat) : List Int := ((brV u).drop k).reverse.map fun b => (u.length : Int) - b
theorem prT_end (u : List Int) : prT u (brV u).length = [] := by simp [prT]
theorem prT_zero (u : List Int) : prT u 0 = prV u := rfl
theorem prT_succ {u : List Int} {k : Nat} {x : Int} (h : (brV u)[k]? = some x) : prT u k = prT u (k + 1) ++ [(u.length : Int) - x] := by
  obtain ⟨h1, rfl⟩ := List.getElem?_eq_some_iff.1 h
  unfold prT
  rw [List.drop_eq_getElem_cons h1, List.reverse_cons, List.map_append]
  rfl
theorem prT_len (u : List Int) (k : Nat) : (prT u k).length ≤ u.length := by
  have := brV_len u
  simp [prT]
  omega
/-- 'v = append(v, x)', x an int; where the slice lies then. -/
theorem append_blk {P : Program} (wr : World) {ops : Array Oper} {rest : List Oper} {o : Oper} {a : Act} {Q : Exit → Act → World → Prop} (hgd : o.guard = none) (s x : Operand) (t : TypeId)
    (ho : o.op = .call { callee := .builtin .append, args := #[s, x], argTypes := #[t, t] })
    (base : Nat) (i : TypeInfo) (ht : P.underlying t = some (.slice 3)) (hi : P.info? 3 = some i) (hz : i.zero = some (.int .i64 0))
    (hsize : i.size = 1) (hby : i.bytes = 8)
    (v : Value) (xs : List Int) (hs : a.eval s = v) (hown : Has (Value.int .i64) 3 wr base v xs) (y : Int) (hx : a.eval x = .slice (some ⟨wr.heap.size, 0, none⟩) 1 1)
    (hlen : xs.length ≤ 100000000) (hb2 : base ≤ wr.heap.size)
    (h : ∀ v' w', Has (Value.int .i64) 3 w' base v' (xs ++ [y]) → wr.grownBy w' v.ownBlock → (∀ k, v'.ownBlock = some k → v.ownBlock = some k ∨ wr.heap.size ≤ k) → wpList P ops Q rest (a.put o.dst v') w') :
    wpList P ops Q (o :: rest) a (wr.alloc (.cells #[.int .i64 y] 3)) := by
  refine wpList_append_list (enc := (Value.int .i64)) (e := 3) hgd s x t ho base i (.int .i64 0) 8 ht hi hz hsize hby rfl v xs hs (has_alloc hown _) (.slice (some ⟨wr.heap.size, 0, none⟩) 1 1) [y] hx (lies_lit1 (enc := (Value.int .i64)) y rfl) (fun _ _ => rfl) (by simp; omega) (by simp; omega) (by simp; omega) ?_
  intro v' w' hv' hg hbk
  exact h v' w' hv' (grown_alloc hg) (fun k hk => (hbk k hk).imp id fun h => by simp at h; omega)
/-- A slice ahead of another one's making, or made behind it, shares no block with it. -/
def Beside (lo hi : Nat) (v : Value) : Prop := ∀ k, v.ownBlock = some k → k < lo ∨ hi ≤ k
theorem Beside.step {lo hi : Nat} {v v' : Value} {W : World} (h : Beside lo hi v) (hk : ∀ k, v'.ownBlock = some k → v.ownBlock = some k ∨ W.heap.size ≤ k) (hW : hi ≤ W.heap.size) : Beside lo hi v' := fun k h1 =>
  (hk k h1).elim (fun h2 => h k h2) fun h2 => .inr (by omega)
theorem Has.keep {e : TypeId} {α : Type} {enc : α → Value} {w w' : World} {lo hi : Nat} {v vo : Value} {xs : List α} (h : Has enc e w lo v xs) (hh : ∀ k, v.ownBlock = some k → k < hi) (hb : Beside lo hi vo) (hg : w.grownBy w' vo.ownBlock) : Has enc e w' lo v xs := by
  refine h.grown hg ?_
  cases hk : v.ownBlock with
  | none => exact .inl rfl
  | some k =>
    refine .inr fun e => ?_
    have h1 := (h.lt k hk).1
    have h2 := hh k hk
    have h3 := hb k e.symm
    omega
set_option maxHeartbeats 2000000 in
theorem spec_per (v : Value) (u : List Int) (w : World) (h : Lies (Value.int .i64) w v u) (hs : u.length ≤ 4194304) :
    Calls Try.prog 54 #[v] w (Gives (Value.int .i64) 3 (prV u) w) := by
  obtain ⟨i0, hi, hz0, hz1, hz2⟩ := info_parts Ints.infoI
  obtain ⟨pa, pc, rfl⟩ := lies_shape h
  have HU := Lib.hid h
  have HB : Hid (Below w.heap.size w (w.alloc (Obj.cells #[] 3))) := (Below.refl _ _).alloc (Nat.le_refl _) _
  have HO : Hid (Has (Value.int .i64) 3 (w.alloc (Obj.cells #[] 3)) w.heap.size (.slice (some ⟨w.heap.size, 0, none⟩) 0 0) []) := has_lit0 rfl (Nat.le_refl _)
  clear h
  go_enter Try.func54, Try.ntmps54
  go_wp2_with fail
  refine (spec_bor _ u _ (HU.out.below HB.out) hs).mono ?_
  rintro e W1 ⟨vb, rfl, hv, b1⟩
  obtain ⟨ba, bc, rfl, _⟩ := hv.form
  have HV := Lib.hid hv
  have HVL : Hid (∀ k, Value.ownBlock (.slice ba (brV u).length bc) = some k → k < W1.heap.size) := fun k hk => (hv.lt k hk).2
  have HS1 := Lib.hid b1.size
  have HO1 := Lib.hid (HO.out.below b1)
  have HB1 := Lib.hid (HB.out.trans (b1.mono HB.out.size))
  have HBL := Lib.hid (brV_len u)
  have HBG : Hid (∀ x, x ∈ brV u → 0 ≤ x ∧ x < u.length) := fun x hx => brs_range u _ x hx
  have HS : Hid (∀ (k : Nat) (x : Int), (brV u)[k]? = some x → prT u k = prT u (k + 1) ++ [(u.length : Int) - x]) := fun k x hx => prT_succ hx
  have HZ := Lib.hid (prT_end u)
  have HBS : Hid (Beside (w.heap.size + 1) W1.heap.size (.slice (some ⟨w.heap.size, 0, none⟩) 0 0)) := fun k hk => .inl (by simp [Value.ownBlock] at hk; omega)
  obtain ⟨L, hL⟩ : ∃ L, L = brV u := ⟨_, rfl⟩
  rw [← hL] at HV HVL HBL HBG HS HZ ⊢
  rw [size_alloc'] at HV
  have hlv : L.length ≤ 4194304 := by have := HBL.out; omega
  clear hv b1 HO HB hL
  go_wp2
  go_loopw [3, 5] (fun o' k' wr => ∃ (k : Nat) (vo : Value), k ≤ L.length ∧ k' = .int .i64 ((k : Int) - 1) ∧ vo = o' ∧ Hid (Has (Value.int .i64) 3 wr w.heap.size vo (prT u k)) ∧ Hid (Has (Value.int .i64) 3 wr (w.heap.size + 1) (.slice ba L.length bc) L) ∧ Hid (Beside (w.heap.size + 1) W1.heap.size vo) ∧ Hid (Below w.heap.size w wr) ∧ Hid (W1.heap.size ≤ wr.heap.size)) (fun _ k' _ => (intOf k' + 1).toNat)
  case atStart => exact ⟨L.length, _, Nat.le_refl _, by go_num, rfl, by show Has _ _ _ _ _ _; rw [HZ.out]; exact HO1.out, HV, HBS, HB1, Nat.le_refl _⟩
  case round =>
    obtain ⟨k, vo, hk, rfl, rfl, HOr, HVr, HBSr, HBr, HSr⟩ := hrel
    obtain ⟨oa, oc, rfl, _⟩ := HOr.out.form
    by_cases h0 : 0 < k
    · obtain ⟨j, rfl⟩ : ∃ j, k = j + 1 := ⟨k - 1, by omega⟩
      have hj : j < L.length := by omega
      obtain ⟨x, hx⟩ : ∃ x, L[j]? = some x := ⟨_, List.getElem?_eq_getElem hj⟩
      obtain ⟨q, r, hba, hc⟩ := lies_cell HVr.out.lies hx
      have HBA := Lib.hid hba
      subst hba
      have hxr := HBG.out x (List.mem_of_getElem? hx)
      have HE := Lib.hid (HS.out j x hx)
      have HL := Lib.hid (prT_len u (j + 1))
      clear hx
      go_wp2_with (at_builtin; go_loud (refine append_blk wr rfl _ _ 22 rfl w.heap.size i0 Try.underlying22 hi hz0 hz1 hz2 (.slice oa (prT u (j + 1)).length oc) (prT u (j + 1)) rfl HOr.out ((u.length : Int) - x) rfl (by have := HL.out; omega) HBr.out.size ?_; intro v' w' hown' hgrow' hblk'))
      have HO' := Lib.hid hown'
      have HB' := Lib.hid (HOr.out.frame HBr.out (Nat.le_refl _) hgrow')
      have HV' := Lib.hid (Has.keep HVr.out HVL.out HBSr.out hgrow')
      have HBS' := Lib.hid (HBSr.out.step hblk' HSr.out)
      have HS' := Lib.hid (Nat.le_trans HSr.out hgrow'.size)
      clear hown' hgrow' hblk'
      go_roundw
      case rel => exact ⟨j, _, by omega, by go_num, rfl, by show Has _ _ _ _ _ _; rw [HE.out]; exact HO'.out, HV', HBS', HB', HS'⟩
      case measure => simp [intOf] <;> omega
    · obtain rfl : k = 0 := by omega
      go_wp2
      go_ret
      exact ⟨_, rfl, HOr.out, HBr.out⟩
set_option maxHeartbeats 2000000 in
theorem spec_lp (v : Value) (u : List Int) (w : World) (h : Lies (Value.int .i64) w v u) (hs : u.length ≤ 4194304) :
    Calls Try.prog 45 #[v] w fun e w' => e = .returned (.int .i64 (lpV u)) ∧ Below w.heap.size w w' := by
  have HC := Lib.hid (spec_per v u w h hs)
  have HPL := Lib.hid (prV_len u)
  by_cases h0 : 0 < u.length
  · have hp := prV_pos h0
    have HF := Lib.hid (prV_first h0)
    obtain ⟨L, hL⟩ : ∃ L, L = prV u := ⟨_, rfl⟩
    obtain ⟨y, hy⟩ : ∃ y, y = lpV u := ⟨_, rfl⟩
    rw [← hL] at HC HPL hp HF
    rw [← hy] at HF ⊢
    have hlv : L.length ≤ 4194304 := by have := HPL.out; omega
    clear hL hy h
    have hd := decide_eq_false (show ¬ L.length = 0 by omega)
    go_enter Try.func45, Try.ntmps45
    go_wp2_with fail
    refine HC.out.mono ?_
    rintro e W1 ⟨vb, rfl, hv, b1⟩
    obtain ⟨ba, bc, rfl, _⟩ := hv.form
    obtain ⟨q, r, hba, hc⟩ := lies_cell hv.lies HF.out
    rw [Nat.add_zero] at hc
    subst hba
    have hd0 : ((L.length : Int) == 0) = false := by simp; exact fun e => by rw [e] at hp; simp at hp
    have HB := Lib.hid b1
    clear hv b1
    go_wp2
    go_ret
    exact ⟨rfl, HB.out⟩
  · have HN := Lib.hid (prV_nil (u := u) (by omega))
    have HV := Lib.hid (lpV_nil (u := u) (by omega))
    rw [HN.out] at HC
    rw [HV.out]
    clear h
    go_enter Try.func45, Try.ntmps45
    go_wp2_with fail
    refine HC.out.mono ?_
    rintro e W1 ⟨vb, rfl, hv, b1⟩
    obtain ⟨ba, bc, rfl, _⟩ := hv.form
    have HB := Lib.hid b1
    clear hv b1
    go_wp2
    go_ret
    exact ⟨rfl, HB.out⟩
theorem tmod_nat (n p : Nat) : (n : Int).tmod (p : Int) = ((n % p : Nat) : Int) := rfl
theorem LiesC.to {w : World} {a : Option Addr} {c : Nat} {xs : List Int} {h : Nat} {H : Int} (hl : LiesC w (.slice a xs.length c) xs) (h2 : h ≤ xs.length) (hH : H = h) :
    ∃ a' c', (∀ W : World, (Instr.slice 22 (.slice a xs.length c) none (some (.int .i64 H)) none).run Try.prog W = .ok (.slice a' h c') W) ∧ LiesC w (.slice a' h c') (xs.take h) := by
  have hcut := hl.cut (Nat.zero_le h) h2
  have hcap := hl.2 _ _ _ rfl
  rw [Nat.sub_zero, List.drop_zero] at hcut
  subst hH
  refine ⟨_, _, fun W => ?_, hcut⟩
  have := run_slice_h (P := Try.prog) (w := W) (t := 22) (a := a) (len := xs.length) (cap := c) (by rw [elem_tr]; exact Try.underlying22) .i64 (h : Int) (by omega) (by omega)
  rw [this, elem_tr]
  simp [go_sem, Result.andThen]
end Fac
end Go.Proofs.Ytojmlhcgghaceaa
