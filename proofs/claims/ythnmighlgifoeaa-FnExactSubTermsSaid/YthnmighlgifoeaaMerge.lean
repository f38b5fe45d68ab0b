/- Contract of the function that merges the states of a class. No conditions beyond those that each states. -/
import Derived.Test.YthnmighlgifoeaaDivide
import Derived.Test.YthnmighlgifoeaaSeqCopy
import Derived.Test.YthnmighlgifoeaaSeqForm
import Derived.Test.YthnmighlgifoeaaCellsN2
import Derived.Test.YthnmighlgifoeaaSeqs3
namespace Go.Proofs.Ythnmighlgifoeaa
open Go.ChangeShapes Go.WideShapes Go.ChangeAt Go.RowKit
open Go.PlainAid Plain
set_option linter.unusedVariables false
namespace Mins
open Seqs
/-- A sequence in the making: what has come so far stands in its place; the rows' blocks lie from lo to hi. -/
structure Filled (w : World) (base lo g1 g2 : Nat) (rows : List (List Int)) (out : List Int) (dn : Nat → Bool) (us os : List Value) (hi : Nat) : Prop where
  c1 : CellsN w g1 23 us
  c2 : CellsN w g2 3 os
  l1 : us.length = rows.length
  l2 : os.length = rows.length
  l3 : out.length = rows.length
  b1 : base ≤ g1
  b2 : base ≤ g2
  lo1 : g1 < lo
  lo2 : g2 < lo
  hi1 : lo ≤ hi
  hi2 : hi ≤ w.heap.size
  row : ∀ (i : Nat) (u : Value) (r : List Int), dn i = true → us[i]? = some u → rows[i]? = some r → OwnI w lo hi u r
  apart : ∀ (i j : Nat) (u u' : Value), dn i = true → dn j = true → us[i]? = some u → us[j]? = some u' → i ≠ j → u.ownBlock = none ∨ u.ownBlock ≠ u'.ownBlock
  out : ∀ (i : Nat) (o : Int), dn i = true → out[i]? = some o → os[i]? = some (.int .i64 o)
section
variable {w w' : World} {base lo g1 g2 hi : Nat} {rows : List (List Int)} {out : List Int} {dn : Nat → Bool} {us os : List Value}
theorem Filled.below (h : Filled w base lo g1 g2 rows out dn us os hi) (hb : Below w.heap.size w w') : Filled w' base lo g1 g2 rows out dn us os hi :=
  ⟨h.c1.below hb, h.c2.below hb, h.l1, h.l2, h.l3, h.b1, h.b2, h.lo1, h.lo2, h.hi1, Nat.le_trans h.hi2 hb.size, fun i u r a b c => (h.row i u r a b c).below hb, h.apart, h.out⟩
/-- A world that differs in a block of another kind. -/
theorem Filled.other {r : Nat} (h : Filled w base lo g1 g2 rows out dn us os hi) (hg : w.grownBy w' (some r)) (hr : ∀ cs t fz, w.heap[r]? ≠ some (.cells cs t fz)) : Filled w' base lo g1 g2 rows out dn us os hi := by
  have n1 : some r ≠ some g1 := fun e => by injection e with e; subst e; exact hr _ _ _ h.c1.row
  have n2 : some r ≠ some g2 := fun e => by injection e with e; subst e; exact hr _ _ _ h.c2.row
  refine ⟨h.c1.grown hg n1, h.c2.grown hg n2, h.l1, h.l2, h.l3, h.b1, h.b2, h.lo1, h.lo2, h.hi1, Nat.le_trans h.hi2 hg.size, fun i u x a b c => ?_, h.apart, h.out⟩
  have hI := h.row i u x a b c
  refine ⟨hI.has.grown hg ?_, hI.lt, Nat.le_trans hI.le hg.size⟩
  rcases hI.has.2 with ⟨rfl, _⟩ | ⟨g, cap, cur, rfl, _, hgr, _⟩
  · exact .inl rfl
  · exact .inr fun e => by
      have e1 : g = r := by simpa [Value.ownBlock] using e
      subst e1
      exact hr _ _ _ hgr
/-- A row and a term are put in their place. -/
theorem Filled.put (h : Filled w base lo g1 g2 rows out dn us os hi) {i : Nat} (hi' : i < rows.length) {u : Value} {r : List Int} {o : Int} (hr : rows[i]? = some r) (ho : out[i]? = some o) (hu : OwnI w hi w.heap.size u r) :
    Filled ((w.setCell ⟨g1, i, none⟩ u).setCell ⟨g2, i, none⟩ (.int .i64 o)) base lo g1 g2 rows out (fun j => dn j || j == i) (us.set i u) (os.set i (.int .i64 o)) w.heap.size := by
  have h12 : g1 ≠ g2 := h.c1.ne h.c2 (by decide)
  have hl1 := h.l1
  have hl2 := h.l2
  have hold : ∀ (j : Nat) (x : Value) (y : List Int), dn j = true → us[j]? = some x → rows[j]? = some y → OwnI ((w.setCell ⟨g1, i, none⟩ u).setCell ⟨g2, i, none⟩ (.int .i64 o)) lo hi x y := fun j x y a b c => by
    have hI := h.row j x y a b c
    have e1 : x.ownBlock ≠ some g1 := fun e => by have := hI.range _ e; have := h.lo1; omega
    have e2 : x.ownBlock ≠ some g2 := fun e => by have := hI.range _ e; have := h.lo2; omega
    exact (hI.set (a := ⟨g1, i, none⟩) e1 u).set (a := ⟨g2, i, none⟩) e2 _
  have e1 : u.ownBlock ≠ some g1 := fun e => by have := hu.range _ e; have := h.lo1; have := h.hi1; omega
  have e2 : u.ownBlock ≠ some g2 := fun e => by have := hu.range _ e; have := h.lo2; have := h.hi1; omega
  have hnew : OwnI ((w.setCell ⟨g1, i, none⟩ u).setCell ⟨g2, i, none⟩ (.int .i64 o)) hi w.heap.size u r := (hu.set (a := ⟨g1, i, none⟩) e1 u).set (a := ⟨g2, i, none⟩) e2 _
  have hsz : ((w.setCell ⟨g1, i, none⟩ u).setCell ⟨g2, i, none⟩ (.int .i64 o)).heap.size = w.heap.size := by simp [World.setCell]
  have who : ∀ (j : Nat) (x : Value), (dn j || j == i) = true → (us.set i u)[j]? = some x → (j = i ∧ x = u) ∨ (j ≠ i ∧ dn j = true ∧ us[j]? = some x) := fun j x a b => by
    by_cases e : j = i
    · subst e
      rw [List.getElem?_set_self (by omega)] at b
      exact .inl ⟨rfl, (Option.some.inj b).symm⟩
    · rw [List.getElem?_set_ne (Ne.symm e)] at b
      have : (j == i) = false := by simpa using e
      rw [this, Bool.or_false] at a
      exact .inr ⟨e, a, b⟩
  refine ⟨(h.c1.set i u).other (Ne.symm h12) _, (h.c2.other h12 u).set i _, by simp [hl1], by simp [hl2], h.l3, h.b1, h.b2, h.lo1, h.lo2, Nat.le_trans h.hi1 h.hi2, by rw [hsz]; exact Nat.le_refl _, fun j x y a b c => ?_, fun j k x x' a a' b b' hjk => ?_, fun j x a b => ?_⟩
  · rcases who j x a b with ⟨rfl, rfl⟩ | ⟨e, a', b'⟩
    · rw [hr] at c
      cases c
      exact hnew.mono h.hi1 (Nat.le_refl _) (by rw [hsz]; exact Nat.le_refl _)
    · exact (hold j x y a' b' c).mono (Nat.le_refl _) h.hi2 (by rw [hsz]; exact Nat.le_refl _)
  · have blk : ∀ (j : Nat) (x : Value), dn j = true → us[j]? = some x → ∀ n, x.ownBlock = some n → n < hi := fun j x a b n hn => by
      have hj := (List.getElem?_eq_some_iff.1 b).1
      exact (h.row j x _ a b (List.getElem?_eq_getElem (by omega))).lt n hn
    rcases who j x a b with ⟨rfl, rfl⟩ | ⟨e, a1, b1⟩ <;> rcases who k x' a' b' with ⟨rfl, rfl⟩ | ⟨f, a2, b2⟩
    · exact absurd rfl hjk
    · cases hx : x.ownBlock with
      | none => exact .inl rfl
      | some n =>
        refine .inr fun e => ?_
        have := (hu.range n hx).1
        have := blk k x' a2 b2 n e.symm
        omega
    · cases hx : x.ownBlock with
      | none => exact .inl rfl
      | some n =>
        refine .inr fun e => ?_
        have := (hu.range n e.symm).1
        have := blk j x a1 b1 n hx
        omega
    · exact h.apart j k x x' a1 a2 b1 b2 hjk
  · by_cases e : j = i
    · subst e
      rw [ho] at b
      cases b
      rw [List.getElem?_set_self (by omega)]
    · have h1 : (j == i) = false := by simpa using e
      rw [h1, Bool.or_false] at a
      rw [List.getElem?_set_ne (Ne.symm e)]
      exact h.out j x a b
/-- All has come. -/
theorem Filled.whole {b : Int} (h : Filled w base lo g1 g2 rows out dn us os hi) (hd : ∀ i < rows.length, dn i = true) (hn : rows.length ≤ 1000000) :
    OwnS w base w.heap.size (.agg #[.int .i64 b, .slice (some ⟨g1, 0, none⟩) rows.length rows.length, .slice (some ⟨g2, 0, none⟩) rows.length rows.length]) b rows out := by
  have hos : os = out.map (Value.int .i64) := by
    refine List.ext_getElem? fun i => ?_
    have hl2 := h.l2
    have hl3 := h.l3
    by_cases hi' : i < rows.length
    · obtain ⟨o, ho⟩ : ∃ o, out[i]? = some o := ⟨_, List.getElem?_eq_getElem (by omega)⟩
      rw [h.out i o (hd i hi') ho, List.getElem?_map, ho]
      rfl
    · rw [List.getElem?_eq_none (by omega), List.getElem?_eq_none (by simp; omega)]
  have c2 := h.c2
  rw [hos] at c2
  have c1 : CellsN w g1 23 (us.map id) := by rw [List.map_id]; exact h.c1
  have t1 : Has id 23 w base (.slice (some ⟨g1, 0, none⟩) rows.length rows.length) us := c1.has (enc := id) h.l1 h.b1 hn
  have t2 : Has (Value.int .i64) 3 w base (.slice (some ⟨g2, 0, none⟩) rows.length rows.length) out := c2.has (enc := Value.int .i64) h.l3 h.b2 hn
  have hlo : base ≤ lo := Nat.le_of_lt (Nat.lt_of_le_of_lt h.b1 h.lo1)
  have hR : OwnRows w lo hi us rows := by
    refine ⟨h.l1, fun i u r hu hr => h.row i u r (hd i (List.getElem?_eq_some_iff.1 hr).1) hu hr, fun i j u u' hu hu' hij => ?_⟩
    have hl1 := h.l1
    have h1 := (List.getElem?_eq_some_iff.1 hu).1
    have h2 := (List.getElem?_eq_some_iff.1 hu').1
    exact h.apart i j u u' (hd i (by omega)) (hd j (by omega)) hu hu' hij
  refine ⟨_, _, us, rfl, ⟨t1, fun k hk => (t1.lt k hk).2, Nat.le_refl _, (hR.lower hlo).mono h.hi2 (Nat.le_refl _)⟩, ?_⟩
  have hO : OwnI w base lo (.slice (some ⟨g2, 0, none⟩) rows.length rows.length) out := ⟨t2, fun k hk => by
    have : g2 = k := by simpa [Value.ownBlock] using hk
    have := h.lo2
    omega, Nat.le_trans h.hi1 h.hi2⟩
  exact hR.snoc_apart hO (.inr (Nat.le_refl _)) hlo (Nat.le_refl _) h.hi2 (Nat.le_trans h.hi1 h.hi2) (Nat.le_refl _)
end
theorem made_nils (n : Nat) : madeCells (Value.slice none 0 0).cells (n * 1) = (List.replicate n (Value.slice none 0 0)).toArray := by
  apply Array.toList_inj.1
  rw [show (Value.slice none 0 0).cells = #[Value.slice none 0 0] from rfl, toList_madeCells_one, Nat.mul_one]
theorem made_ints (n : Nat) : madeCells (Value.int .i64 0).cells (n * 1) = (List.replicate n (Value.int .i64 0)).toArray := by
  apply Array.toList_inj.1
  rw [show (Value.int .i64 0).cells = #[Value.int .i64 0] from rfl, toList_madeCells_one, Nat.mul_one]
theorem run_make_rows (n : Nat) (hn : n ≤ 1000) (W : World) : (Instr.makeSlice 22 (.int .i64 (n : Int)) (.int .i64 (n : Int))).run Try.prog W = .ok (.slice (some ⟨W.heap.size, 0, none⟩) n n) (W.alloc (.cells (List.replicate n (Value.slice none 0 0)).toArray 23)) := by
  obtain ⟨i0, hi, hz0, hz1, hz2⟩ := info_parts infoR
  have h := run_make (P := Try.prog) W 22 23 i0 (.slice none 0 0) Try.underlying22 hi hz0 .i64 .i64 n n (by omega) (Int.le_refl _) (by rw [hz2]; omega) (by omega)
  simp only [Int.toNat_natCast] at h
  rw [h, hz1, made_nils]
theorem run_make_ints (n : Nat) (hn : n ≤ 1000) (W : World) : (Instr.makeSlice 23 (.int .i64 (n : Int)) (.int .i64 (n : Int))).run Try.prog W = .ok (.slice (some ⟨W.heap.size, 0, none⟩) n n) (W.alloc (.cells (List.replicate n (Value.int .i64 0)).toArray 3)) := by
  obtain ⟨i0, hi, hz0, hz1, hz2⟩ := info_parts Ints.infoI
  have h := run_make (P := Try.prog) W 23 3 i0 (.int .i64 0) Try.underlying23 hi hz0 .i64 .i64 n n (by omega) (Int.le_refl _) (by rw [hz2]; omega) (by omega)
  simp only [Int.toNat_natCast] at h
  rw [h, hz1, made_ints]
theorem merge_held {W w' : World} {B mb K : Nat} {x : Value} {ks : List (List Int)} (hc : W.cell? ⟨B, 0, none⟩ = some x) (hm : MapOf encK W mb ks) (hk : K = ks.length) (hb : Below W.heap.size W w') :
    w'.cell? ⟨B, 0, none⟩ = some x ∧ ∀ ty, (Builtin.len_ #[86] ty #[.map (some mb)]).run Try.prog w' = .ok (.int .i64 (K : Int)) w' :=
  ⟨old_cell hb hc, fun ty => by rw [hk]; exact (hm.below hb).len_ Try.underlying86 ty⟩
theorem cn_rep {w : World} {b n : Nat} {t : TypeId} {x : Value} (h : b = w.heap.size) : CellsN (w.alloc (.cells (Array.replicate n x) t)) b t (List.replicate n x) := by
  subst h
  have h1 := CellsN.new w t (List.replicate n x)
  have h2 : (List.replicate n x).toArray = Array.replicate n x := by simp
  rw [h2] at h1
  exact h1
theorem merge_meet {wx W1 : World} {s : Value} {p g1 g2 K : Nat} {bn : Int} (hs : s = .pointer (some ⟨p, 0, none⟩)) (h1 : Cells3 wx p 27 (.int .i64 bn) (.slice (some ⟨g1, 0, none⟩) K K) (.slice (some ⟨g2, 0, none⟩) K K))
    (h2 : CellsN wx g1 23 (List.replicate K (.slice none 0 0))) (h3 : CellsN wx g2 3 (List.replicate K (.int .i64 0))) (h4 : W1.heap.size ≤ p ∧ W1.heap.size ≤ g1 ∧ W1.heap.size ≤ g2) (h5 : Below W1.heap.size W1 wx) :
    ∃ p g1 g2 : Nat, s = .pointer (some ⟨p, 0, none⟩) ∧ Hid (Cells3 wx p 27 (.int .i64 bn) (.slice (some ⟨g1, 0, none⟩) K K) (.slice (some ⟨g2, 0, none⟩) K K)) ∧ Hid (CellsN wx g1 23 (List.replicate K (.slice none 0 0))) ∧ Hid (CellsN wx g2 3 (List.replicate K (.int .i64 0))) ∧ Hid (W1.heap.size ≤ p ∧ W1.heap.size ≤ g1 ∧ W1.heap.size ≤ g2) ∧ Hid (Below W1.heap.size W1 wx) :=
  ⟨p, g1, g2, hs, h1, h2, h3, h4, h5⟩
theorem RangeOf.left_eq {κ : Type} {enc : κ → Value} {w : World} {b r : Nat} {keys : List κ} {dn : Nat → Bool} {cnt : Nat} (h : RangeOf enc w b r keys dn cnt) : w.rangeLeft b r = cnt := by
  obtain ⟨es, clock, since, seen, c0, hb, H, hr, hold, rfl, _⟩ := h
  simp [World.rangeLeft, hb, hr]
theorem two_cells' {w w' : World} {a0 b0 a1 b1 : Nat} {u0 u1 : Value} (hb : Below w.heap.size w w') (h0 : w.cell? ⟨a0, b0, none⟩ = some u0) (h1 : w.cell? ⟨a1, b1, none⟩ = some u1) :
    w'.cell? ⟨a0, b0, none⟩ = some u0 ∧ w'.cell? ⟨a1, b1, none⟩ = some u1 := ⟨old_cell hb h0, old_cell hb h1⟩
theorem grown_set {w : World} {a : Addr} (v : Value) : w.grownBy (w.setCell a v) (some a.block) :=
  ⟨rfl, rfl, rfl, by simp [World.setCell], fun k _ hk => by
    have : a.block ≠ k := fun e => hk (by rw [e])
    simp [World.setCell, Array.getElem?_modify, this]⟩
/-- slices.Clone of a part of a key. -/
theorem clone_row {w : World} {kb : Nat} {l : List Value} (h : CellsN w kb 91 l) (r : List Int) (n : Nat) (hr : r.length = n) (h4 : n ≤ 4) (hl : ∀ (j : Nat) (x : Int), r[j]? = some x → l[1 + j]? = some (.int .i64 x)) :
    Calls Try.prog 87 #[.slice (some ⟨kb, 1, none⟩) n 4] w fun e w' => ∃ v', e = .returned v' ∧ Has (Value.int .i64) 3 w' w.heap.size v' r ∧ Below w.heap.size w w' := by
  subst hr
  refine (Try.slices_Clone_int kb 1 r.length 4 r w (Nat.le_refl _) (by omega) (fun j hj => ?_)).mono fun e w' ⟨v', he, ho, _, hb⟩ => ⟨v', he, ?_, hb⟩
  · have h1 : r[j]? = some r[j] := List.getElem?_eq_getElem hj
    rw [h.at_ (hl j _ h1), List.getD_eq_getElem?_getD, h1]
    rfl
  · show w'.ownsRow _ _ _ _ _ _
    rw [List.take_length] at ho
    exact ho
set_option maxHeartbeats 2000000 in
theorem merged_any (v : Value) (b : Int) (rows : List (List Int)) (out : List Int) (w : World) (h : LiesS w v b rows out) (hv : IsSeq b rows out) :
    Calls Try.prog 84 #[v] w (GivesS b (rowsQ rows out) (outQ rows out) w) := by
  have HS := Lib.hid h
  obtain ⟨an, cn, ao, co, rfl⟩ := h.form
  clear h
  have HB : Hid (Below w.heap.size w (w.alloc (Obj.cells #[Value.int .i64 b, Value.slice an rows.length cn, Value.slice ao out.length co] 27))) := (Below.refl _ _).alloc (Nat.le_refl _) _
  have HC := Lib.hid (Cells3.new w 27 (.int .i64 b) (.slice an rows.length cn) (.slice ao out.length co))
  have HV := Lib.hid hv
  obtain ⟨bn, rfl⟩ : ∃ bn : Nat, b = (bn : Int) := ⟨b.toNat, by have := hv.1; omega⟩
  have hb2 : 2 ≤ bn := by have := hv.1; omega
  have hb4 : bn ≤ 4 := by have := hv.2.1; omega
  have hn16 : rows.length ≤ 16 := hv.2.2.2.1
  clear hv
  have HB1 := Lib.hid (HB.out.alloc (by simp) (Obj.cells #[Value.int .i64 0, Value.slice none 0 0, Value.slice none 0 0] 27))
  have HC1 := Lib.hid (HC.out.alloc (Obj.cells #[Value.int .i64 0, Value.slice none 0 0, Value.slice none 0 0] 27))
  have hZ := Cells3.new (w.alloc (Obj.cells #[Value.int .i64 (bn : Int), Value.slice an rows.length cn, Value.slice ao out.length co] 27)) 27 (.int .i64 0) (.slice none 0 0) (.slice none 0 0)
  rw [size_alloc'] at hZ
  have HZ1 := Lib.hid hZ
  have k0 := HC1.out.c0
  have k1 := HC1.out.c1
  have k2 := HC1.out.c2
  clear hZ HB HC
  go_enter Try.func84, Try.ntmps84
  go_wp2_with fail
  refine (classes_any _ _ rows out _ (HS.out.below HB1.out) HV.out).mono ?_
  rintro e W1 ⟨vc, mb, rfl, hvc, hm, hmb, b1⟩
  have HB2 := Lib.hid (HB1.out.trans (b1.mono HB1.out.size))
  have HC2 := Lib.hid (HC1.out.below b1)
  have HZ2 := Lib.hid (HZ1.out.below b1)
  have HS2 : Hid (w.heap.size + 2 ≤ W1.heap.size) := by have := HZ2.out.lt; show _ ≤ _; omega
  obtain ⟨ks, hks⟩ : ∃ ks, ks = keysQ rows out := ⟨_, rfl⟩
  have HKS := Lib.hid hks
  rw [← hks] at hm
  have HM := Lib.hid hm
  have hkl : ks.length ≤ 16 := by rw [hks]; have := keysQ_len rows out; omega
  obtain ⟨K, hK⟩ : ∃ K, K = ks.length := ⟨_, rfl⟩
  have HK := Lib.hid hK
  rw [← hK] at hkl
  have hL : Hid (∀ ty, (Builtin.len_ #[86] ty #[.map (some mb)]).run Try.prog W1 = .ok (.int .i64 (K : Int)) W1) := fun ty => by rw [hK]; exact hm.len_ Try.underlying86 ty
  have hmR := run_make_rows K (by omega)
  have hmI := run_make_ints K (by omega)
  clear hvc hm b1 hks hK HB1 HC1 HZ1 k0 k1 k2
  have k0 := HC2.out.c0
  have k1 := HC2.out.c1
  have k2 := HC2.out.c2
  go_wp2_with fail
  go_cut [5] (fun s wx => ∃ p g1 g2 : Nat, s = .pointer (some ⟨p, 0, none⟩) ∧ Hid (Cells3 wx p 27 (.int .i64 (bn : Int)) (.slice (some ⟨g1, 0, none⟩) K K) (.slice (some ⟨g2, 0, none⟩) K K)) ∧ Hid (CellsN wx g1 23 (List.replicate K (.slice none 0 0))) ∧ Hid (CellsN wx g2 3 (List.replicate K (.int .i64 0))) ∧ Hid (W1.heap.size ≤ p ∧ W1.heap.size ≤ g1 ∧ W1.heap.size ≤ g2) ∧ Hid (Below W1.heap.size W1 wx))
  case first =>
    go_region_held3 (fun w' => w'.cell? ⟨w.heap.size, 0, none⟩ = some (.int .i64 (bn : Int)) ∧ ∀ ty, (Builtin.len_ #[86] ty #[.map (some mb)]).run Try.prog w' = .ok (.int .i64 (K : Int)) w')
      ((refine merge_held HC2.out.c0 HM.out HK.out ?_; repeat (first | with_reducible exact Below.refl _ _ | with_reducible apply Below.drew | with_reducible apply below_allocs)))
      (fail)
    all_goals
      go_wp2_with fail
      go_meet
      apply merge_meet (hs := rfl)
      case h1 => repeat (first | with_reducible apply c3_drew | ((with_reducible refine c3_new' ?_) <;> (first | rfl | (simp; done) | omega)) | with_reducible apply Cells3.alloc)
      case h2 => repeat (first | with_reducible apply CellsN.drew | ((with_reducible refine cn_rep ?_) <;> (first | rfl | (simp; done) | omega)) | with_reducible apply CellsN.alloc)
      case h3 => repeat (first | with_reducible apply CellsN.drew | ((with_reducible refine cn_rep ?_) <;> (first | rfl | (simp; done) | omega)) | with_reducible apply CellsN.alloc)
      case h4 => refine ⟨?_, ?_, ?_⟩ <;> (first | exact Nat.le_refl _ | (simp; done) | omega)
      case h5 => repeat (first | with_reducible exact Below.refl _ _ | with_reducible apply Below.drew | with_reducible apply below_allocs)
  case rest =>
    obtain ⟨p, g1, g2, rfl, hM3, hG1, hG2, hge, hB⟩ := hcut
    obtain ⟨W2, rfl⟩ : ∃ W, W = wc := ⟨_, rfl⟩
    have hB2 := Lib.hid (HB2.out.trans (hB.out.mono HB2.out.size))
    have hC2 := Lib.hid (HC2.out.below hB.out)
    have hZ2 := Lib.hid (HZ2.out.below hB.out)
    have hMP := Lib.hid (HM.out.below hB.out)
    have HG := Lib.hid (show g1 < W2.heap.size ∧ g2 < W2.heap.size from ⟨hG1.out.lt, hG2.out.lt⟩)
    have HRL : Hid ((rowsQ rows out).length = K ∧ (outQ rows out).length = K) := by show _ ∧ _; rw [HK.out, HKS.out]; simp [rowsQ, outQ]
    have HKOK : Hid (∀ i x, ks[i]? = some x → OkK (bn + 1) x ∧ (rowsQ rows out)[i]? = some x.tail ∧ (outQ rows out)[i]? = some (x.headD 0)) := fun i x hx => by
      rw [HKS.out] at hx
      obtain ⟨s, hs, hxs⟩ := keysQ_mem (List.mem_of_getElem? hx)
      refine ⟨?_, by rw [rowsQ, List.getElem?_map, hx]; rfl, by rw [outQ, List.getElem?_map, hx]; rfl⟩
      rw [hxs]
      have h1 := keyC_ok HV.out (cls := classes rows out) (fun y hy => by
        have h2 := clsR_bd HV.out (rows.length + 1) y hy
        exact h2) hs
      rw [Int.toNat_natCast] at h1
      exact h1
    clear HB2 HC2 HZ2 HM hL hmR hmI k0 k1 k2 hB
    go_wp2_with (at_range; refine wpList_range_k _ rfl _ 86 rfl Try.underlying86 rfl hMP.out ?_; intro w3 hrg hg3 hsz3)
    go_frame
    have hb3 := below_of_grown hg3
    have hF3 : Hid (Filled w3 W1.heap.size w3.heap.size g1 g2 (rowsQ rows out) (outQ rows out) (fun _ => false) (List.replicate K (.slice none 0 0)) (List.replicate K (.int .i64 0)) w3.heap.size) :=
      ⟨hG1.out.below hb3, hG2.out.below hb3, by rw [List.length_replicate, HRL.out.1], by rw [List.length_replicate, HRL.out.1], by rw [HRL.out.1, HRL.out.2], hge.out.2.1, hge.out.2.2, by have := HG.out.1; omega, by have := HG.out.2; omega, Nat.le_refl _, Nat.le_refl _, fun i u r h => by simp at h, fun i j u u' h => by simp at h, fun i o h => by simp at h⟩
    have hM4 := Lib.hid (hM3.out.below hb3)
    have hC4 := Lib.hid (hC2.out.below hb3)
    have hZ4 := Lib.hid (hZ2.out.below hb3)
    have hB4 := Lib.hid (hB2.out.trans (hb3.mono hB2.out.size))
    have hrg' := Lib.hid hrg
    have HRB := Lib.hid hB2.out.size
    obtain ⟨r, hr⟩ : ∃ r, r = W2.heap.size := ⟨_, rfl⟩
    rw [← hr] at hrg' HRB ⊢
    obtain ⟨L, hL⟩ : ∃ L, L = w3.heap.size := ⟨_, rfl⟩
    rw [← hL] at hF3
    have HZW : Hid (w.heap.size + 2 ≤ W1.heap.size) := HS2
    clear hrg hg3 hsz3 hb3 hM3 hC2 hZ2 hB2 hr hL hG1 hG2 hMP
    obtain ⟨ky, hky⟩ : ∃ x : Nat, x = 0 := ⟨0, rfl⟩
    clear hky ky
    go_loopw [7] (fun _ wr => ∃ (dn : Nat → Bool) (cnt : Nat) (us os : List Value) (hi : Nat), Hid (RangeOf encK wr mb r ks dn cnt) ∧ Hid (Filled wr W1.heap.size L g1 g2 (rowsQ rows out) (outQ rows out) dn us os hi) ∧ Hid (Cells3 wr p 27 (.int .i64 (bn : Int)) (.slice (some ⟨g1, 0, none⟩) K K) (.slice (some ⟨g2, 0, none⟩) K K)) ∧ Hid (Cells3 wr w.heap.size 27 (.int .i64 (bn : Int)) (.slice an rows.length cn) (.slice ao out.length co)) ∧ Hid (Cells3 wr (w.heap.size + 1) 27 (.int .i64 0) (.slice none 0 0) (.slice none 0 0)) ∧ Hid (Below w.heap.size w wr)) (fun _ wr => wr.rangeLeft mb r)
    case atStart => exact ⟨_, _, _, _, _, hrg', hF3, hM4, hC4, hZ4, hB4⟩
    case round =>
      clear hrg' hF3 hM4 hC4 hZ4 hB4
      obtain ⟨dn, cnt, us, os, hi, hRG, hF, hM, hC, hZ, hB⟩ := hrel
      have HLE := Lib.hid (RangeOf.left_eq hRG.out)
      go_wp2_with (at_next; refine wpList_next_k _ rfl _ rfl rfl hRG.out ?_ ?_)
      · intro h0 hall
        have HALL : Hid (∀ i < (rowsQ rows out).length, dn i = true) := fun i hi => hall i (by rw [HRL.out.1, HK.out] at hi; exact hi)
        have HW := Lib.hid (hF.out.whole (b := (bn : Int)) HALL.out (by rw [HRL.out.1]; omega))
        rw [HRL.out.1] at HW
        clear h0 hall
        have m0 := hM.out.c0
        have m1 := hM.out.c1
        have m2 := hM.out.c2
        have z0 := hZ.out.c0
        have z1 := hZ.out.c1
        have z2 := hZ.out.c2
        have z3 := hZ.out.f
        go_wp2
        have hZ3 := (((hZ.out.set0 (.int .i64 (bn : Int))).set1 (.slice (some ⟨g1, 0, none⟩) K K)).set2 (.slice (some ⟨g2, 0, none⟩) K K))
        have n0 := hZ3.c0
        have n1 := hZ3.c1
        have n2 := hZ3.c2
        refine bodyPost_ret (v := .agg #[.int .i64 (bn : Int), .slice (some ⟨g1, 0, none⟩) K K, .slice (some ⟨g2, 0, none⟩) K K]) (by simp [results, Try.results84, go_sem, n0, n1, n2]) rfl ⟨_, rfl, ?_, ?_⟩
        · have T0 : Plain.Touch w.heap.size (w.heap.size + 2) wr (((wr.setCell ⟨w.heap.size + 1, 0, none⟩ (.int .i64 (bn : Int))).setCell ⟨w.heap.size + 1, 1, none⟩ (.slice (some ⟨g1, 0, none⟩) K K)).setCell ⟨w.heap.size + 1, 2, none⟩ (.slice (some ⟨g2, 0, none⟩) K K)) :=
            ((Plain.Touch.of_set _ (by show _ ≤ _ + 1; omega) (by show _ + 1 < _; omega)).trans (Plain.Touch.of_set _ (by show _ ≤ _ + 1; omega) (by show _ + 1 < _; omega))).trans (Plain.Touch.of_set _ (by show _ ≤ _ + 1; omega) (by show _ + 1 < _; omega))
          have := (HW.out.touch T0 (.inr HZW.out)).lower (show w.heap.size ≤ W1.heap.size by have := HZW.out; omega)
          simpa only [size_setCell'] using this
        · exact ((hB.out.setCell (by show _ ≤ _ + 1; omega) _).setCell (by show _ ≤ _ + 1; omega) _).setCell (by show _ ≤ _ + 1; omega) _
      · intro i x w1 cnt1 hx hdi hrg1 hlt hg1' hsz1 hen
        obtain ⟨hxo, hxr, hxq⟩ := HKOK.out i x hx
        obtain ⟨o, y, rfl⟩ : ∃ o y, x = o :: y := by
          cases x with
          | nil => have := hxo.1; simp at this
          | cons o y => exact ⟨o, y, rfl⟩
        have hyl : y.length = bn := by have := hxo.1; simp at this; omega
        have hik : i < K := by rw [HK.out]; exact (List.getElem?_eq_some_iff.1 hx).1
        obtain ⟨v1, v2, v3, v4, hek⟩ : ∃ v1 v2 v3 v4 : Int, encK (o :: y) = .agg #[.int .i64 o, .int .i64 v1, .int .i64 v2, .int .i64 v3, .int .i64 v4] ∧ ∀ (j : Nat) (z : Int), y[j]? = some z → [Value.int .i64 o, .int .i64 v1, .int .i64 v2, .int .i64 v3, .int .i64 v4][1 + j]? = some (.int .i64 z) := by
          refine ⟨_, _, _, _, rfl, fun j z hz => ?_⟩
          have hj := (List.getElem?_eq_some_iff.1 hz).1
          have h1 : (o :: y).getD (1 + j) 0 = z := by rw [Nat.add_comm, List.getD_eq_getElem?_getD, List.getElem?_cons_succ, hz]; rfl
          have : j = 0 ∨ j = 1 ∨ j = 2 ∨ j = 3 := by omega
          rcases this with rfl | rfl | rfl | rfl <;> (simp only [List.getElem?_cons_succ, List.getElem?_cons_zero]; rw [← h1])
        rw [hek.1] at hen ⊢
        have HEK := Lib.hid hek.2
        have HYL := Lib.hid hyl
        have HXR := Lib.hid hxr
        have HXQ := Lib.hid hxq
        have HRG1 := Lib.hid hrg1
        have HLT := Lib.hid hlt
        have nr : ∀ {g : Nat} {cs : Array Value} {t : TypeId} {fz : Nat × Nat}, wr.heap[g]? = some (.cells cs t fz) → g ≠ r := fun h => (hRG.out.ne_cells h).2
        have hF1 := Lib.hid (hF.out.other hg1' (fun cs t fz h => nr h rfl))
        have hM1 := Lib.hid (hM.out.grown hg1' (fun e => nr hM.out.row (Option.some.inj e).symm))
        have hC1 := Lib.hid (hC.out.grown hg1' (fun e => nr hC.out.row (Option.some.inj e).symm))
        have hZ1 := Lib.hid (hZ.out.grown hg1' (fun e => nr hZ.out.row (Option.some.inj e).symm))
        have hrb : w.heap.size ≤ r := HRB.out
        have hB1 := Lib.hid (hB.out.grown hg1' hB.out.size (fun k hk => by cases hk; exact hrb))
        have hBk : Below w1.heap.size w1 (w1.alloc (Obj.cells #[Value.int .i64 o, Value.int .i64 v1, Value.int .i64 v2, Value.int .i64 v3, Value.int .i64 v4] 91)) := (Below.refl _ _).alloc (Nat.le_refl _) _
        have hKC : CellsN (w1.alloc (Obj.cells #[Value.int .i64 o, Value.int .i64 v1, Value.int .i64 v2, Value.int .i64 v3, Value.int .i64 v4] 91)) w1.heap.size 91 [Value.int .i64 o, Value.int .i64 v1, Value.int .i64 v2, Value.int .i64 v3, Value.int .i64 v4] := CellsN.new w1 91 _
        have HKC := Lib.hid hKC
        have HRG2 := Lib.hid (HRG1.out.below hBk)
        have hF2 := Lib.hid (hF1.out.below hBk)
        have hM2 := Lib.hid (hM1.out.below hBk)
        have hC2 := Lib.hid (hC1.out.below hBk)
        have hZ2 := Lib.hid (hZ1.out.below hBk)
        have hB2 := Lib.hid (hB1.out.trans (hBk.mono hB1.out.size))
        have HW1 : Hid (∃ kb, kb = w1.heap.size) := ⟨_, rfl⟩
        have hMk := hM2.out.c1
        have hik0 : (i : Int) < (K : Int) := by omega
        have hii0 : (0 : Int) ≤ (i : Int) := Int.natCast_nonneg _
        have hbn0 : (0 : Int) ≤ (bn : Int) := Int.natCast_nonneg _
        have hbn4 : (bn : Int) ≤ 4 := by omega
        obtain ⟨z, hz⟩ : ∃ z, us[i]? = some z := ⟨_, List.getElem?_eq_getElem (by have := hF.out.l1; have := HRL.out.1; omega)⟩
        have HUZ := Lib.hid hz
        clear hx hxo hxr hxq hek hyl hrg1 hlt hg1' hsz1 hBk hKC nr hz hF hM hC hZ hB hF1 hM1 hC1 hZ1 hB1 HRG1 hRG
        go_wp2_with fail
        obtain ⟨kb, hkb⟩ : ∃ kb, kb = w1.heap.size := ⟨_, rfl⟩
        obtain ⟨W5, hW5⟩ : ∃ W, W = w1.alloc (Obj.cells #[Value.int .i64 o, Value.int .i64 v1, Value.int .i64 v2, Value.int .i64 v3, Value.int .i64 v4] 91) := ⟨_, rfl⟩
        rw [← hW5] at HKC HRG2 hF2 hM2 hC2 hZ2 hB2 hMk ⊢
        rw [← hkb] at HKC ⊢
        clear hW5 hkb HW1
        have HCL := Lib.hid (fun (W : World) (hW : Below W5.heap.size W5 W) => clone_row (HKC.out.below hW) y bn HYL.out hb4 HEK.out)
        have c0 := hC2.out.c0
        have HNE := Lib.hid (show g1 ≠ p ∧ g1 ≠ w.heap.size from ⟨hF2.out.c1.ne3 hM2.out (by decide), hF2.out.c1.ne3 hC2.out (by decide)⟩)
        go_region_held3 (fun w' => w'.cell? ⟨p, 1, none⟩ = some (.slice (some ⟨g1, 0, none⟩) K K) ∧ w'.cell? ⟨w.heap.size, 0, none⟩ = some (.int .i64 (bn : Int)))
          (first | exact two_cells' ((below_drew' W5).trans bcl) hMk c0 | exact ⟨((hM2.out.below ((below_drew' W5).trans bcl)).other (a := ⟨g1, i, none⟩) HNE.out.1 _).c1, ((hC2.out.below ((below_drew' W5).trans bcl)).other (a := ⟨g1, i, none⟩) HNE.out.2 _).c0⟩ | (refine two_cells' ?_ hMk c0; repeat (first | with_reducible exact Below.refl _ _ | with_reducible apply Below.drew)))
          ((go_at_call 87; refine (HCL.out _ (by repeat (first | with_reducible exact Below.refl _ _ | with_reducible apply Below.drew))).mono ?_; rintro e wc ⟨vcl, rfl, hcl, bcl⟩; obtain ⟨va, vp, rfl, _⟩ := hcl.form; have hFc := hF2.out.below ((below_drew' W5).trans bcl); have q1 := hFc.c1.at_ HUZ.out; have q2 := hFc.c1.f i))
        all_goals
          have hb5 := (below_drew' W5).trans bcl
          have hu : OwnI wc hi wc.heap.size (.slice va y.length vp) y := ⟨hcl.mono hF2.out.hi2, fun k hk => (hcl.lt k hk).2, Nat.le_refl _⟩
          have HP := Lib.hid (hFc.put (by rw [HRL.out.1]; exact hik) HXR.out HXQ.out hu)
          have g12 : g1 ≠ g2 := hFc.c1.ne hFc.c2 (by decide)
          have gk1 : g1 ≠ kb := hF2.out.c1.ne HKC.out (by decide)
          have gp1 : g1 ≠ p := HNE.out.1
          have gp2 : g2 ≠ p := hF2.out.c2.ne3 hM2.out (by decide)
          have gc1 : g1 ≠ w.heap.size := HNE.out.2
          have gc2 : g2 ≠ w.heap.size := hF2.out.c2.ne3 hC2.out (by decide)
          have gz1 : g1 ≠ w.heap.size + 1 := hF2.out.c1.ne3 hZ2.out (by decide)
          have gz2 : g2 ≠ w.heap.size + 1 := hF2.out.c2.ne3 hZ2.out (by decide)
          have gb1 : w.heap.size ≤ g1 := by have := hFc.b1; have := HZW.out; omega
          have gb2 : w.heap.size ≤ g2 := by have := hFc.b2; have := HZW.out; omega
          have hR5 := HRG2.out.below hb5
          have gm1 := hR5.ne_cells hFc.c1.row
          have gm2 := hR5.ne_cells hFc.c2.row
          have hR6 := (hR5.grown (grown_set (a := ⟨g1, i, none⟩) (.slice va y.length vp)) (fun e => gm1.1 (Option.some.inj e)) (fun e => gm1.2 (Option.some.inj e))).grown (grown_set (a := ⟨g2, i, none⟩) (.int .i64 o)) (fun e => gm2.1 (Option.some.inj e)) (fun e => gm2.2 (Option.some.inj e))
          have HR6 := Lib.hid hR6
          have hM5 := (hM2.out.below hb5).other (a := ⟨g1, i, none⟩) gp1 (.slice va y.length vp)
          have hC5 := (hC2.out.below hb5).other (a := ⟨g1, i, none⟩) gc1 (.slice va y.length vp)
          have hZ5 := (hZ2.out.below hb5).other (a := ⟨g1, i, none⟩) gz1 (.slice va y.length vp)
          have hK5 := (HKC.out.below hb5).other (a := ⟨g1, i, none⟩) gk1 (.slice va y.length vp)
          have hO5 := hFc.c2.other (a := ⟨g1, i, none⟩) g12 (.slice va y.length vp)
          obtain ⟨zo, hzo⟩ : ∃ z, os[i]? = some z := ⟨_, List.getElem?_eq_getElem (by have := hFc.l2; have := HRL.out.1; omega)⟩
          have j2 := hM5.c2
          have jk := hK5.at_ (i := 0) rfl
          have jo := hO5.at_ hzo
          have jf := hO5.f i
          have HM6 := Lib.hid (hM5.other (a := ⟨g2, i, none⟩) gp2 (.int .i64 o))
          have HC6 := Lib.hid (hC5.other (a := ⟨g2, i, none⟩) gc2 (.int .i64 o))
          have HZ6 := Lib.hid (hZ5.other (a := ⟨g2, i, none⟩) gz2 (.int .i64 o))
          have HB6 : Hid (Below w.heap.size w ((wc.setCell ⟨g1, i, none⟩ (.slice va y.length vp)).setCell ⟨g2, i, none⟩ (.int .i64 o))) := ((hB2.out.trans (hb5.mono hB2.out.size)).setCell gb1 _).setCell gb2 _
          clear hb5 hu hR5 hR6 hM5 hC5 hZ5 hK5 hO5 hzo hFc hcl bcl q1 q2 c0 hMk HCL gm1 gm2
          go_wp2
          go_roundw
          case rel => exact ⟨_, cnt1, _, _, wc.heap.size, HR6, HP, HM6, HC6, HZ6, HB6⟩
          case measure => rw [RangeOf.left_eq HR6.out, HLE.out]; exact HLT.out
end Mins
end Go.Proofs.Ythnmighlgifoeaa
