/- Contracts of SubTerms, of the program and of the model. No conditions beyond those that each states. -/
import Derived.Test.YthnmighlgifoeaaSame
import Derived.Test.YthnmighlgifoeaaMinS
import Derived.Test.YthnmighlgifoeaaOwnW
import Derived.Test.YthnmighlgifoeaaSeqCopyS
namespace Go.Proofs.Ythnmighlgifoeaa
open Go.ChangeShapes Go.WideShapes Go.ChangeAt Go.RowKit
open Go.PlainAid Plain
set_option linter.unusedVariables false
namespace Kern
open Seqs Mins
theorem old_cellC {w w' : World} {p o : Nat} {u : Value} (hb : Below w.heap.size w w') (h : w.cell? ⟨p, o, none⟩ = some u) : w'.cell? ⟨p, o, none⟩ = some u := (hb.cell (p := ⟨p, o, none⟩) (World.block_lt_of_cell? w _ h)).trans h
/-- What the cells of a sequence that lies say of one step. -/
theorem step_cells {w : World} {b : Int} {rows : List (List Int)} {out : List Int} {an ao : Option Addr} {cn co : Nat} (h : LiesS w (.agg #[.int .i64 b, .slice an rows.length cn, .slice ao out.length co]) b rows out) (hv : IsSeq b rows out) {x : Nat} (hx : x < rows.length) {d : Nat} (hd : (d : Int) < b) :
    ∃ p o q t c n, an = some ⟨p, o, none⟩ ∧ w.cell? ⟨p, o + x, none⟩ = some (.slice (some ⟨q, t, none⟩) n c) ∧ d < n ∧ w.cell? ⟨q, t + d, none⟩ = some (.int .i64 (nextS rows x d)) := by
  obtain ⟨r, hr⟩ : ∃ r, rows[x]? = some r := ⟨_, List.getElem?_eq_getElem hx⟩
  have hl := (hv.2.2.2.2.2.1 r (List.mem_of_getElem? hr)).1
  obtain ⟨p, o, a', ca', rfl, hu, hc⟩ := h.cells.1 x r hr
  obtain ⟨y, hy⟩ : ∃ y, r[d]? = some y := ⟨_, List.getElem?_eq_getElem (by omega)⟩
  obtain ⟨q, t, rfl, hcy⟩ := hc d y hy
  refine ⟨p, o, q, t, ca', r.length, rfl, hu, by omega, ?_⟩
  rw [hcy]
  have e : nextS rows (x : Int) (d : Int) = y := by
    unfold nextS
    rw [Int.toNat_natCast, Int.toNat_natCast, List.getD_eq_getElem?_getD (l := rows), hr, Option.getD_some, List.getD_eq_getElem?_getD, hy]
    rfl
  rw [e]
def subX (R : List (List Int)) (O : List Int) (r : Int) (i : Nat) : Int := O.getD (nextS R i r).toNat 0
def subP (R : List (List Int)) (O : List Int) (r : Int) (i : Nat) : List Int := (List.range i).map (subX R O r)
def subT (R : List (List Int)) (O : List Int) (r : Int) : List Int := subP R O r R.length
def subOK (b : Int) (rows : List (List Int)) (out : List Int) (r : Int) : Bool := formK b rows out && decide (0 ≤ r ∧ r < b)
def subE (b : Int) (rows : List (List Int)) (out : List Int) (r : Int) : List Int := subT (formR b rows out) (formO b rows out) r
def subK (b : Int) (rows : List (List Int)) (out : List Int) (r : Int) : Bool := subOK b rows out r && formK (formB b rows out) (formR b rows out) (subE b rows out r)
def subB (b : Int) (rows : List (List Int)) (out : List Int) (r : Int) : Int := if subOK b rows out r = true then formB (formB b rows out) (formR b rows out) (subE b rows out r) else 0
def subR (b : Int) (rows : List (List Int)) (out : List Int) (r : Int) : List (List Int) := if subOK b rows out r = true then minRV (formB b rows out) (formR b rows out) (subE b rows out r) else []
def subO (b : Int) (rows : List (List Int)) (out : List Int) (r : Int) : List Int := if subOK b rows out r = true then minOV (formB b rows out) (formR b rows out) (subE b rows out r) else []
theorem sub_no {b : Int} {rows : List (List Int)} {out : List Int} {r : Int} (h : subOK b rows out r = false) : subB b rows out r = 0 ∧ subR b rows out r = [] ∧ subO b rows out r = [] ∧ subK b rows out r = false := by
  unfold subB subR subO subK
  rw [h]
  simp
theorem sub_yes {b : Int} {rows : List (List Int)} {out : List Int} {r : Int} (h : subOK b rows out r = true) : subB b rows out r = formB (formB b rows out) (formR b rows out) (subE b rows out r) ∧ subR b rows out r = minRV (formB b rows out) (formR b rows out) (subE b rows out r) ∧ subO b rows out r = minOV (formB b rows out) (formR b rows out) (subE b rows out r) ∧ subK b rows out r = formK (formB b rows out) (formR b rows out) (subE b rows out r) := by
  unfold subB subR subO subK
  rw [h]
  simp
theorem sub_parts {b : Int} {rows : List (List Int)} {out : List Int} {r : Int} (h : subOK b rows out r = true) : formK b rows out = true ∧ 0 ≤ r ∧ r < b := by
  rw [subOK, Bool.and_eq_true, decide_eq_true_eq] at h
  exact h
theorem sub_out {b : Int} {rows : List (List Int)} {out : List Int} {r : Int} (h : subOK b rows out r = false) : formK b rows out = false ∨ (formK b rows out = true ∧ r < 0) ∨ (formK b rows out = true ∧ ¬ r < 0 ∧ b ≤ r) := by
  cases hk : formK b rows out with
  | false => exact .inl rfl
  | true =>
    rw [subOK, hk, Bool.true_and, decide_eq_false_iff_not] at h
    by_cases h0 : r < 0
    · exact .inr (.inl ⟨rfl, h0⟩)
    · exact .inr (.inr ⟨rfl, h0, by omega⟩)
theorem subP_len (R : List (List Int)) (O : List Int) (r : Int) (i : Nat) : (subP R O r i).length = i := by simp [subP]
theorem subP_succ (R : List (List Int)) (O : List Int) (r : Int) (i : Nat) : subP R O r (i + 1) = subP R O r i ++ [subX R O r i] := by simp [subP, List.range_succ]
theorem sub_size (b : Int) (rows : List (List Int)) (out : List Int) (r : Int) : tot (subR b rows out r) + (subO b rows out r).length ≤ 1000 := by
  unfold subR subO
  split
  · exact min_size
  · simp [tot]
theorem subP_set (R : List (List Int)) (O : List Int) (r : Int) (i n : Nat) (L : List Int) (hL : L.length = n) (h : i < n) : ((subP R O r i ++ L.drop i).map (Value.int .i64)).set i (.int .i64 (subX R O r i)) = (subP R O r (i + 1) ++ L.drop (i + 1)).map (Value.int .i64) := by
  rw [← List.map_set, List.set_append_right _ _ (by rw [subP_len]; omega), subP_len, Nat.sub_self, List.drop_eq_getElem_cons (by omega), List.set_cons_zero, subP_succ, List.append_assoc]
  rfl
theorem lies_of_parts {w : World} {b : Int} {rows : List (List Int)} {out ts : List Int} {vn vo vt : Value} (h : LiesS w (.agg #[.int .i64 b, vn, vo]) b rows out) (ht : Lies (Value.int .i64) w vt ts) : LiesS w (.agg #[.int .i64 b, vn, vt]) b rows ts := by
  obtain ⟨vn', vo', hv, h1, h2⟩ := h
  simp at hv
  obtain ⟨rfl, rfl⟩ := hv
  exact ⟨_, _, rfl, h1, ht⟩
set_option maxRecDepth 100000 in
set_option maxHeartbeats 2000000 in
theorem impl_sub_no (v : Value) (b : Int) (rows : List (List Int)) (out : List Int) (w : World) (h : LiesS w v b rows out) (r : Int) (hs : rows.length + tot rows + out.length ≤ 1048576) (hno : subOK b rows out r = false) :
    Calls Try.prog 25 #[v, .int .i64 r] w (GivesK 0 [] [] false w) := by
  have HS := Lib.hid h
  obtain ⟨an, cn, ao, co, rfl⟩ := h.form
  clear h
  have HB : Hid (Below w.heap.size w (w.alloc (Obj.cells #[Value.int .i64 b, Value.slice an rows.length cn, Value.slice ao out.length co] 27))) := (Below.refl _ _).alloc (Nat.le_refl _) _
  have HC := Lib.hid (Cells3.new w 27 (.int .i64 b) (.slice an rows.length cn) (.slice ao out.length co))
  have HB1 := Lib.hid (HB.out.alloc (by simp only [size_alloc'] <;> omega) (Obj.cells #[Value.int .i64 0, Value.slice none 0 0, Value.slice none 0 0] 27))
  have HC1 := Lib.hid (HC.out.alloc (Obj.cells #[Value.int .i64 0, Value.slice none 0 0, Value.slice none 0 0] 27))
  have hZ := Cells3.new (w.alloc (Obj.cells #[Value.int .i64 b, Value.slice an rows.length cn, Value.slice ao out.length co] 27)) 27 (.int .i64 0) (.slice none 0 0) (.slice none 0 0)
  rw [size_alloc'] at hZ
  have HZ1 := Lib.hid hZ
  have HSZ := Lib.hid hs
  clear hZ HB HC hs
  have k0 := HC1.out.c0
  have k1 := HC1.out.c1
  have k2 := HC1.out.c2
  have HCF := Lib.hid (fun (W : World) (hW : Below w.heap.size w W) => impl_form _ b rows out W (HS.out.below hW) HSZ.out)
  obtain ⟨B, hBB⟩ : ∃ B, B = formB b rows out := ⟨_, rfl⟩
  obtain ⟨RR, hRR⟩ : ∃ R, R = formR b rows out := ⟨_, rfl⟩
  obtain ⟨OO, hOO⟩ : ∃ O, O = formO b rows out := ⟨_, rfl⟩
  rw [← hBB, ← hRR, ← hOO] at HCF
  clear hBB hRR hOO
  rcases sub_out hno with hk | ⟨hk, h0⟩ | ⟨hk, h0, h1⟩
  · rw [hk] at HCF
    clear hno hk
    go_enter Try.func25, Try.ntmps25
    go_wp2_with fail
    refine (HCF.out _ HB1.out).mono ?_
    rintro e W1 ⟨v1, rfl, hv1, b1⟩
    obtain ⟨a1, c1, a2, c2, rfl⟩ := hv1.form
    have hbx : Below W1.heap.size W1 (W1.alloc (.cells #[.int .i64 B, .slice a1 RR.length c1, .slice a2 OO.length c2] 27)) := (Below.refl _ _).alloc (Nat.le_refl _) _
    have HB2 := Lib.hid (HB1.out.trans (b1.mono HB1.out.size))
    have HB3 := Lib.hid (HB2.out.trans (hbx.mono HB2.out.size))
    have HC3 := Lib.hid ((HC1.out.below b1).below hbx)
    have HZ3 := Lib.hid ((HZ1.out.below b1).below hbx)
    have HX3 := Lib.hid (Cells3.new W1 27 (.int .i64 B) (.slice a1 RR.length c1) (.slice a2 OO.length c2))
    have HL3 := Lib.hid (hv1.lies.below hbx)
    have HN3 := Lib.hid (show w.heap.size + 1 < W1.heap.size from (HZ1.out.below b1).lt)
    clear hv1 b1 k0 k1 k2 HB1 HC1 HZ1 HB2 hbx
    have HZR := HZ3
    have HBR := HB3
    have k0 := HC3.out.c0
    obtain ⟨z0, z1, z2⟩ := (⟨HZR.out.c0, HZR.out.c1, HZR.out.c2⟩ : _ ∧ _ ∧ _)
    have z3 := HZR.out.f
    go_wp2
    have hZ3 := (((HZR.out.set0 (.int .i64 0)).set1 (.slice none 0 0)).set2 (.slice none 0 0))
    have n0 := hZ3.c0
    have n1 := hZ3.c1
    have n2 := hZ3.c2
    refine bodyPost_ret (v := .tuple #[.agg #[.int .i64 0, .slice none 0 0, .slice none 0 0], .bool false]) (by simp [results, Try.results25, go_sem, n0, n1, n2]) rfl ⟨_, rfl, OwnS.zero _, ?_⟩
    exact ((HBR.out.setCell (Nat.le_succ _) _).setCell (Nat.le_succ _) _).setCell (Nat.le_succ _) _
  · rw [hk] at HCF
    have hd0 := decide_eq_true h0
    clear hno hk h0
    go_enter Try.func25, Try.ntmps25
    go_wp2_with fail
    refine (HCF.out _ HB1.out).mono ?_
    rintro e W1 ⟨v1, rfl, hv1, b1⟩
    obtain ⟨a1, c1, a2, c2, rfl⟩ := hv1.form
    have hbx : Below W1.heap.size W1 (W1.alloc (.cells #[.int .i64 B, .slice a1 RR.length c1, .slice a2 OO.length c2] 27)) := (Below.refl _ _).alloc (Nat.le_refl _) _
    have HB2 := Lib.hid (HB1.out.trans (b1.mono HB1.out.size))
    have HB3 := Lib.hid (HB2.out.trans (hbx.mono HB2.out.size))
    have HC3 := Lib.hid ((HC1.out.below b1).below hbx)
    have HZ3 := Lib.hid ((HZ1.out.below b1).below hbx)
    have HX3 := Lib.hid (Cells3.new W1 27 (.int .i64 B) (.slice a1 RR.length c1) (.slice a2 OO.length c2))
    have HL3 := Lib.hid (hv1.lies.below hbx)
    have HN3 := Lib.hid (show w.heap.size + 1 < W1.heap.size from (HZ1.out.below b1).lt)
    clear hv1 b1 k0 k1 k2 HB1 HC1 HZ1 HB2 hbx
    have HZR := HZ3
    have HBR := HB3
    have k0 := HC3.out.c0
    obtain ⟨z0, z1, z2⟩ := (⟨HZR.out.c0, HZR.out.c1, HZR.out.c2⟩ : _ ∧ _ ∧ _)
    have z3 := HZR.out.f
    go_wp2
    have hZ3 := (((HZR.out.set0 (.int .i64 0)).set1 (.slice none 0 0)).set2 (.slice none 0 0))
    have n0 := hZ3.c0
    have n1 := hZ3.c1
    have n2 := hZ3.c2
    refine bodyPost_ret (v := .tuple #[.agg #[.int .i64 0, .slice none 0 0, .slice none 0 0], .bool false]) (by simp [results, Try.results25, go_sem, n0, n1, n2]) rfl ⟨_, rfl, OwnS.zero _, ?_⟩
    exact ((HBR.out.setCell (Nat.le_succ _) _).setCell (Nat.le_succ _) _).setCell (Nat.le_succ _) _
  · rw [hk] at HCF
    have hd0 := decide_eq_false h0
    have hd1 := decide_eq_true h1
    clear hno hk h0 h1
    go_enter Try.func25, Try.ntmps25
    go_wp2_with fail
    refine (HCF.out _ HB1.out).mono ?_
    rintro e W1 ⟨v1, rfl, hv1, b1⟩
    obtain ⟨a1, c1, a2, c2, rfl⟩ := hv1.form
    have hbx : Below W1.heap.size W1 (W1.alloc (.cells #[.int .i64 B, .slice a1 RR.length c1, .slice a2 OO.length c2] 27)) := (Below.refl _ _).alloc (Nat.le_refl _) _
    have HB2 := Lib.hid (HB1.out.trans (b1.mono HB1.out.size))
    have HB3 := Lib.hid (HB2.out.trans (hbx.mono HB2.out.size))
    have HC3 := Lib.hid ((HC1.out.below b1).below hbx)
    have HZ3 := Lib.hid ((HZ1.out.below b1).below hbx)
    have HX3 := Lib.hid (Cells3.new W1 27 (.int .i64 B) (.slice a1 RR.length c1) (.slice a2 OO.length c2))
    have HL3 := Lib.hid (hv1.lies.below hbx)
    have HN3 := Lib.hid (show w.heap.size + 1 < W1.heap.size from (HZ1.out.below b1).lt)
    clear hv1 b1 k0 k1 k2 HB1 HC1 HZ1 HB2 hbx
    have HZR := HZ3
    have HBR := HB3
    have k0 := HC3.out.c0
    obtain ⟨z0, z1, z2⟩ := (⟨HZR.out.c0, HZR.out.c1, HZR.out.c2⟩ : _ ∧ _ ∧ _)
    have z3 := HZR.out.f
    go_wp2
    have hZ3 := (((HZR.out.set0 (.int .i64 0)).set1 (.slice none 0 0)).set2 (.slice none 0 0))
    have n0 := hZ3.c0
    have n1 := hZ3.c1
    have n2 := hZ3.c2
    refine bodyPost_ret (v := .tuple #[.agg #[.int .i64 0, .slice none 0 0, .slice none 0 0], .bool false]) (by simp [results, Try.results25, go_sem, n0, n1, n2]) rfl ⟨_, rfl, OwnS.zero _, ?_⟩
    exact ((HBR.out.setCell (Nat.le_succ _) _).setCell (Nat.le_succ _) _).setCell (Nat.le_succ _) _
set_option maxRecDepth 100000 in
set_option maxHeartbeats 4000000 in
theorem impl_sub_yes (v : Value) (b : Int) (rows : List (List Int)) (out : List Int) (w : World) (h : LiesS w v b rows out) (r : Int) (hs : rows.length + tot rows + out.length ≤ 1048576) (hok : subOK b rows out r = true) :
    Calls Try.prog 25 #[v, .int .i64 r] w (GivesK (formB (formB b rows out) (formR b rows out) (subE b rows out r)) (minRV (formB b rows out) (formR b rows out) (subE b rows out r)) (minOV (formB b rows out) (formR b rows out) (subE b rows out r)) (formK (formB b rows out) (formR b rows out) (subE b rows out r)) w) := by
  obtain ⟨i0, hi, hz0, hz1, hz2⟩ := info_parts Ints.infoI
  have HS := Lib.hid h
  obtain ⟨an, cn, ao, co, rfl⟩ := h.form
  clear h
  have HB : Hid (Below w.heap.size w (w.alloc (Obj.cells #[Value.int .i64 b, Value.slice an rows.length cn, Value.slice ao out.length co] 27))) := (Below.refl _ _).alloc (Nat.le_refl _) _
  have HC := Lib.hid (Cells3.new w 27 (.int .i64 b) (.slice an rows.length cn) (.slice ao out.length co))
  have HB1 := Lib.hid (HB.out.alloc (by simp only [size_alloc'] <;> omega) (Obj.cells #[Value.int .i64 0, Value.slice none 0 0, Value.slice none 0 0] 27))
  have HC1 := Lib.hid (HC.out.alloc (Obj.cells #[Value.int .i64 0, Value.slice none 0 0, Value.slice none 0 0] 27))
  have hZ := Cells3.new (w.alloc (Obj.cells #[Value.int .i64 b, Value.slice an rows.length cn, Value.slice ao out.length co] 27)) 27 (.int .i64 0) (.slice none 0 0) (.slice none 0 0)
  rw [size_alloc'] at hZ
  have HZ1 := Lib.hid hZ
  have HSZ := Lib.hid hs
  clear hZ HB HC hs
  have k0 := HC1.out.c0
  have k1 := HC1.out.c1
  have k2 := HC1.out.c2
  have HCF := Lib.hid (fun (W : World) (hW : Below w.heap.size w W) => impl_form _ b rows out W (HS.out.below hW) HSZ.out)
  obtain ⟨hk, h0, h1⟩ := sub_parts hok
  have hval := form_valid hk
  rw [hk] at HCF
  have hbb : formB b rows out = b := by rw [formB, if_pos hk]
  unfold subE
  rw [hbb] at HCF hval ⊢
  obtain ⟨RR, hRR⟩ : ∃ R, R = formR b rows out := ⟨_, rfl⟩
  obtain ⟨OO, hOO⟩ : ∃ O, O = formO b rows out := ⟨_, rfl⟩
  rw [← hRR, ← hOO] at HCF hval ⊢
  clear hRR hOO hbb hk hok
  obtain ⟨B, hBB⟩ : ∃ B, B = b := ⟨_, rfl⟩
  subst hBB
  have hval' := hval
  have HVAL := Lib.hid hval'
  have hd0 := decide_eq_false (show ¬ r < 0 by omega)
  have hd1 := decide_eq_false (show ¬ B ≤ r by omega)
  have hr1 : r < B := h1
  obtain ⟨rn, rfl⟩ : ∃ rn : Nat, r = (rn : Int) := ⟨r.toNat, by omega⟩
  have hol1 : RR.length ≤ OO.length := by have := hval'.2.2.2.2.1; omega
  have hol2 : OO.length ≤ RR.length := by have := hval'.2.2.2.2.1; omega
  have HOL := Lib.hid (show OO.length = RR.length by omega)
  have hn16 : RR.length ≤ 16 := hval'.2.2.2.1
  have HTT := Lib.hid (show tot RR ≤ 64 by have := tot_le4 RR (fun q hq => by have := (hval'.2.2.2.2.2.1 q hq).1; have := hval'.2.1; omega); omega)
  clear hval hval' h0 h1
  have hrn0 : (0 : Int) ≤ (rn : Int) := Int.natCast_nonneg _
  have HCM0 := Lib.hid (fun (W : World) (u : Value) (l : LiesS W u B RR (subT RR OO rn)) (q : RR.length + tot RR + (subT RR OO rn).length ≤ 1048576) => impl_min u B RR (subT RR OO rn) W l q)
  obtain ⟨R2, hR2⟩ : ∃ R, R = minRV B RR (subT RR OO rn) := ⟨_, rfl⟩
  obtain ⟨O2, hO2⟩ : ∃ R, R = minOV B RR (subT RR OO rn) := ⟨_, rfl⟩
  obtain ⟨B2, hB2⟩ : ∃ R, R = formB B RR (subT RR OO rn) := ⟨_, rfl⟩
  obtain ⟨K2, hK2⟩ : ∃ R, R = formK B RR (subT RR OO rn) := ⟨_, rfl⟩
  rw [← hR2, ← hO2, ← hB2, ← hK2] at HCM0 ⊢
  clear hR2 hO2 hB2 hK2
  go_enter Try.func25, Try.ntmps25
  go_wp2_with fail
  refine (HCF.out _ HB1.out).mono ?_
  rintro e W1 ⟨v1, rfl, hv1, b1⟩
  obtain ⟨a1, c1, a2, c2, rfl⟩ := hv1.form
  have hbx : Below W1.heap.size W1 (W1.alloc (.cells #[.int .i64 B, .slice a1 RR.length c1, .slice a2 OO.length c2] 27)) := (Below.refl _ _).alloc (Nat.le_refl _) _
  have HB2 := Lib.hid (HB1.out.trans (b1.mono HB1.out.size))
  have HB3 := Lib.hid (HB2.out.trans (hbx.mono HB2.out.size))
  have HC3 := Lib.hid ((HC1.out.below b1).below hbx)
  have HZ3 := Lib.hid ((HZ1.out.below b1).below hbx)
  have HX3 := Lib.hid (Cells3.new W1 27 (.int .i64 B) (.slice a1 RR.length c1) (.slice a2 OO.length c2))
  have HL3 := Lib.hid (hv1.lies.below hbx)
  have HN3 := Lib.hid (show w.heap.size + 1 < W1.heap.size from (HZ1.out.below b1).lt)
  clear hv1 b1 k0 k1 k2 HB1 HC1 HZ1 HB2 hbx
  have k0 := HC3.out.c0
  have j0 := HX3.out.c0
  have j1 := HX3.out.c1
  have j2 := HX3.out.c2
  go_wp2_with (at_make; refine wpList_make_full (W1.alloc (.cells #[.int .i64 B, .slice a1 RR.length c1, .slice a2 OO.length c2] 27)) rfl _ _ 23 rfl (W1.alloc (.cells #[.int .i64 B, .slice a1 RR.length c1, .slice a2 OO.length c2] 27)).heap.size 3 i0 (.int .i64 0) 1 Try.underlying23 hi hz0 hz1 .i64 .i64 _ _ OO.length rfl rfl rfl rfl (by rw [hz2]; omega) (by unfold maxLen; omega) (Nat.le_refl _) ?_; intro W3 hown hgrow; have q1 := (HX3.out.below (below_of_grown hgrow)).c1; have q2 := (HX3.out.below (below_of_grown hgrow)).c2)
  obtain ⟨xb, hxb⟩ : ∃ x, x = W1.heap.size := ⟨_, rfl⟩
  obtain ⟨z, hz⟩ : ∃ z, z = W1.heap.size + 1 := ⟨_, rfl⟩
  have hza : (W1.alloc (.cells #[.int .i64 B, .slice a1 RR.length c1, .slice a2 OO.length c2] 27)).heap.size = z := by rw [hz, size_alloc']
  have hzx : xb < z := by rw [hz, hxb]; exact Nat.lt_succ_self _
  have hO : Hid (W3.ownsRow z 3 1 (.slice (some ⟨z, 0, none⟩) OO.length OO.length) OO.length ((subP RR OO rn 0 ++ (List.replicate OO.length (0 : Int)).drop 0).map (Value.int .i64))) := by
    show W3.ownsRow _ _ _ _ _ _
    rw [Ints.zero_made, hza] at hown
    simpa [subP] using hown
  have hb := below_of_grown hgrow
  have hB := Lib.hid (HB3.out.trans (hb.mono HB3.out.size))
  have hZ := Lib.hid (HZ3.out.below hb)
  have hX := Lib.hid (HX3.out.below hb)
  have hL := Lib.hid (HL3.out.below hb)
  rw [← hxb] at hX HN3
  rw [← hz, ← hxb]
  have HNZ := HN3
  have hBX : Hid (Below z W3 W3) := Below.refl _ _
  have hzs : Hid (z ≤ W3.heap.size) := by rw [← hza]; exact hb.size
  have hWX : Hid (∃ W0 : World, W0.heap.size = z ∧ Below z W0 W3 ∧ LiesS W0 (.agg #[.int .i64 B, .slice a1 RR.length c1, .slice a2 OO.length c2]) B RR OO) := ⟨_, hza, by rw [← hza]; exact hb, HL3.out⟩
  clear hown hgrow hb hxb hz hza HB3 HC3 HZ3 HX3 HL3 HN3 k0 hBX hL
  have m1 := hX.out.c1
  have m2 := hX.out.c2
  clear j0 j1 j2 q1 q2
  go_loopw [36] (fun i' wr => ∃ i : Nat, i ≤ RR.length ∧ i' = .int .i64 i ∧ Hid (wr.ownsRow z 3 1 (.slice (some ⟨z, 0, none⟩) OO.length OO.length) OO.length ((subP RR OO rn i ++ (List.replicate OO.length (0 : Int)).drop i).map (Value.int .i64))) ∧ Hid (Cells3 wr xb 27 (.int .i64 B) (.slice a1 RR.length c1) (.slice a2 OO.length c2)) ∧ Hid (Cells3 wr (w.heap.size + 1) 27 (.int .i64 0) (.slice none 0 0) (.slice none 0 0)) ∧ Hid (Below w.heap.size w wr) ∧ Hid (z ≤ wr.heap.size) ∧ Hid (∃ W0 : World, W0.heap.size = z ∧ Below z W0 wr ∧ LiesS W0 (.agg #[.int .i64 B, .slice a1 RR.length c1, .slice a2 OO.length c2]) B RR OO)) (fun i' _ => RR.length - (intOf i').toNat)
  case atStart => exact ⟨0, Nat.zero_le _, rfl, hO, hX, hZ, hB, hzs, hWX⟩
  case round =>
    clear hO hX hZ hB hzs hWX m1 m2
    obtain ⟨i, hil, rfl, hO, hX, hZ, hB, hzs, hWX⟩ := hrel
    obtain ⟨W4, rfl⟩ : ∃ W : World, W = wr := ⟨_, rfl⟩
    obtain ⟨W0, hw0, hb0, hl0⟩ := hWX.out
    have j0 := hX.out.c0
    have j1 := hX.out.c1
    have j2 := hX.out.c2
    by_cases hlt : i < RR.length
    case pos =>
      obtain ⟨pq, po, q, t, c, n, he1, hc1, hdn, hc2⟩ := step_cells hl0 HVAL.out hlt hr1
      obtain ⟨hx0, hx1⟩ := HVAL.out.next (s := (i : Int)) (d := (rn : Int)) (Int.natCast_nonneg _) (by omega) hrn0 hr1 |>.elim fun _ h => h.2.2
      obtain ⟨y, hy⟩ : ∃ y : Nat, nextS RR i rn = (y : Int) := ⟨(nextS RR i rn).toNat, by omega⟩
      have hyl : y < OO.length := by omega
      obtain ⟨x, hxv⟩ : ∃ x, OO[y]? = some x := ⟨_, List.getElem?_eq_getElem hyl⟩
      have HXV : Hid (subX RR OO rn i = x) := by show _ = _; rw [subX, hy, Int.toNat_natCast, List.getD_eq_getElem?_getD, hxv]; rfl
      obtain ⟨oq, os, he2, hc3⟩ := hl0.cells.2 y x hxv
      subst he1; subst he2
      have hc1' : W4.cell? ⟨pq, po + i, none⟩ = some (.slice (some ⟨q, t, none⟩) n c) := by rw [← hw0] at hb0; exact old_cellC hb0 hc1
      have hc2' : W4.cell? ⟨q, t + rn, none⟩ = some (.int .i64 (y : Int)) := by rw [← hw0] at hb0; rw [← hy]; exact old_cellC hb0 hc2
      have hc3' : W4.cell? ⟨oq, os + y, none⟩ = some (.int .i64 x) := by rw [← hw0] at hb0; exact old_cellC hb0 hc3
      have hi0 : (0 : Int) ≤ (i : Int) := Int.natCast_nonneg _
      have hiL : (i : Int) < (RR.length : Int) := by omega
      have hiO : (i : Int) < (OO.length : Int) := by omega
      have hy0 : (0 : Int) ≤ (y : Int) := Int.natCast_nonneg _
      have hyO : (y : Int) < (OO.length : Int) := by omega
      have hrnn : (rn : Int) < (n : Int) := by omega
      have hzc : ∃ u, W4.cell? ⟨z, i, none⟩ = some u := by
        have h1 := hO.out.cellAt i (by omega)
        have hlen : i < ((subP RR OO rn i ++ (List.replicate OO.length (0 : Int)).drop i).map (Value.int .i64)).length := by
          rw [List.length_map, List.length_append, subP_len, List.length_drop, List.length_replicate]; omega
        rw [List.getElem?_eq_getElem hlen] at h1
        exact ⟨_, h1⟩
      obtain ⟨zu, hzu⟩ := hzc
      have hzf := hO.out.frozenAt i
      have hst := hO.out.stored i (.int .i64 x)
      have hse : ((subP RR OO rn i ++ (List.replicate OO.length (0 : Int)).drop i).map (Value.int .i64)).set i (.int .i64 x) = (subP RR OO rn (i + 1) ++ (List.replicate OO.length (0 : Int)).drop (i + 1)).map (Value.int .i64) := by
        rw [← HXV.out]
        exact subP_set RR OO rn i OO.length _ (List.length_replicate) (by omega)
      rw [hse] at hst
      have HST := Lib.hid hst
      have hzx1 : z ≠ xb := by omega
      have hzw : z ≠ w.heap.size + 1 := by have := HNZ.out; omega
      have hzw2 : w.heap.size ≤ z := by have := HNZ.out; omega
      have HX5 := Lib.hid (hX.out.other (a := ⟨z, i, none⟩) hzx1 (.int .i64 x))
      have HZ5 := Lib.hid (hZ.out.other (a := ⟨z, i, none⟩) hzw (.int .i64 x))
      have HB5 : Hid (Below w.heap.size w (W4.setCell ⟨z, i, none⟩ (.int .i64 x))) := hB.out.setCell hzw2 _
      have HS5 : Hid (z ≤ (W4.setCell ⟨z, i, none⟩ (.int .i64 x)).heap.size) := by show _ ≤ _; rw [size_setCell']; exact hzs.out
      have HW5 : Hid (∃ W0 : World, W0.heap.size = z ∧ Below z W0 (W4.setCell ⟨z, i, none⟩ (.int .i64 x)) ∧ LiesS W0 (.agg #[.int .i64 B, .slice (some ⟨pq, po, none⟩) RR.length c1, .slice (some ⟨oq, os, none⟩) OO.length c2]) B RR OO) := ⟨W0, hw0, hb0.setCell (Nat.le_refl _) _, hl0⟩
      clear hst hse hxv hc1 hc2 hc3 hw0 hb0 hl0 hO hX hZ hB hzs hWX hx0 hx1 hy hdn hyl
      go_wp2_with fail
      go_region_law (fail)
      all_goals
        go_wp2
        go_roundw
        case rel => exact ⟨i + 1, by omega, by go_num, HST.out.1.kept (grown_of_below (below_drew' _)) (.inr (by simp [Value.ownBlock])), HX5.out.below (below_drew' _), HZ5.out.below (below_drew' _), HB5.out.trans ((below_drew' _).mono HB5.out.size), Nat.le_trans HS5.out (below_drew' _).size, (HW5.out.elim fun W0 h => ⟨W0, h.1, h.2.1.trans ((below_drew' _).mono HS5.out), h.2.2⟩)⟩
        case measure => simp [intOf]; omega
    case neg =>
      obtain rfl : i = RR.length := by omega
      have HT : Hid (Lies (Value.int .i64) W4 (.slice (some ⟨z, 0, none⟩) OO.length OO.length) (subT RR OO rn)) := by
        have h1 := hO.out
        rw [List.drop_eq_nil_of_le (by rw [List.length_replicate]; omega), List.append_nil] at h1
        have h2 : Has (Value.int .i64) 3 W4 z (.slice (some ⟨z, 0, none⟩) OO.length OO.length) (subP RR OO rn RR.length) := by
          have e : (subP RR OO rn RR.length).length = OO.length := by rw [subP_len]; omega
          show W4.ownsRow _ _ _ _ _ _
          rw [e]
          exact h1
        exact h2.lies
      have HLS : Hid (LiesS W4 (.agg #[.int .i64 B, .slice a1 RR.length c1, .slice (some ⟨z, 0, none⟩) OO.length OO.length]) B RR (subT RR OO rn)) := lies_of_parts (hl0.below (by rw [hw0]; exact hb0)) HT.out
      have HSL : Hid (RR.length + tot RR + (subT RR OO rn).length ≤ 1048576) := by
        have h1 := HTT.out
        show _ ≤ _
        rw [subT, subP_len]
        omega
      have HCM := Lib.hid (HCM0.out W4 _ HLS.out HSL.out)
      clear hO hw0 hb0 hl0 hWX HLS HT
      go_wp2_with fail
      refine HCM.out.mono ?_
      rintro e W5 ⟨v2, rfl, hv2, b2⟩
      obtain ⟨a3, c3, a4, c4, rfl⟩ := hv2.form
      have HZR := Lib.hid (hZ.out.below b2)
      have HBR := Lib.hid (hB.out.trans (b2.mono hB.out.size))
      have HV := Lib.hid hv2
      have HLO : Hid (w.heap.size + 2 ≤ W4.heap.size) := by have := HNZ.out; have := hzs.out; show _ ≤ _; omega
      clear hv2 b2 j0 j1 j2 hX hZ hB
      obtain ⟨z0, z1, z2⟩ := (⟨HZR.out.c0, HZR.out.c1, HZR.out.c2⟩ : _ ∧ _ ∧ _)
      have z3 := HZR.out.f
      go_wp2
      have hZ3 := (((HZR.out.set0 (.int .i64 B2)).set1 (.slice a3 R2.length c3)).set2 (.slice a4 O2.length c4))
      have n0 := hZ3.c0
      have n1 := hZ3.c1
      have n2 := hZ3.c2
      refine bodyPost_ret (v := .tuple #[.agg #[.int .i64 B2, .slice a3 R2.length c3, .slice a4 O2.length c4], .bool K2]) (by simp [results, Try.results25, go_sem, n0, n1, n2]) rfl ⟨_, rfl, ?_, ?_⟩
      · have hT : ∀ (i : Nat) (u : Value) (W : World), Plain.Touch (w.heap.size + 1) (w.heap.size + 2) W (W.setCell ⟨w.heap.size + 1, i, none⟩ u) := fun i u W => Plain.Touch.of_set (a := ⟨w.heap.size + 1, i, none⟩) u (Nat.le_refl _) (Nat.lt_succ_self _)
        have T0 : Plain.Touch (w.heap.size + 1) (w.heap.size + 2) W5 (((W5.setCell ⟨w.heap.size + 1, 0, none⟩ (.int .i64 B2)).setCell ⟨w.heap.size + 1, 1, none⟩ (.slice a3 R2.length c3)).setCell ⟨w.heap.size + 1, 2, none⟩ (.slice a4 O2.length c4)) := ((hT 0 _ _).trans (hT 1 _ _)).trans (hT 2 _ _)
        have h1 := (HV.out.touch T0 (.inr HLO.out)).lower (show w.heap.size ≤ W4.heap.size by have := HLO.out; omega)
        simpa only [size_setCell'] using h1
      · exact ((HBR.out.setCell (Nat.le_succ _) _).setCell (Nat.le_succ _) _).setCell (Nat.le_succ _) _
theorem impl_sub (v : Value) (b : Int) (rows : List (List Int)) (out : List Int) (w : World) (h : LiesS w v b rows out) (r : Int) (hs : rows.length + tot rows + out.length ≤ 1048576) :
    Calls Try.prog 25 #[v, .int .i64 r] w (GivesK (subB b rows out r) (subR b rows out r) (subO b rows out r) (subK b rows out r) w) := by
  cases hk : subOK b rows out r with
  | false =>
    obtain ⟨h1, h2, h3, h4⟩ := sub_no hk
    rw [h1, h2, h3, h4]
    exact impl_sub_no v b rows out w h r hs hk
  | true =>
    obtain ⟨h1, h2, h3, h4⟩ := sub_yes hk
    rw [h1, h2, h3, h4]
    exact impl_sub_yes v b rows out w h r hs hk
set_option maxRecDepth 100000 in
set_option maxHeartbeats 2000000 in
theorem spec_sub_no (v : Value) (b : Int) (rows : List (List Int)) (out : List Int) (w : World) (h : LiesS w v b rows out) (r : Int) (hs : rows.length + tot rows + out.length ≤ 1048576) (hno : subOK b rows out r = false) :
    Calls Try.prog 24 #[v, .int .i64 r] w (GivesK 0 [] [] false w) := by
  have HS := Lib.hid h
  obtain ⟨an, cn, ao, co, rfl⟩ := h.form
  clear h
  have HB : Hid (Below w.heap.size w (w.alloc (Obj.cells #[Value.int .i64 b, Value.slice an rows.length cn, Value.slice ao out.length co] 27))) := (Below.refl _ _).alloc (Nat.le_refl _) _
  have HC := Lib.hid (Cells3.new w 27 (.int .i64 b) (.slice an rows.length cn) (.slice ao out.length co))
  have HB1 := Lib.hid (HB.out.alloc (by simp only [size_alloc'] <;> omega) (Obj.cells #[Value.int .i64 0, Value.slice none 0 0, Value.slice none 0 0] 27))
  have HC1 := Lib.hid (HC.out.alloc (Obj.cells #[Value.int .i64 0, Value.slice none 0 0, Value.slice none 0 0] 27))
  have hZ := Cells3.new (w.alloc (Obj.cells #[Value.int .i64 b, Value.slice an rows.length cn, Value.slice ao out.length co] 27)) 27 (.int .i64 0) (.slice none 0 0) (.slice none 0 0)
  rw [size_alloc'] at hZ
  have HZ1 := Lib.hid hZ
  have HSZ := Lib.hid hs
  clear hZ HB HC hs
  have k0 := HC1.out.c0
  have k1 := HC1.out.c1
  have k2 := HC1.out.c2
  have HCF := Lib.hid (fun (W : World) (hW : Below w.heap.size w W) => spec_form _ b rows out W (HS.out.below hW) HSZ.out)
  obtain ⟨B, hBB⟩ : ∃ B, B = formB b rows out := ⟨_, rfl⟩
  obtain ⟨RR, hRR⟩ : ∃ R, R = formR b rows out := ⟨_, rfl⟩
  obtain ⟨OO, hOO⟩ : ∃ O, O = formO b rows out := ⟨_, rfl⟩
  rw [← hBB, ← hRR, ← hOO] at HCF
  clear hBB hRR hOO
  rcases sub_out hno with hk | ⟨hk, h0⟩ | ⟨hk, h0, h1⟩
  · rw [hk] at HCF
    clear hno hk
    go_enter Try.func24, Try.ntmps24
    go_wp2_with fail
    refine (HCF.out _ HB1.out).mono ?_
    rintro e W1 ⟨v1, rfl, hv1, b1⟩
    obtain ⟨a1, c1, a2, c2, rfl⟩ := hv1.form
    have hbx : Below W1.heap.size W1 (W1.alloc (.cells #[.int .i64 B, .slice a1 RR.length c1, .slice a2 OO.length c2] 27)) := (Below.refl _ _).alloc (Nat.le_refl _) _
    have HB2 := Lib.hid (HB1.out.trans (b1.mono HB1.out.size))
    have HB3 := Lib.hid (HB2.out.trans (hbx.mono HB2.out.size))
    have HC3 := Lib.hid ((HC1.out.below b1).below hbx)
    have HZ3 := Lib.hid ((HZ1.out.below b1).below hbx)
    have HX3 := Lib.hid (Cells3.new W1 27 (.int .i64 B) (.slice a1 RR.length c1) (.slice a2 OO.length c2))
    have HL3 := Lib.hid (hv1.lies.below hbx)
    have HN3 := Lib.hid (show w.heap.size + 1 < W1.heap.size from (HZ1.out.below b1).lt)
    clear hv1 b1 k0 k1 k2 HB1 HC1 HZ1 HB2 hbx
    have HZR := HZ3
    have HBR := HB3
    have k0 := HC3.out.c0
    obtain ⟨z0, z1, z2⟩ := (⟨HZR.out.c0, HZR.out.c1, HZR.out.c2⟩ : _ ∧ _ ∧ _)
    have z3 := HZR.out.f
    go_wp2
    have hZ3 := (((HZR.out.set0 (.int .i64 0)).set1 (.slice none 0 0)).set2 (.slice none 0 0))
    have n0 := hZ3.c0
    have n1 := hZ3.c1
    have n2 := hZ3.c2
    refine bodyPost_ret (v := .tuple #[.agg #[.int .i64 0, .slice none 0 0, .slice none 0 0], .bool false]) (by simp [results, Try.results24, go_sem, n0, n1, n2]) rfl ⟨_, rfl, OwnS.zero _, ?_⟩
    exact ((HBR.out.setCell (Nat.le_succ _) _).setCell (Nat.le_succ _) _).setCell (Nat.le_succ _) _
  · rw [hk] at HCF
    have hd0 := decide_eq_true h0
    clear hno hk h0
    go_enter Try.func24, Try.ntmps24
    go_wp2_with fail
    refine (HCF.out _ HB1.out).mono ?_
    rintro e W1 ⟨v1, rfl, hv1, b1⟩
    obtain ⟨a1, c1, a2, c2, rfl⟩ := hv1.form
    have hbx : Below W1.heap.size W1 (W1.alloc (.cells #[.int .i64 B, .slice a1 RR.length c1, .slice a2 OO.length c2] 27)) := (Below.refl _ _).alloc (Nat.le_refl _) _
    have HB2 := Lib.hid (HB1.out.trans (b1.mono HB1.out.size))
    have HB3 := Lib.hid (HB2.out.trans (hbx.mono HB2.out.size))
    have HC3 := Lib.hid ((HC1.out.below b1).below hbx)
    have HZ3 := Lib.hid ((HZ1.out.below b1).below hbx)
    have HX3 := Lib.hid (Cells3.new W1 27 (.int .i64 B) (.slice a1 RR.length c1) (.slice a2 OO.length c2))
    have HL3 := Lib.hid (hv1.lies.below hbx)
    have HN3 := Lib.hid (show w.heap.size + 1 < W1.heap.size from (HZ1.out.below b1).lt)
    clear hv1 b1 k0 k1 k2 HB1 HC1 HZ1 HB2 hbx
    have HZR := HZ3
    have HBR := HB3
    have k0 := HC3.out.c0
    obtain ⟨z0, z1, z2⟩ := (⟨HZR.out.c0, HZR.out.c1, HZR.out.c2⟩ : _ ∧ _ ∧ _)
    have z3 := HZR.out.f
    go_wp2
    have hZ3 := (((HZR.out.set0 (.int .i64 0)).set1 (.slice none 0 0)).set2 (.slice none 0 0))
    have n0 := hZ3.c0
    have n1 := hZ3.c1
    have n2 := hZ3.c2
    refine bodyPost_ret (v := .tuple #[.agg #[.int .i64 0, .slice none 0 0, .slice none 0 0], .bool false]) (by simp [results, Try.results24, go_sem, n0, n1, n2]) rfl ⟨_, rfl, OwnS.zero _, ?_⟩
    exact ((HBR.out.setCell (Nat.le_succ _) _).setCell (Nat.le_succ _) _).setCell (Nat.le_succ _) _
  · rw [hk] at HCF
    have hd0 := decide_eq_false h0
    have hd1 := decide_eq_true h1
    clear hno hk h0 h1
    go_enter Try.func24, Try.ntmps24
    go_wp2_with fail
    refine (HCF.out _ HB1.out).mono ?_
    rintro e W1 ⟨v1, rfl, hv1, b1⟩
    obtain ⟨a1, c1, a2, c2, rfl⟩ := hv1.form
    have hbx : Below W1.heap.size W1 (W1.alloc (.cells #[.int .i64 B, .slice a1 RR.length c1, .slice a2 OO.length c2] 27)) := (Below.refl _ _).alloc (Nat.le_refl _) _
    have HB2 := Lib.hid (HB1.out.trans (b1.mono HB1.out.size))
    have HB3 := Lib.hid (HB2.out.trans (hbx.mono HB2.out.size))
    have HC3 := Lib.hid ((HC1.out.below b1).below hbx)
    have HZ3 := Lib.hid ((HZ1.out.below b1).below hbx)
    have HX3 := Lib.hid (Cells3.new W1 27 (.int .i64 B) (.slice a1 RR.length c1) (.slice a2 OO.length c2))
    have HL3 := Lib.hid (hv1.lies.below hbx)
    have HN3 := Lib.hid (show w.heap.size + 1 < W1.heap.size from (HZ1.out.below b1).lt)
    clear hv1 b1 k0 k1 k2 HB1 HC1 HZ1 HB2 hbx
    have HZR := HZ3
    have HBR := HB3
    have k0 := HC3.out.c0
    obtain ⟨z0, z1, z2⟩ := (⟨HZR.out.c0, HZR.out.c1, HZR.out.c2⟩ : _ ∧ _ ∧ _)
    have z3 := HZR.out.f
    go_wp2
    have hZ3 := (((HZR.out.set0 (.int .i64 0)).set1 (.slice none 0 0)).set2 (.slice none 0 0))
    have n0 := hZ3.c0
    have n1 := hZ3.c1
    have n2 := hZ3.c2
    refine bodyPost_ret (v := .tuple #[.agg #[.int .i64 0, .slice none 0 0, .slice none 0 0], .bool false]) (by simp [results, Try.results24, go_sem, n0, n1, n2]) rfl ⟨_, rfl, OwnS.zero _, ?_⟩
    exact ((HBR.out.setCell (Nat.le_succ _) _).setCell (Nat.le_succ _) _).setCell (Nat.le_succ _) _
theorem subP_over (R : List (List Int)) (O : List Int) (r : Int) (i : Nat) (h : i < O.length) : (subP R O r i ++ O.drop i).set i (subX R O r i) = subP R O r (i + 1) ++ O.drop (i + 1) := by
  rw [List.set_append_right _ _ (by rw [subP_len]; omega), subP_len, Nat.sub_self, List.drop_eq_getElem_cons h, List.set_cons_zero, subP_succ, List.append_assoc]
  rfl
set_option maxRecDepth 100000 in
set_option maxHeartbeats 4000000 in
theorem spec_sub_yes (v : Value) (b : Int) (rows : List (List Int)) (out : List Int) (w : World) (h : LiesS w v b rows out) (r : Int) (hs : rows.length + tot rows + out.length ≤ 1048576) (hok : subOK b rows out r = true) :
    Calls Try.prog 24 #[v, .int .i64 r] w (GivesK (formB (formB b rows out) (formR b rows out) (subE b rows out r)) (minRV (formB b rows out) (formR b rows out) (subE b rows out r)) (minOV (formB b rows out) (formR b rows out) (subE b rows out r)) (formK (formB b rows out) (formR b rows out) (subE b rows out r)) w) := by
  have HS := Lib.hid h
  obtain ⟨an, cn, ao, co, rfl⟩ := h.form
  clear h
  have HB : Hid (Below w.heap.size w (w.alloc (Obj.cells #[Value.int .i64 b, Value.slice an rows.length cn, Value.slice ao out.length co] 27))) := (Below.refl _ _).alloc (Nat.le_refl _) _
  have HC := Lib.hid (Cells3.new w 27 (.int .i64 b) (.slice an rows.length cn) (.slice ao out.length co))
  have HB1 := Lib.hid (HB.out.alloc (by simp only [size_alloc'] <;> omega) (Obj.cells #[Value.int .i64 0, Value.slice none 0 0, Value.slice none 0 0] 27))
  have HC1 := Lib.hid (HC.out.alloc (Obj.cells #[Value.int .i64 0, Value.slice none 0 0, Value.slice none 0 0] 27))
  have hZ := Cells3.new (w.alloc (Obj.cells #[Value.int .i64 b, Value.slice an rows.length cn, Value.slice ao out.length co] 27)) 27 (.int .i64 0) (.slice none 0 0) (.slice none 0 0)
  rw [size_alloc'] at hZ
  have HZ1 := Lib.hid hZ
  have HSZ := Lib.hid hs
  clear hZ HB HC hs
  have k0 := HC1.out.c0
  have k1 := HC1.out.c1
  have k2 := HC1.out.c2
  have HCF := Lib.hid (fun (W : World) (hW : Below w.heap.size w W) => spec_form _ b rows out W (HS.out.below hW) HSZ.out)
  obtain ⟨hk, h0, h1⟩ := sub_parts hok
  have hval := form_valid hk
  rw [hk] at HCF
  have hbb : formB b rows out = b := by rw [formB, if_pos hk]
  unfold subE
  rw [hbb] at HCF hval ⊢
  obtain ⟨RR, hRR⟩ : ∃ R, R = formR b rows out := ⟨_, rfl⟩
  obtain ⟨OO, hOO⟩ : ∃ O, O = formO b rows out := ⟨_, rfl⟩
  rw [← hRR, ← hOO] at HCF hval ⊢
  clear hRR hOO hbb hk hok
  obtain ⟨B, hBB⟩ : ∃ B, B = b := ⟨_, rfl⟩
  subst hBB
  have hval' := hval
  have HVAL := Lib.hid hval'
  have hd0 := decide_eq_false (show ¬ r < 0 by omega)
  have hd1 := decide_eq_false (show ¬ B ≤ r by omega)
  have hr1 : r < B := h1
  obtain ⟨rn, rfl⟩ : ∃ rn : Nat, r = (rn : Int) := ⟨r.toNat, by omega⟩
  have hol1 : RR.length ≤ OO.length := by have := hval'.2.2.2.2.1; omega
  have hol2 : OO.length ≤ RR.length := by have := hval'.2.2.2.2.1; omega
  have HOL := Lib.hid (show OO.length = RR.length by omega)
  have hn16 : RR.length ≤ 16 := hval'.2.2.2.1
  have HTT := Lib.hid (show tot RR ≤ 64 by have := tot_le4 RR (fun q hq => by have := (hval'.2.2.2.2.2.1 q hq).1; have := hval'.2.1; omega); omega)
  have HSF := Lib.hid (show RR.length + tot RR + OO.length ≤ 1048576 by have := HTT.out; omega)
  clear hval hval' h0 h1
  have hrn0 : (0 : Int) ≤ (rn : Int) := Int.natCast_nonneg _
  have HCM0 := Lib.hid (fun (W : World) (u : Value) (l : LiesS W u B RR (subT RR OO rn)) (q : RR.length + tot RR + (subT RR OO rn).length ≤ 1048576) => spec_min u B RR (subT RR OO rn) W l q)
  obtain ⟨R2, hR2⟩ : ∃ R, R = minRV B RR (subT RR OO rn) := ⟨_, rfl⟩
  obtain ⟨O2, hO2⟩ : ∃ R, R = minOV B RR (subT RR OO rn) := ⟨_, rfl⟩
  obtain ⟨B2, hB2⟩ : ∃ R, R = formB B RR (subT RR OO rn) := ⟨_, rfl⟩
  obtain ⟨K2, hK2⟩ : ∃ R, R = formK B RR (subT RR OO rn) := ⟨_, rfl⟩
  rw [← hR2, ← hO2, ← hB2, ← hK2] at HCM0 ⊢
  clear hR2 hO2 hB2 hK2
  go_enter Try.func24, Try.ntmps24
  go_wp2_with fail
  refine (HCF.out _ HB1.out).mono ?_
  rintro e W1 ⟨v1, rfl, hv1, b1⟩
  obtain ⟨a1, c1, a2, c2, rfl⟩ := hv1.form
  have hbx : Below W1.heap.size W1 (W1.alloc (.cells #[.int .i64 B, .slice a1 RR.length c1, .slice a2 OO.length c2] 27)) := (Below.refl _ _).alloc (Nat.le_refl _) _
  have HB2 := Lib.hid (HB1.out.trans (b1.mono HB1.out.size))
  have HB3 := Lib.hid (HB2.out.trans (hbx.mono HB2.out.size))
  have HC3 := Lib.hid ((HC1.out.below b1).below hbx)
  have HZ3 := Lib.hid ((HZ1.out.below b1).below hbx)
  have HX3 := Lib.hid (Cells3.new W1 27 (.int .i64 B) (.slice a1 RR.length c1) (.slice a2 OO.length c2))
  have HL3 := Lib.hid (hv1.lies.below hbx)
  have HN3 := Lib.hid (show w.heap.size + 1 < W1.heap.size from (HZ1.out.below b1).lt)
  clear hv1 b1 k0 k1 k2 HB1 HC1 HZ1 HB2 hbx
  have k0 := HC3.out.c0
  have j0 := HX3.out.c0
  have j1 := HX3.out.c1
  have j2 := HX3.out.c2
  obtain ⟨W2, hW2⟩ : ∃ W, W = W1.alloc (.cells #[.int .i64 B, .slice a1 RR.length c1, .slice a2 OO.length c2] 27) := ⟨_, rfl⟩
  go_wp2_with fail
  rw [← hW2] at HB3 HC3 HZ3 HX3 HL3 k0 j0 j1 j2 ⊢
  have hws : W2.heap.size = W1.heap.size + 1 := by rw [hW2, size_alloc']
  clear hW2
  obtain ⟨xb, hxb⟩ : ∃ x, x = W1.heap.size := ⟨_, rfl⟩
  rw [← hxb] at HX3 HN3 j0 j1 j2 hws ⊢
  clear hxb
  refine (spec_copied _ B RR OO _ HL3.out HSF.out).mono ?_
  rintro e W3 ⟨vm, rfl, hm, b3⟩
  obtain ⟨ma, mc, oa, oc, rfl⟩ := hm.form
  obtain ⟨X3, hX3⟩ : ∃ X, X = (Obj.cells #[.int .i64 B, .slice ma RR.length mc, .slice oa OO.length oc] 27) := ⟨_, rfl⟩
  have hbx : Below W3.heap.size W3 (W3.alloc X3) := (Below.refl _ _).alloc (Nat.le_refl _) _
  have HM := Lib.hid (hm.below hbx)
  have HP := Lib.hid (Cells3.new W3 27 (.int .i64 B) (.slice ma RR.length mc) (.slice oa OO.length oc))
  rw [← hX3] at HP
  have HB4 := Lib.hid ((HB3.out.trans (b3.mono HB3.out.size)).trans (hbx.mono (HB3.out.trans (b3.mono HB3.out.size)).size))
  have HZ4 := Lib.hid ((HZ3.out.below b3).below hbx)
  have HX4 := Lib.hid ((HX3.out.below b3).below hbx)
  have HW4 : Hid (∃ W0 : World, W0.heap.size = W2.heap.size ∧ Below W2.heap.size W0 (W3.alloc X3) ∧ LiesS W0 (.agg #[.int .i64 B, .slice a1 RR.length c1, .slice a2 OO.length c2]) B RR OO) := ⟨W2, rfl, b3.trans (hbx.mono b3.size), HL3.out⟩
  have HLO3 := Lib.hid (show W2.heap.size ≤ W3.heap.size from b3.size)
  clear hm b3 k0 j0 j1 j2 HB3 HC3 HZ3 HX3 HL3
  go_wp2
  rw [← hX3]
  obtain ⟨W4, hW4⟩ : ∃ W, W = W3.alloc X3 := ⟨_, rfl⟩
  rw [← hW4] at HM HP HB4 HZ4 HX4 HW4 ⊢
  obtain ⟨p, hp⟩ : ∃ p, p = W3.heap.size := ⟨_, rfl⟩
  obtain ⟨lo, hlo⟩ : ∃ lo, lo = W2.heap.size := ⟨_, rfl⟩
  rw [← hp, ← hlo] at HLO3
  rw [← hp] at HP HM ⊢
  rw [← hlo] at HM HW4 hws
  have hM : Hid (OwnS W4 lo p (.agg #[.int .i64 B, .slice ma RR.length mc, .slice oa OO.length oc]) B RR (subP RR OO rn 0 ++ OO.drop 0)) := HM.out
  have hP := HP
  have hZ := HZ4
  have hX := HX4
  have hB := HB4
  have hWX := HW4
  clear hX3 hbx hW4 hp hlo HM HP HB4 HZ4 HX4 HW4
  go_loopw [9] (fun i' wr => ∃ i : Nat, i ≤ RR.length ∧ i' = .int .i64 i ∧ Hid (OwnS wr lo p (.agg #[.int .i64 B, .slice ma RR.length mc, .slice oa OO.length oc]) B RR (subP RR OO rn i ++ OO.drop i)) ∧ Hid (Cells3 wr p 27 (.int .i64 B) (.slice ma RR.length mc) (.slice oa OO.length oc)) ∧ Hid (Cells3 wr xb 27 (.int .i64 B) (.slice a1 RR.length c1) (.slice a2 OO.length c2)) ∧ Hid (Cells3 wr (w.heap.size + 1) 27 (.int .i64 0) (.slice none 0 0) (.slice none 0 0)) ∧ Hid (Below w.heap.size w wr) ∧ Hid (∃ W0 : World, W0.heap.size = lo ∧ Below lo W0 wr ∧ LiesS W0 (.agg #[.int .i64 B, .slice a1 RR.length c1, .slice a2 OO.length c2]) B RR OO)) (fun i' _ => RR.length - (intOf i').toNat)
  case atStart => exact ⟨0, Nat.zero_le _, rfl, hM, hP, hX, hZ, hB, hWX⟩
  case round =>
    clear hM hP hX hZ hB hWX
    obtain ⟨i, hil, rfl, hM, hP, hX, hZ, hB, hWX⟩ := hrel
    obtain ⟨W4, rfl⟩ : ∃ W : World, W = wr := ⟨_, rfl⟩
    obtain ⟨W0, hw0, hb0, hl0⟩ := hWX.out
    have j0 := hX.out.c0
    have j1 := hX.out.c1
    have j2 := hX.out.c2
    have m0 := hP.out.c0
    have m1 := hP.out.c1
    have m2 := hP.out.c2
    by_cases hlt : i < RR.length
    case pos =>
      obtain ⟨pq, po, q, t, c, n, he1, hc1, hdn, hc2⟩ := step_cells hl0 HVAL.out hlt hr1
      obtain ⟨hx0, hx1⟩ := HVAL.out.next (s := (i : Int)) (d := (rn : Int)) (Int.natCast_nonneg _) (by omega) hrn0 hr1 |>.elim fun _ h => h.2.2
      obtain ⟨y, hy⟩ : ∃ y : Nat, nextS RR i rn = (y : Int) := ⟨(nextS RR i rn).toNat, by omega⟩
      have hyl : y < OO.length := by omega
      obtain ⟨x, hxv⟩ : ∃ x, OO[y]? = some x := ⟨_, List.getElem?_eq_getElem hyl⟩
      have HXV : Hid (subX RR OO rn i = x) := by show _ = _; rw [subX, hy, Int.toNat_natCast, List.getD_eq_getElem?_getD, hxv]; rfl
      obtain ⟨oq, os, he2, hc3⟩ := hl0.cells.2 y x hxv
      subst he1; subst he2
      have hc1' : W4.cell? ⟨pq, po + i, none⟩ = some (.slice (some ⟨q, t, none⟩) n c) := by rw [← hw0] at hb0; exact old_cellC hb0 hc1
      have hc2' : W4.cell? ⟨q, t + rn, none⟩ = some (.int .i64 (y : Int)) := by rw [← hw0] at hb0; rw [← hy]; exact old_cellC hb0 hc2
      have hc3' : W4.cell? ⟨oq, os + y, none⟩ = some (.int .i64 x) := by rw [← hw0] at hb0; exact old_cellC hb0 hc3
      have hi0 : (0 : Int) ≤ (i : Int) := Int.natCast_nonneg _
      have hiL : (i : Int) < (RR.length : Int) := by omega
      have hiO : (i : Int) < (OO.length : Int) := by omega
      have hy0 : (0 : Int) ≤ (y : Int) := Int.natCast_nonneg _
      have hyO : (y : Int) < (OO.length : Int) := by omega
      have hrnn : (rn : Int) < (n : Int) := by omega
      have hML := hM.out
      obtain ⟨dl, hdl⟩ : ∃ dl, dl = subP RR OO rn i ++ OO.drop i := ⟨_, rfl⟩
      rw [← hdl] at hML
      have hdn2 : dl.length = OO.length := by rw [hdl, List.length_append, subP_len, List.length_drop]; omega
      rw [← hdn2] at hML
      obtain ⟨g, hge, hgl, hgh, gf, ⟨gy, gc⟩, hwr⟩ := own_outj hML i (by omega)
      subst hge
      have hST := hwr x
      have HST : Hid (OwnS (W4.setCell ⟨g, i, none⟩ (.int .i64 x)) lo p (.agg #[.int .i64 B, .slice ma RR.length mc, .slice (some ⟨g, 0, none⟩) OO.length oc]) B RR (subP RR OO rn (i + 1) ++ OO.drop (i + 1))) := by
        rw [hdn2, hdl, ← HXV.out, subP_over RR OO rn i (by omega)] at hST
        exact HXV.out ▸ hST
      have hgp : g ≠ p := by omega
      have hgx : g ≠ xb := by omega
      have hgz : g ≠ w.heap.size + 1 := by have := HN3.out; omega
      have hgw : w.heap.size ≤ g := by have := HN3.out; omega
      have HP5 := Lib.hid (hP.out.other (a := ⟨g, i, none⟩) hgp (.int .i64 x))
      have HX5 := Lib.hid (hX.out.other (a := ⟨g, i, none⟩) hgx (.int .i64 x))
      have HZ5 := Lib.hid (hZ.out.other (a := ⟨g, i, none⟩) hgz (.int .i64 x))
      have HB5 : Hid (Below w.heap.size w (W4.setCell ⟨g, i, none⟩ (.int .i64 x))) := hB.out.setCell hgw _
      have hlos : lo ≤ (W4.setCell ⟨g, i, none⟩ (.int .i64 x)).heap.size := by rw [size_setCell']; have := hP.out.lt; omega
      have HLS := Lib.hid hlos
      have HW5 : Hid (∃ W0 : World, W0.heap.size = lo ∧ Below lo W0 (W4.setCell ⟨g, i, none⟩ (.int .i64 x)) ∧ LiesS W0 (.agg #[.int .i64 B, .slice (some ⟨pq, po, none⟩) RR.length c1, .slice (some ⟨oq, os, none⟩) OO.length c2]) B RR OO) := ⟨W0, hw0, hb0.setCell hgl _, hl0⟩
      clear hST hML hdl hwr hdn2 hxv hc1 hc2 hc3 hw0 hb0 hl0 hM hP hX hZ hB hWX hx0 hx1 hy hdn hyl hlos
      go_wp2_with fail
      go_region_law (fail)
      all_goals
        go_wp2
        go_roundw
        case rel => exact ⟨i + 1, by omega, by go_num, HST.out.below (below_drew' _), HP5.out.below (below_drew' _), HX5.out.below (below_drew' _), HZ5.out.below (below_drew' _), HB5.out.trans ((below_drew' _).mono HB5.out.size), (HW5.out.elim fun W0 h => ⟨W0, h.1, h.2.1.trans ((below_drew' _).mono HLS.out), h.2.2⟩)⟩
        case measure => simp [intOf]; omega
    case neg =>
      obtain rfl : i = RR.length := by omega
      have HLS : Hid (LiesS W4 (.agg #[.int .i64 B, .slice ma RR.length mc, .slice oa OO.length oc]) B RR (subT RR OO rn)) := by
        have h1 := hM.out.lies
        rw [List.drop_eq_nil_of_le (by omega), List.append_nil] at h1
        exact h1
      have HSL : Hid (RR.length + tot RR + (subT RR OO rn).length ≤ 1048576) := by
        have h1 := HTT.out
        show _ ≤ _
        rw [subT, subP_len]
        omega
      have HCM := Lib.hid (HCM0.out W4 _ HLS.out HSL.out)
      clear hM hw0 hb0 hl0 hWX HLS
      go_wp2_with fail
      refine HCM.out.mono ?_
      rintro e W5 ⟨v2, rfl, hv2, b2⟩
      obtain ⟨a3, c3, a4, c4, rfl⟩ := hv2.form
      obtain ⟨X6, hX6⟩ : ∃ X, X = (Obj.cells #[.int .i64 B2, .slice a3 R2.length c3, .slice a4 O2.length c4] 27) := ⟨_, rfl⟩
      have hby : Below W5.heap.size W5 (W5.alloc X6) := (Below.refl _ _).alloc (Nat.le_refl _) _
      have hY := Cells3.new W5 27 (.int .i64 B2) (.slice a3 R2.length c3) (.slice a4 O2.length c4)
      rw [← hX6] at hY
      have HZR := Lib.hid ((hZ.out.below b2).below hby)
      have HBR := Lib.hid ((hB.out.trans (b2.mono hB.out.size)).trans (hby.mono (hB.out.trans (b2.mono hB.out.size)).size))
      have HV := Lib.hid (own_wide (hv2.below hby) hby.size (Nat.le_refl _))
      have HLO : Hid (w.heap.size + 2 ≤ W4.heap.size) := by have := hZ.out.lt; have := HN3.out; have := hX.out.lt; show _ ≤ _; omega
      have y0 := hY.c0
      have y1 := hY.c1
      have y2 := hY.c2
      clear hv2 b2 hby j0 j1 j2 m0 m1 m2 hX hZ hB hP
      obtain ⟨z0, z1, z2⟩ := (⟨HZR.out.c0, HZR.out.c1, HZR.out.c2⟩ : _ ∧ _ ∧ _)
      have z3 := HZR.out.f
      rw [hX6] at y0 y1 y2 z0 z1 z2 z3
      go_wp2
      rw [← hX6]
      have hZ3 := (((HZR.out.set0 (.int .i64 B2)).set1 (.slice a3 R2.length c3)).set2 (.slice a4 O2.length c4))
      have n0 := hZ3.c0
      have n1 := hZ3.c1
      have n2 := hZ3.c2
      obtain ⟨W6, hW6⟩ : ∃ W, W = W5.alloc X6 := ⟨_, rfl⟩
      rw [← hW6] at HZR HBR HV n0 n1 n2 ⊢
      clear hW6 y0 y1 y2 z0 z1 z2 z3 hZ3 hY
      refine bodyPost_ret (v := .tuple #[.agg #[.int .i64 B2, .slice a3 R2.length c3, .slice a4 O2.length c4], .bool K2]) (by simp [results, Try.results24, go_sem, n0, n1, n2]) rfl ⟨_, rfl, ?_, ?_⟩
      · have hT : ∀ (i : Nat) (u : Value) (W : World), Plain.Touch (w.heap.size + 1) (w.heap.size + 2) W (W.setCell ⟨w.heap.size + 1, i, none⟩ u) := fun i u W => Plain.Touch.of_set (a := ⟨w.heap.size + 1, i, none⟩) u (Nat.le_refl _) (Nat.lt_succ_self _)
        have T0 : Plain.Touch (w.heap.size + 1) (w.heap.size + 2) W6 (((W6.setCell ⟨w.heap.size + 1, 0, none⟩ (.int .i64 B2)).setCell ⟨w.heap.size + 1, 1, none⟩ (.slice a3 R2.length c3)).setCell ⟨w.heap.size + 1, 2, none⟩ (.slice a4 O2.length c4)) := ((hT 0 _ _).trans (hT 1 _ _)).trans (hT 2 _ _)
        have h1 := (HV.out.touch T0 (.inr HLO.out)).lower (show w.heap.size ≤ W4.heap.size by have := HLO.out; omega)
        simpa only [size_setCell'] using h1
      · exact ((HBR.out.setCell (Nat.le_succ _) _).setCell (Nat.le_succ _) _).setCell (Nat.le_succ _) _
theorem spec_sub (v : Value) (b : Int) (rows : List (List Int)) (out : List Int) (w : World) (h : LiesS w v b rows out) (r : Int) (hs : rows.length + tot rows + out.length ≤ 1048576) :
    Calls Try.prog 24 #[v, .int .i64 r] w (GivesK (subB b rows out r) (subR b rows out r) (subO b rows out r) (subK b rows out r) w) := by
  cases hk : subOK b rows out r with
  | false =>
    obtain ⟨h1, h2, h3, h4⟩ := sub_no hk
    rw [h1, h2, h3, h4]
    exact spec_sub_no v b rows out w h r hs hk
  | true =>
    obtain ⟨h1, h2, h3, h4⟩ := sub_yes hk
    rw [h1, h2, h3, h4]
    exact spec_sub_yes v b rows out w h r hs hk
end Kern
end Go.Proofs.Ythnmighlgifoeaa
