/- The functions that lead a pair of neighbours on and give its term, as ShiftedSequence of the program makes them. No conditions beyond those that each states. -/
import Derived.Test.YthnmighlgifoeaaCombC
namespace Go.Proofs.Ythnmighlgifoeaa
open Go.ChangeShapes Go.WideShapes Go.ChangeAt Go.RowKit
open Go.PlainAid Plain
set_option linter.unusedVariables false
namespace Comb
open Seqs
/-- The neighbours behind a digit. -/
def nxN (b : Nat) (rows : List (List Int)) : Pr → Nat → Pr := fun s d => (nextS rows s.1 d, if d + 1 < b then nextS rows s.1 ((d + 1 : Nat) : Int) else nextS rows s.2 0)
def tmN (out : List Int) : Pr → Int := fun s => out.getD s.2.toNat 0
def OkN (rows : List (List Int)) : Pr → Prop := fun s => (0 ≤ s.1 ∧ s.1 < (rows.length : Int)) ∧ 0 ≤ s.2 ∧ s.2 < (rows.length : Int)
theorem walksN {b : Int} {rows : List (List Int)} {out : List Int} (hv : IsSeq b rows out) : Walks (0, nextS rows 0 1) (nxN b.toNat rows) b.toNat (OkN rows) := by
  have hb := hv.1
  have h0 : (0 : Int) < (rows.length : Int) := by have := hv.2.2.1; omega
  obtain ⟨_, _, _, h1⟩ := hv.next (Int.le_refl 0) h0 (show (0 : Int) ≤ 1 by decide) (by omega)
  refine ⟨⟨⟨Int.le_refl _, h0⟩, h1⟩, fun s hs d hd => ?_⟩
  obtain ⟨_, _, _, h2⟩ := hv.next hs.1.1 hs.1.2 (Int.natCast_nonneg d) (by omega)
  refine ⟨h2, ?_⟩
  show 0 ≤ (if d + 1 < b.toNat then _ else _) ∧ (if d + 1 < b.toNat then _ else _) < _
  split
  · obtain ⟨_, _, _, h3⟩ := hv.next hs.1.1 hs.1.2 (Int.natCast_nonneg (d + 1)) (by omega)
    exact h3
  · obtain ⟨_, _, _, h3⟩ := hv.next hs.2.1 hs.2.2 (Int.le_refl 0) (by omega)
    exact h3
set_option maxRecDepth 100000 in
set_option maxHeartbeats 1000000 in
theorem shift_term (b : Int) (rows : List (List Int)) (out : List Int) (an ao : Option Addr) (cn co : Nat) (w : World) (pa : Nat)
    (h : LiesS w (.agg #[.int .i64 b, .slice an rows.length cn, .slice ao out.length co]) b rows out) (c : Cells3 w pa 27 (.int .i64 b) (.slice an rows.length cn) (.slice ao out.length co)) (hv : IsSeq b rows out) (x y : Int) (y0 : Nat) (hy : y = (y0 : Int)) (hyl : y0 < rows.length) :
    Calls Try.prog 54 #[.agg #[.int .i64 x, .int .i64 y], .pointer (some ⟨pa, 0, none⟩)] w fun e w' => e = .returned (.int .i64 (out.getD y0 0)) ∧ Below w.heap.size w w' := by
  subst hy
  obtain ⟨q, s, rfl, a1, hxl, _⟩ := term_cells h hv hyl
  obtain ⟨u, hu⟩ : ∃ u, u = out.getD y0 0 := ⟨_, rfl⟩
  rw [← hu] at a1 ⊢
  have hb2 : Below w.heap.size w (w.alloc (.cells #[.int .i64 x, .int .i64 (y0 : Int)] 57)) := (Below.refl _ _).alloc (Nat.le_refl _) _
  have cx := CellsN.new w 57 [.int .i64 x, .int .i64 (y0 : Int)]
  have ca2 := c.below hb2
  have a1' := old_cellC hb2 a1
  have hyb : (y0 : Int) < (out.length : Int) := by omega
  have hy0 : (0 : Int) ≤ (y0 : Int) := Int.natCast_nonneg _
  have HCX := Lib.hid cx
  have HB := Lib.hid hb2
  have HCA := Lib.hid ca2
  have HA1 := Lib.hid a1'
  clear h c hv cx hb2 ca2 a1 a1' hu
  go_enter Try.func54, Try.ntmps54
  go_upto_region 1 with fail
  obtain ⟨W, hW⟩ : ∃ W, W = w.alloc (.cells #[.int .i64 x, .int .i64 (y0 : Int)] 57) := ⟨_, rfl⟩
  rw [← hW] at HCX HB HCA HA1 ⊢
  have k1 := HCA.out.c2
  have x1 := HCX.out.at_ (i := 1) rfl
  have e1 := HA1.out
  clear hW
  go_wp2
  go_ret
  exact ⟨rfl, HB.out⟩
set_option maxRecDepth 100000 in
set_option maxHeartbeats 1000000 in
theorem shift_next (b : Int) (rows : List (List Int)) (out : List Int) (an ao : Option Addr) (cn co : Nat) (w : World)
    (h : LiesS w (.agg #[.int .i64 b, .slice an rows.length cn, .slice ao out.length co]) b rows out) (hv : IsSeq b rows out) (x y d : Nat) (hx : x < rows.length) (hy : y < rows.length) (hd : (d : Int) < b) :
    Calls Try.prog 53 #[.agg #[.int .i64 b, .slice an rows.length cn, .slice ao out.length co], .agg #[.int .i64 (x : Int), .int .i64 (y : Int)], .int .i64 (d : Int)] w fun e w' => e = .returned (.agg #[.int .i64 (nextS rows x d), .int .i64 (if d + 1 < b.toNat then nextS rows x ((d + 1 : Nat) : Int) else nextS rows y 0)]) ∧ Below w.heap.size w w' := by
  have hb2 := hv.1
  have hb4 := hv.2.1
  obtain ⟨p, o, q, t, c, n, rfl, a1, hn, a2⟩ := step_cells h hv hx hd
  have hB : Below w.heap.size w (((w.alloc (Obj.cells #[Value.int .i64 b, .slice (some ⟨p, o, none⟩) rows.length cn, .slice ao out.length co] 27)).alloc (.cells #[.int .i64 (x : Int), .int .i64 (y : Int)] 57)).alloc (.cells #[.int .i64 0, .int .i64 0] 57)) := (((Below.refl _ _).alloc (Nat.le_refl _) _).alloc (by simp only [size_alloc'] <;> omega) _).alloc (by simp only [size_alloc'] <;> omega) _
  have cs := ((Cells3.new w 27 (.int .i64 b) (.slice (some ⟨p, o, none⟩) rows.length cn) (.slice ao out.length co)).alloc (.cells #[.int .i64 (x : Int), .int .i64 (y : Int)] 57)).alloc (.cells #[.int .i64 0, .int .i64 0] 57)
  have cx := (CellsN.new (w.alloc (Obj.cells #[Value.int .i64 b, .slice (some ⟨p, o, none⟩) rows.length cn, .slice ao out.length co] 27)) 57 [.int .i64 (x : Int), .int .i64 (y : Int)]).alloc (.cells #[.int .i64 0, .int .i64 0] 57)
  have cz := CellsN.new ((w.alloc (Obj.cells #[Value.int .i64 b, .slice (some ⟨p, o, none⟩) rows.length cn, .slice ao out.length co] 27)).alloc (.cells #[.int .i64 (x : Int), .int .i64 (y : Int)] 57)) 57 [.int .i64 0, .int .i64 0]
  rw [size_alloc'] at cx
  rw [size_alloc', size_alloc'] at cz
  have hxa : (x : Int) < (rows.length : Int) := by omega
  have hya : (y : Int) < (rows.length : Int) := by omega
  have hx0 : (0 : Int) ≤ (x : Int) := Int.natCast_nonneg _
  have hy0 : (0 : Int) ≤ (y : Int) := Int.natCast_nonneg _
  have hd0 : (0 : Int) ≤ (d : Int) := Int.natCast_nonneg _
  have hdn : (d : Int) < (n : Int) := by omega
  have HCS := Lib.hid cs
  have HCX := Lib.hid cx
  have HCZ := Lib.hid cz
  have HB := Lib.hid hB
  have HA1 := Lib.hid (old_cellC hB a1)
  have HA2 := Lib.hid (old_cellC hB a2)
  obtain ⟨u1, hu1⟩ : ∃ u, u = nextS rows x d := ⟨_, rfl⟩
  rw [← hu1] at HA2 ⊢
  by_cases hl : d + 1 < b.toNat
  case pos =>
    obtain ⟨p2, o2, q2, t2, c2, n2, e2, a3, hn2, a4⟩ := step_cells h hv hx (d := d + 1) (by omega)
    injection e2 with e2
    injection e2 with e3 e4 _
    subst e3; subst e4
    rw [if_pos hl]
    have he := a1.symm.trans a3
    injection he with he
    injection he with he1 he2 he3
    injection he1 with he1
    injection he1 with he4 he5 _
    subst he4; subst he5; subst he2
    obtain ⟨u2, hu2⟩ : ∃ u, u = nextS rows x ((d + 1 : Nat) : Int) := ⟨_, rfl⟩
    rw [← hu2] at a4 ⊢
    have HA4 := Lib.hid (old_cellC hB a4)
    have hdd : ((d : Int) == b - 1) = false := by simp; omega
    have hd1n : (d : Int) + 1 < (n : Int) := by omega
    have hd10 : (0 : Int) ≤ (d : Int) + 1 := by omega
    have hd4 : d ≤ 4 := by omega
    clear h hv cs cx cz hB a1 a2 a3 a4 hu1 hu2 he3 hl hd hn2
    go_enter Try.func53, Try.ntmps53
    go_upto_region 1 with fail
    obtain ⟨W, hW⟩ : ∃ W, W = ((w.alloc (Obj.cells #[Value.int .i64 b, .slice (some ⟨p, o, none⟩) rows.length cn, .slice ao out.length co] 27)).alloc (.cells #[.int .i64 (x : Int), .int .i64 (y : Int)] 57)).alloc (.cells #[.int .i64 0, .int .i64 0] 57) := ⟨_, rfl⟩
    have hex := (HA4.out)
    have he4 := HA4.out
    have he1 := HA1.out
    have he2 := HA2.out
    rw [← hW] at HCS HCX HCZ HB hex he4 he1 he2 ⊢
    have k0 := HCS.out.c0
    have k1 := HCS.out.c1
    have x0 := HCX.out.at_ (i := 0) rfl
    have x1 := HCX.out.at_ (i := 1) rfl
    have z0 := HCZ.out.at_ (i := 0) rfl
    have z1 := HCZ.out.at_ (i := 1) rfl
    have zf := HCZ.out.f
    clear hW
    go_wp2
    have hn := (HCZ.out.set 0 (.int .i64 u1)).set 1 (.int .i64 u2)
    have n0 := hn.at_ (i := 0) rfl
    have n1 := hn.at_ (i := 1) rfl
    refine bodyPost_ret (v := .agg #[.int .i64 u1, .int .i64 u2]) (by simp [results, Try.results53, go_sem, n0, n1]) rfl ⟨rfl, ?_⟩
    exact (HB.out.setCell (by show _ ≤ _ + 1 + 1; omega) _).setCell (by show _ ≤ _ + 1 + 1; omega) _
  case neg =>
    obtain ⟨p2, o2, q2, t2, c2, n2, e2, a3, hn2, a4⟩ := step_cells h hv hy (d := 0) (by omega)
    injection e2 with e2
    injection e2 with e3 e4 _
    subst e3; subst e4
    rw [if_neg hl]
    obtain ⟨u2, hu2⟩ : ∃ u, u = nextS rows y ((0 : Nat) : Int) := ⟨_, rfl⟩
    rw [show nextS rows (y : Int) 0 = u2 from hu2.symm]
    rw [← hu2, Nat.add_zero] at a4
    have HA3 := Lib.hid (old_cellC hB a3)
    have HA4 := Lib.hid (old_cellC hB a4)
    have hdd : ((d : Int) == b - 1) = true := by simp; omega
    have hn20 : (0 : Int) < (n2 : Int) := by omega
    clear h hv cs cx cz hB a1 a2 a3 a4 hu1 hu2 hl hd hn2
    go_enter Try.func53, Try.ntmps53
    go_upto_region 1 with fail
    obtain ⟨W, hW⟩ : ∃ W, W = ((w.alloc (Obj.cells #[Value.int .i64 b, .slice (some ⟨p, o, none⟩) rows.length cn, .slice ao out.length co] 27)).alloc (.cells #[.int .i64 (x : Int), .int .i64 (y : Int)] 57)).alloc (.cells #[.int .i64 0, .int .i64 0] 57) := ⟨_, rfl⟩
    have hex := (HA3.out)
    have he4 := HA4.out
    have he1 := HA1.out
    have he2 := HA2.out
    rw [← hW] at HCS HCX HCZ HB hex he4 he1 he2 ⊢
    have k0 := HCS.out.c0
    have k1 := HCS.out.c1
    have x0 := HCX.out.at_ (i := 0) rfl
    have x1 := HCX.out.at_ (i := 1) rfl
    have z0 := HCZ.out.at_ (i := 0) rfl
    have z1 := HCZ.out.at_ (i := 1) rfl
    have zf := HCZ.out.f
    clear hW
    go_wp2
    have hn := (HCZ.out.set 0 (.int .i64 u1)).set 1 (.int .i64 u2)
    have n0 := hn.at_ (i := 0) rfl
    have n1 := hn.at_ (i := 1) rfl
    refine bodyPost_ret (v := .agg #[.int .i64 u1, .int .i64 u2]) (by simp [results, Try.results53, go_sem, n0, n1]) rfl ⟨rfl, ?_⟩
    exact (HB.out.setCell (by show _ ≤ _ + 1 + 1; omega) _).setCell (by show _ ≤ _ + 1 + 1; omega) _
end Comb
end Go.Proofs.Ythnmighlgifoeaa
