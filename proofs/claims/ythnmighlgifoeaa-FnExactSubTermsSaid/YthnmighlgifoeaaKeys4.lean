/- The keys of the program's classes: a term and the classes of the next states, as a struct and as a list; that they can be keys of a map; the contract of the function that makes one. No conditions beyond those that each states. -/
import Derived.Test.YthnmighlgifoeaaMapK
import Derived.Test.YthnmighlgifoeaaMinVal
import Derived.Test.YthnmighlgifoeaaReach
import Derived.Test.YthnmighlgifoeaaCellsN
namespace Go.Proofs.Ythnmighlgifoeaa
open Go.ChangeShapes Go.WideShapes Go.ChangeAt Go.RowKit
open Go.PlainAid Plain
set_option linter.unusedVariables false
namespace Mins
open Seqs
def encK (k : List Int) : Value := .agg #[.int .i64 (k.getD 0 0), .int .i64 (k.getD 1 0), .int .i64 (k.getD 2 0), .int .i64 (k.getD 3 0), .int .i64 (k.getD 4 0)]
def OkK (n : Nat) (k : List Int) : Prop := k.length = n ∧ ∀ x ∈ k, 0 ≤ x ∧ x ≤ 1000
theorem keyLaid : laidOutB Try.prog = true := by kernel_rfl
theorem keyRow : (91 : TypeId) < Try.prog.types.size := of_decide_eq_true (by kernel_rfl)
theorem keyWide : (match Try.prog.underlying 91 with | some (.array _ _) | some (.struct _) => true | _ => false) = true := by kernel_rfl
set_option maxRecDepth 100000 in
theorem keyLaw : Maps.Keyed Try.prog 91 := Maps.Keyed.of_law (deep_law_laid keyLaid (m := 3) (by omega) keyRow (by kernel_rfl) keyWide)
theorem keyCells : Try.prog.cellsOf 91 = 5 := by kernel_rfl
theorem arrCells : Try.prog.cellsOf 89 = 4 := by kernel_rfl
theorem intCells : Try.prog.cellsOf 3 = 1 := by kernel_rfl
theorem keyType : Try.prog.keyType 91 = true := by kernel_rfl
theorem keyReads (a b c d e : Int) (h : ∀ x ∈ [a, b, c, d, e], 0 ≤ x ∧ x ≤ 1000) : ∃ l, Go.keyOf Try.prog 91 (.agg #[.int .i64 a, .int .i64 b, .int .i64 c, .int .i64 d, .int .i64 e]) = some l := by
  have hw : ∀ x ∈ [a, b, c, d, e], (Lit.int .i64 x).wf = true := fun x hx => by
    have := h x hx
    exact WalkArith.wf_i64 (by omega)
  have wa := hw a (by simp)
  have wb := hw b (by simp)
  have wc := hw c (by simp)
  have wd := hw d (by simp)
  have we := hw e (by simp)
  have lk : ∀ n : Nat, Try.prog.keyLits (n + 3) 91 [.int .i64 a, .int .i64 b, .int .i64 c, .int .i64 d, .int .i64 e] = some [.int .i64 a, .int .i64 b, .int .i64 c, .int .i64 d, .int .i64 e] := fun n => by
    have hr : List.range 4 = [0, 1, 2, 3] := rfl
    simp [Program.keyLits, Try.underlying91, Try.underlying89, Try.underlying3, keyCells, arrCells, intCells, wa, wb, wc, wd, we, hr]
  have h3 : 3 ≤ Try.prog.types.size := of_decide_eq_true (by kernel_rfl)
  obtain ⟨n, hn⟩ : ∃ n, Try.prog.types.size + 1 = n + 3 := ⟨Try.prog.types.size - 2, by omega⟩
  have hf : (Value.agg #[.int .i64 a, .int .i64 b, .int .i64 c, .int .i64 d, .int .i64 e]).formed Try.prog 91 = true := by
    simp [Value.formed, Try.underlying91, keyCells]
  refine ⟨.string (keyBytes [.int .i64 a, .int .i64 b, .int .i64 c, .int .i64 d, .int .i64 e]), ?_⟩
  unfold Go.keyOf
  rw [Try.underlying91]
  simp only [keyType, hf, Bool.and_self, if_true, hn]
  have hc : (Value.agg #[.int .i64 a, .int .i64 b, .int .i64 c, .int .i64 d, .int .i64 e]).cells.toList = [.int .i64 a, .int .i64 b, .int .i64 c, .int .i64 d, .int .i64 e] := rfl
  rw [hc, lk n]
  rfl
theorem getD_bd {k : List Int} (h : ∀ x ∈ k, 0 ≤ x ∧ x ≤ 1000) (i : Nat) : 0 ≤ k.getD i 0 ∧ k.getD i 0 ≤ 1000 := by
  rw [List.getD_eq_getElem?_getD]
  cases hk : k[i]? with
  | none => exact ⟨Int.le_refl _, by decide⟩
  | some x => exact h x (List.mem_of_getElem? hk)
theorem goodK (n : Nat) (hn : n ≤ 5) : GoodKeys Try.prog 91 encK (OkK n) := by
  refine ⟨keyLaw, fun k hk => keyReads _ _ _ _ _ fun x hx => ?_, fun k k' hk hk' he => ?_⟩
  · simp only [List.mem_cons, List.not_mem_nil, or_false] at hx
    rcases hx with rfl | rfl | rfl | rfl | rfl <;> exact getD_bd hk.2 _
  · unfold encK at he
    injection he with he
    simp only [Array.mk.injEq, List.cons.injEq, Value.int.injEq, and_true, true_and] at he
    obtain ⟨h0, h1, h2, h3, h4⟩ := he
    have g : ∀ i < 5, k.getD i 0 = k'.getD i 0 := fun i hi => by
      have : i = 0 ∨ i = 1 ∨ i = 2 ∨ i = 3 ∨ i = 4 := by omega
      rcases this with rfl | rfl | rfl | rfl | rfl <;> assumption
    refine List.ext_getElem (hk.1.trans hk'.1.symm) fun i h1 h2 => ?_
    have h3 := g i (by have := hk.1; omega)
    rw [List.getD_eq_getElem?_getD, List.getD_eq_getElem?_getD, List.getElem?_eq_getElem h1, List.getElem?_eq_getElem h2] at h3
    exact h3
/-- A key in the making: the term, k classes, noughts. -/
def partK (o : Int) (r cls : List Int) (k : Nat) : List Int := (o :: (r.take k).map fun x => cls.getD x.toNat 0) ++ List.replicate (4 - k) 0
theorem partK_len {o : Int} {r cls : List Int} {k : Nat} (h : k ≤ r.length) (h4 : r.length ≤ 4) : (partK o r cls k).length = 5 := by simp [partK]; omega
theorem partK_set {o : Int} {r cls : List Int} {k : Nat} {x : Int} (h : r[k]? = some x) (h4 : r.length ≤ 4) : ((partK o r cls k).map (Value.int .i64)).set (1 + k) (.int .i64 (cls.getD x.toNat 0)) = (partK o r cls (k + 1)).map (Value.int .i64) := by
  have hk := (List.getElem?_eq_some_iff.1 h).1
  have e1 : partK o r cls k = (o :: (r.take k).map fun x => cls.getD x.toNat 0) ++ 0 :: List.replicate (4 - (k + 1)) 0 := by
    rw [partK, show 4 - k = (4 - (k + 1)) + 1 from by omega, List.replicate_succ]
  have e2 : partK o r cls (k + 1) = (o :: (r.take k).map fun x => cls.getD x.toNat 0) ++ cls.getD x.toNat 0 :: List.replicate (4 - (k + 1)) 0 := by
    rw [partK, take_snoc' h]
    simp
  have hl : (o :: (r.take k).map fun x => cls.getD x.toNat 0).length = 1 + k := by simp; omega
  rw [e1, e2]
  generalize (o :: (r.take k).map fun x => cls.getD x.toNat 0) = A at hl
  rw [List.map_append, List.map_cons, set_mid _ _ _ _ (1 + k) (by rw [List.length_map]; exact hl), List.map_append, List.map_cons]
theorem partK_end {o : Int} {r cls : List Int} (i : Nat) : (partK o r cls r.length).getD i 0 = (o :: r.map fun x => cls.getD x.toNat 0).getD i 0 := by
  rw [partK, List.take_length, List.getD_eq_getElem?_getD, List.getD_eq_getElem?_getD]
  by_cases hi : i < (o :: r.map fun x => cls.getD x.toNat 0).length
  · rw [List.getElem?_append_left hi]
  · rw [List.getElem?_append_right (by omega), List.getElem?_replicate, List.getElem?_eq_none (l := o :: r.map fun x => cls.getD x.toNat 0) (by omega)]
    split <;> rfl
theorem five {l : List Int} (h : l.length = 5) : l.map (Value.int .i64) = [.int .i64 (l.getD 0 0), .int .i64 (l.getD 1 0), .int .i64 (l.getD 2 0), .int .i64 (l.getD 3 0), .int .i64 (l.getD 4 0)] := by
  match l, h with
  | [a, b, c, d, e], _ => rfl
set_option maxHeartbeats 1000000 in
theorem key_of (v : Value) (b : Int) (rows : List (List Int)) (out : List Int) (w : World) (h : LiesS w v b rows out) (hv : IsSeq b rows out) (u : Value) (cls : List Int) (hu : Lies (Value.int .i64) w u cls) (hl : cls.length = rows.length) (s : Nat) (hs : s < rows.length) :
    Calls Try.prog 101 #[v, .int .i64 s, u] w fun e w' => e = .returned (encK (keyC rows out cls s)) ∧ Below w.heap.size w w' := by
  have HCLS := Lib.hid hu
  have HS := Lib.hid h
  obtain ⟨an, cn, ao, co, rfl⟩ := h.form
  clear h
  have HB : Hid (Below w.heap.size w (w.alloc (Obj.cells #[Value.int .i64 b, Value.slice an rows.length cn, Value.slice ao out.length co] 27))) := (Below.refl _ _).alloc (Nat.le_refl _) _
  have HC := Lib.hid (Cells3.new w 27 (.int .i64 b) (.slice an rows.length cn) (.slice ao out.length co))
  have HV := Lib.hid hv
  have HL := Lib.hid hl
  have hs1 : (s : Int) < (rows.length : Int) := by omega
  have hs2 : (s : Int) < (out.length : Int) := by have := hv.2.2.2.2.1; omega
  have hs3 : s < out.length := by omega
  obtain ⟨r, hr⟩ : ∃ r, rows[s]? = some r := ⟨_, List.getElem?_eq_getElem hs⟩
  obtain ⟨o, ho⟩ : ∃ o, out[s]? = some o := ⟨_, List.getElem?_eq_getElem hs3⟩
  have hrl : (r.length : Int) = b := (hv.2.2.2.2.2.1 r (List.mem_of_getElem? hr)).1
  have hb2 : 2 ≤ b := hv.1
  have hb4 : b ≤ 4 := hv.2.1
  have hr0 : 0 < r.length := by omega
  have hr4 : r.length ≤ 4 := by omega
  obtain ⟨pa, off, hpa, q, t, c, o2, hcl⟩ := seq_row HS.out hr hr0
  have HR := Lib.hid hr
  have HO := Lib.hid ho
  have HRL := Lib.hid hrl
  obtain ⟨po, oo, hpo, ho1⟩ : ∃ po oo, ao = some ⟨po, oo, none⟩ ∧ w.cell? ⟨po, oo + s, none⟩ = some (.int .i64 o) := by
    obtain ⟨q', s', h1, h2⟩ := HS.out.cells.2 s o ho
    exact ⟨q', s', h1, h2⟩
  subst hpa; subst hpo
  have HB1 := Lib.hid (HB.out.alloc (by simp) (Obj.cells #[Value.int .i64 0, Value.int .i64 0, Value.int .i64 0, Value.int .i64 0, Value.int .i64 0] 91))
  have HC1 := Lib.hid (HC.out.alloc (Obj.cells #[Value.int .i64 0, Value.int .i64 0, Value.int .i64 0, Value.int .i64 0, Value.int .i64 0] 91))
  have HB2 := Lib.hid (HB1.out.alloc (by simp <;> omega) (Obj.cells #[Value.int .i64 o, Value.int .i64 0, Value.int .i64 0, Value.int .i64 0, Value.int .i64 0] 91))
  have HC2 := Lib.hid (HC1.out.alloc (Obj.cells #[Value.int .i64 o, Value.int .i64 0, Value.int .i64 0, Value.int .i64 0, Value.int .i64 0] 91))
  have o2' := old_cell HB1.out o2
  have ho1' := old_cell HB1.out ho1
  have o2'' := old_cell HB2.out o2
  have HRB := Lib.hid (hv.2.2.2.2.2.1 r (List.mem_of_getElem? hr)).2
  have hK : CellsN (((w.alloc (Obj.cells #[Value.int .i64 b, Value.slice (some ⟨pa, off, none⟩) rows.length cn, Value.slice (some ⟨po, oo, none⟩) out.length co] 27)).alloc (Obj.cells #[Value.int .i64 0, Value.int .i64 0, Value.int .i64 0, Value.int .i64 0, Value.int .i64 0] 91)).alloc (Obj.cells #[Value.int .i64 o, Value.int .i64 0, Value.int .i64 0, Value.int .i64 0, Value.int .i64 0] 91)) (w.heap.size + 1 + 1) 91 ((partK o r cls 0).map (Value.int .i64)) := by
    have h1 := CellsN.new ((w.alloc (Obj.cells #[Value.int .i64 b, Value.slice (some ⟨pa, off, none⟩) rows.length cn, Value.slice (some ⟨po, oo, none⟩) out.length co] 27)).alloc (Obj.cells #[Value.int .i64 0, Value.int .i64 0, Value.int .i64 0, Value.int .i64 0, Value.int .i64 0] 91)) 91 [Value.int .i64 o, Value.int .i64 0, Value.int .i64 0, Value.int .i64 0, Value.int .i64 0]
    rw [size_alloc', size_alloc'] at h1
    exact h1
  have hZ : CellsN (((w.alloc (Obj.cells #[Value.int .i64 b, Value.slice (some ⟨pa, off, none⟩) rows.length cn, Value.slice (some ⟨po, oo, none⟩) out.length co] 27)).alloc (Obj.cells #[Value.int .i64 0, Value.int .i64 0, Value.int .i64 0, Value.int .i64 0, Value.int .i64 0] 91)).alloc (Obj.cells #[Value.int .i64 o, Value.int .i64 0, Value.int .i64 0, Value.int .i64 0, Value.int .i64 0] 91)) (w.heap.size + 1) 91 [Value.int .i64 0, Value.int .i64 0, Value.int .i64 0, Value.int .i64 0, Value.int .i64 0] := by
    have h1 := (CellsN.new (w.alloc (Obj.cells #[Value.int .i64 b, Value.slice (some ⟨pa, off, none⟩) rows.length cn, Value.slice (some ⟨po, oo, none⟩) out.length co] 27)) 91 [Value.int .i64 0, Value.int .i64 0, Value.int .i64 0, Value.int .i64 0, Value.int .i64 0]).alloc (Obj.cells #[Value.int .i64 o, Value.int .i64 0, Value.int .i64 0, Value.int .i64 0, Value.int .i64 0] 91)
    rw [size_alloc'] at h1
    exact h1
  have HK := Lib.hid hK
  have HZ := Lib.hid hZ
  clear hu hv hl hr ho hrl HB HC hK hZ
  have k0 := HC1.out.c0
  have k1 := HC1.out.c1
  have k2 := HC1.out.c2
  have l0 := HC2.out.c0
  have l1 := HC2.out.c1
  have l2 := HC2.out.c2
  go_enter Try.func101, Try.ntmps101
  go_wp2_with fail
  have HCL := Lib.hid hcl
  clear hcl
  obtain ⟨W0, hW0⟩ : ∃ W, W = ((w.alloc (Obj.cells #[Value.int .i64 b, Value.slice (some ⟨pa, off, none⟩) rows.length cn, Value.slice (some ⟨po, oo, none⟩) out.length co] 27)).alloc (Obj.cells #[Value.int .i64 0, Value.int .i64 0, Value.int .i64 0, Value.int .i64 0, Value.int .i64 0] 91)).alloc (Obj.cells #[Value.int .i64 o, Value.int .i64 0, Value.int .i64 0, Value.int .i64 0, Value.int .i64 0] 91) := ⟨_, rfl⟩
  rw [← hW0] at HB2 HK HZ ⊢
  clear hW0 HB1 HC1 HC2 k0 k1 k2 l0 l1 l2 o2 o2' o2'' ho1 ho1'
  go_loopw [22] (fun i' wr => ∃ k : Nat, k ≤ r.length ∧ i' = .int .i64 k ∧ Hid (CellsN wr (w.heap.size + 1 + 1) 91 ((partK o r cls k).map (Value.int .i64))) ∧ Hid (CellsN wr (w.heap.size + 1) 91 [Value.int .i64 0, Value.int .i64 0, Value.int .i64 0, Value.int .i64 0, Value.int .i64 0]) ∧ Hid (Below w.heap.size w wr)) (fun i' _ => r.length - (intOf i').toNat)
  case atStart => exact ⟨0, Nat.zero_le _, rfl, HK, HZ, HB2⟩
  case round =>
    clear HK HZ HB2
    obtain ⟨k, hk, rfl, hK, hZ, hB⟩ := hrel
    by_cases hlt : k < r.length
    case pos =>
      obtain ⟨x, hx⟩ : ∃ x, r[k]? = some x := ⟨_, List.getElem?_eq_getElem hlt⟩
      have hxb := HRB.out x (List.mem_of_getElem? hx)
      obtain ⟨xn, rfl⟩ : ∃ xn : Nat, x = (xn : Int) := ⟨x.toNat, by omega⟩
      have hxn : xn < cls.length := by have := HL.out; omega
      have hxn2 : (xn : Int) < (cls.length : Int) := by omega
      have hx0 : (0 : Int) ≤ (xn : Int) := Int.natCast_nonneg _
      obtain ⟨cq, cs, cc, rfl, hcc⟩ := ints_at HCLS.out (by omega)
      obtain ⟨y, hy⟩ : ∃ y, cls[xn]? = some y := ⟨_, List.getElem?_eq_getElem hxn⟩
      have o3 := old_cell hB.out (HCL.out k _ hx)
      have o4 := old_cell hB.out (hcc xn y hy)
      have HY : Hid (cls.getD ((xn : Int)).toNat 0 = y) := by show _ = _; rw [List.getD_eq_getElem?_getD, Int.toNat_natCast, hy]; rfl
      have hPS := partK_set (o := o) (cls := cls) hx hr4
      rw [HY.out] at hPS
      have hKS : CellsN (wr.setCell ⟨w.heap.size + 1 + 1, 1 + k, none⟩ (.int .i64 y)) (w.heap.size + 1 + 1) 91 ((partK o r cls (k + 1)).map (Value.int .i64)) := by
        rw [← hPS]
        exact hK.out.set (1 + k) _
      have HKS := Lib.hid hKS
      obtain ⟨z, hz⟩ : ∃ z, ((partK o r cls k).map (Value.int .i64))[1 + k]? = some z := ⟨_, List.getElem?_eq_getElem (by rw [List.length_map, partK_len (by omega) hr4]; omega)⟩
      have o5 := hK.out.at_ hz
      have o6 := hK.out.f (1 + k)
      have hk4 : (k : Int) < 4 := by omega
      have hk0 : (0 : Int) ≤ (k : Int) := Int.natCast_nonneg _
      have hk4' : k < 4 := by omega
      clear hx hxb hcc hy hPS hKS hz
      go_wp2
      go_roundw
      case rel => exact ⟨k + 1, by omega, by go_num, HKS, hZ.out.other (by simp) _, hB.out.setCell (by show _ ≤ _ + 1 + 1; omega) _⟩
      case measure => simp [intOf]; omega
    case neg =>
      obtain rfl : k = r.length := by omega
      have HF : Hid (encK (keyC rows out cls s) = .agg #[.int .i64 ((partK o r cls r.length).getD 0 0), .int .i64 ((partK o r cls r.length).getD 1 0), .int .i64 ((partK o r cls r.length).getD 2 0), .int .i64 ((partK o r cls r.length).getD 3 0), .int .i64 ((partK o r cls r.length).getD 4 0)]) := by
        show _ = _
        have e1 : keyC rows out cls s = o :: r.map fun x => cls.getD x.toNat 0 := by
          rw [keyC, List.getD_eq_getElem?_getD, List.getD_eq_getElem?_getD, HO.out, HR.out]
          rfl
        simp only [partK_end, e1, encK]
      have hKF := hK.out
      rw [five (partK_len (Nat.le_refl _) hr4)] at hKF
      obtain ⟨v0, hv0⟩ : ∃ x, x = (partK o r cls r.length).getD 0 0 := ⟨_, rfl⟩
      obtain ⟨v1, hv1⟩ : ∃ x, x = (partK o r cls r.length).getD 1 0 := ⟨_, rfl⟩
      obtain ⟨v2, hv2⟩ : ∃ x, x = (partK o r cls r.length).getD 2 0 := ⟨_, rfl⟩
      obtain ⟨v3, hv3⟩ : ∃ x, x = (partK o r cls r.length).getD 3 0 := ⟨_, rfl⟩
      obtain ⟨v4, hv4⟩ : ∃ x, x = (partK o r cls r.length).getD 4 0 := ⟨_, rfl⟩
      rw [← hv0, ← hv1, ← hv2, ← hv3, ← hv4] at hKF HF
      clear hv0 hv1 hv2 hv3 hv4 hK
      have m0 := hKF.at_ (i := 0) rfl
      have m1 := hKF.at_ (i := 1) rfl
      have m2 := hKF.at_ (i := 2) rfl
      have m3 := hKF.at_ (i := 3) rfl
      have m4 := hKF.at_ (i := 4) rfl
      have z0 := hZ.out.at_ (i := 0) rfl
      have z1 := hZ.out.at_ (i := 1) rfl
      have z2 := hZ.out.at_ (i := 2) rfl
      have z3 := hZ.out.at_ (i := 3) rfl
      have z4 := hZ.out.at_ (i := 4) rfl
      have zf := hZ.out.f
      have HKF := Lib.hid hKF
      clear hKF
      go_wp2
      have hZ5 := ((((hZ.out.set 0 (.int .i64 v0)).set 1 (.int .i64 v1)).set 2 (.int .i64 v2)).set 3 (.int .i64 v3)).set 4 (.int .i64 v4)
      have n0 := hZ5.at_ (i := 0) rfl
      have n1 := hZ5.at_ (i := 1) rfl
      have n2 := hZ5.at_ (i := 2) rfl
      have n3 := hZ5.at_ (i := 3) rfl
      have n4 := hZ5.at_ (i := 4) rfl
      refine bodyPost_ret (v := .agg #[.int .i64 v0, .int .i64 v1, .int .i64 v2, .int .i64 v3, .int .i64 v4]) (by simp [results, Try.results101, go_sem, n0, n1, n2, n3, n4]) rfl ⟨by rw [HF.out], ?_⟩
      exact ((((hB.out.setCell (by show _ ≤ _ + 1; omega) _).setCell (by show _ ≤ _ + 1; omega) _).setCell (by show _ ≤ _ + 1; omega) _).setCell (by show _ ≤ _ + 1; omega) _).setCell (by show _ ≤ _ + 1; omega) _
end Mins
end Go.Proofs.Ythnmighlgifoeaa
