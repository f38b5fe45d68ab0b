/- Contracts of ShortestSquare, of the model and of the program. No conditions beyond those that each states. -/
import Derived.Test.YtojmlhcgghaceaaPowG2
namespace Go.Proofs.Ytojmlhcgghaceaa
open Go.ChangeShapes Go.WideShapes Go.ChangeAt Go.RowKit
open Go.PlainAid Plain
set_option linter.unusedVariables false
namespace Fac
set_option maxHeartbeats 1000000 in
theorem cpp (e f : Sqr) (w : World) :
    Calls Try.prog 48 #[.agg #[.int .i64 (e.1 : Int), .int .i64 (e.2 : Int), .int .i64 (2 * (e.2 : Int))], .agg #[.int .i64 (f.1 : Int), .int .i64 (f.2 : Int), .int .i64 (2 * (f.2 : Int))]] w fun en w' => en = .returned (.int .i64 (Lib.compareInt (e.2 : Int) (f.2 : Int))) ∧ Below w.heap.size w w' := by
  have HC := Lib.hid (cmp_int (e.2 : Int) (f.2 : Int))
  obtain ⟨z, hz⟩ : ∃ z, z = Lib.compareInt (e.2 : Int) (f.2 : Int) := ⟨_, rfl⟩
  rw [← hz] at HC ⊢
  obtain ⟨a, b⟩ := e
  obtain ⟨c, d⟩ := f
  dsimp only at HC ⊢
  clear hz
  go_enter Try.func48, Try.ntmps48
  go_wp2_with fail
  refine (HC.out _).mono ?_
  rintro e W1 ⟨rfl, rfl⟩
  go_wp2
  go_ret
  exact ⟨rfl, ((Below.refl _ _).alloc (Nat.le_refl _) _).alloc (by simp) _⟩
theorem cpi_lt (x y : Nat) : (Lib.compareInt (x : Int) (y : Int) < 0 ↔ x < y) ∧ -1 ≤ Lib.compareInt (x : Int) (y : Int) ∧ Lib.compareInt (x : Int) (y : Int) ≤ 1 := by
  unfold Lib.compareInt
  by_cases h1 : (x : Int) < (y : Int)
  · rw [if_pos h1]
    exact ⟨⟨fun _ => by omega, fun _ => by omega⟩, by omega, by omega⟩
  · rw [if_neg h1]
    split
    · exact ⟨⟨fun _ => by omega, fun _ => by omega⟩, by omega, by omega⟩
    · exact ⟨⟨fun _ => by omega, fun _ => by omega⟩, by omega, by omega⟩
/-- A stored struct of three ints in its block. -/
theorem stored3 {w : World} {b : Nat} {t : TypeId} {x y z : Value} (h : Cells3 w b t x y z) (x' y' z' : Value) : Cells3 (((w.setCell ⟨b, 0, none⟩ x').setCell ⟨b, 1, none⟩ y').setCell ⟨b, 2, none⟩ z') b t x' y' z' := ((h.set0 x').set1 y').set2 z'
theorem below3 {w0 w : World} {n b : Nat} (h : Below n w0 w) (hb : n ≤ b) (x' y' z' : Value) : Below n w0 (((w.setCell ⟨b, 0, none⟩ x').setCell ⟨b, 1, none⟩ y').setCell ⟨b, 2, none⟩ z') := ((h.setCell hb _).setCell hb _).setCell hb _
set_option maxHeartbeats 4000000 in
theorem minf (v : Value) (L : List Sqr) (base : Nat) (w : World) (h : OwnT 35 3 w base v (sqL L)) (hl : 0 < L.length) :
    Calls Try.prog 47 #[v, .func (.func 48) #[] #[]] w fun en w' => en = .returned (.agg #[.int .i64 ((mnE L).1 : Int), .int .i64 ((mnE L).2 : Int), .int .i64 (2 * ((mnE L).2 : Int))]) ∧ Below w.heap.size w w' := by
  have eg : ∀ args w, (callFunc 48 args).run Try.prog w = .ok (.enter 48 args) w := enters_of Try.func48 (by kernel_rfl) rfl
  obtain ⟨a, c, rfl, hag⟩ := h.form
  have hsm := h.small
  obtain ⟨g, rfl⟩ := hag (by rw [sqL_len]; exact hl)
  have HO := Lib.hid h
  rw [sqL_len] at hsm ⊢
  obtain ⟨e0, he0⟩ : ∃ x, L[0]? = some x := ⟨_, List.getElem?_eq_getElem hl⟩
  have ha := h.below ((Below.refl w.heap.size w).alloc (Nat.le_refl _) (.cells #[.int .i64 0, .int .i64 0, .int .i64 0] 35))
  have p0 := ha.cell (j := 0) (sqL_at he0) rfl
  have p1 := ha.cell (j := 1) (sqL_at he0) rfl
  have p2 := ha.cell (j := 2) (sqL_at he0) rfl
  rw [Nat.zero_mul, Nat.add_zero] at p0
  rw [Nat.zero_mul, Nat.zero_add] at p1 p2
  have HS : Hid (mnE (L.take 1) = e0) := by
    cases L with
    | nil => simp at hl
    | cons x L => simp at he0; subst he0; rfl
  clear h hag he0 ha
  obtain ⟨x0, y0⟩ := e0
  dsimp only at p0 p1 p2
  have hl1 : ¬ L.length < 1 := by omega
  go_enter Try.func47, Try.ntmps47
  go_upto_region 4 with (fail)
  obtain ⟨W1, hW1⟩ : ∃ W, W = (w.alloc (.cells #[.int .i64 0, .int .i64 0, .int .i64 0] 35)).alloc (.cells #[.int .i64 (x0 : Int), .int .i64 (y0 : Int), .int .i64 (2 * (y0 : Int))] 35) := ⟨_, rfl⟩
  have hb1 : Below w.heap.size w W1 := by rw [hW1]; exact ((Below.refl _ _).alloc (Nat.le_refl _) _).alloc (by simp) _
  have hc1 : Cells3 W1 w.heap.size 35 (.int .i64 0) (.int .i64 0) (.int .i64 0) := by rw [hW1]; exact (Cells3.new w 35 (.int .i64 0) (.int .i64 0) (.int .i64 0)).alloc _
  have hc2 : Cells3 W1 (w.heap.size + 1) 35 (.int .i64 (x0 : Int)) (.int .i64 (y0 : Int)) (.int .i64 (2 * (y0 : Int))) := by
    rw [hW1]
    have := Cells3.new (w.alloc (.cells #[.int .i64 0, .int .i64 0, .int .i64 0] 35)) 35 (.int .i64 (x0 : Int)) (.int .i64 (y0 : Int)) (.int .i64 (2 * (y0 : Int)))
    rw [size_alloc'] at this
    exact this
  rw [← hW1]
  have HB1 := Lib.hid hb1
  have HC1 := Lib.hid hc1
  have HC2 := Lib.hid hc2
  clear hW1 hb1 hc1 hc2 p0 p1 p2
  go_wp2
  go_loopw [6] (fun i' wr => ∃ (i x y : Nat), 0 < i ∧ i ≤ L.length ∧ i' = .int .i64 i ∧ Hid (mnE (L.take i) = (x, y)) ∧ Hid (Cells3 wr w.heap.size 35 (.int .i64 0) (.int .i64 0) (.int .i64 0)) ∧ Hid (Cells3 wr (w.heap.size + 1) 35 (.int .i64 (x : Int)) (.int .i64 (y : Int)) (.int .i64 (2 * (y : Int)))) ∧ Hid (Below w.heap.size w wr)) (fun i' _ => L.length - (intOf i').toNat)
  case atStart => exact ⟨1, x0, y0, by omega, by omega, rfl, HS, HC1, HC2, HB1⟩
  case round =>
    obtain ⟨i, x, y, hi0, hi, rfl, HX, HA, HC, HB⟩ := hrel
    by_cases hlt : i < L.length
    · obtain ⟨e, he⟩ : ∃ x, L[i]? = some x := ⟨_, List.getElem?_eq_getElem hlt⟩
      have HO1 := HO.out.below HB.out
      have p0 := HO1.cell (j := 0) (sqL_at he) rfl
      have p1 := HO1.cell (j := 1) (sqL_at he) rfl
      have p2 := HO1.cell (j := 2) (sqL_at he) rfl
      rw [Nat.add_zero] at p0
      have HT : Hid (mnE (L.take (i + 1)) = if e.2 < y then e else (x, y)) := by
        show _ = _
        rw [List.take_succ_eq_append_getElem hlt, mnE_snoc (by intro h; have h2 : (L.take i).length = 0 := (congrArg List.length h).trans rfl; rw [List.length_take] at h2; omega), HX.out]
        have e2 : L[i] = e := by rw [List.getElem?_eq_getElem hlt] at he; exact Option.some.inj he
        rw [e2]
      obtain ⟨ea, eb⟩ := e
      have c0 := HC.out.c0
      have c1 := HC.out.c1
      have c2 := HC.out.c2
      have hD : Below wr.heap.size wr wr.drew := below_drew' wr
      have HCC := Lib.hid (cpp (ea, eb) (x, y) wr.drew)
      have HGT := cpi_lt eb y
      dsimp only at p0 p1 p2 HCC HT
      obtain ⟨z, hz⟩ : ∃ z, z = Lib.compareInt (eb : Int) (y : Int) := ⟨_, rfl⟩
      rw [← hz] at HCC HGT
      obtain ⟨hgt, hz1, hz2⟩ := HGT
      have hil : (i : Int) < (L.length : Int) := by omega
      clear hz he HO1
      by_cases hc : z < 0
      · have HN : Hid (mnE (L.take (i + 1)) = (ea, eb)) := by have := HT.out; rw [if_pos (hgt.1 hc)] at this; exact this
        have hcd := decide_eq_true hc
        clear hgt HT
        go_wp2_with fail
        go_region_law (first | (go_simp; go_at_fn 48; (with_reducible refine HCC.out.mono ?_); rintro e W8 ⟨rfl, b8⟩; have bA : Below wr.heap.size wr W8 := hD.trans (b8.mono hD.size)))
        all_goals
          have HBA := Lib.hid bA
          have HA2 := Lib.hid (HA.out.below bA)
          have HC2 := Lib.hid (HC.out.below bA)
          have HB2 := Lib.hid (HB.out.trans (bA.mono HB.out.size))
          have q0 := (bA.cell (World.block_lt_of_cell? _ _ p0)).trans p0
          have q1 := (bA.cell (World.block_lt_of_cell? _ _ p1)).trans p1
          have q2 := (bA.cell (World.block_lt_of_cell? _ _ p2)).trans p2
          have g0 := HC2.out.f 0
          have g1 := HC2.out.f 1
          have g2 := HC2.out.f 2
          have k0 := HC2.out.c0
          have k1 := HC2.out.c1
          have k2 := HC2.out.c2
          clear p0 p1 p2 c0 c1 c2 b8 bA
          go_upto_region 6 with (fail)
          have HA3 : Hid (Cells3 (((W8.setCell ⟨w.heap.size + 1, 0, none⟩ (.int .i64 ea)).setCell ⟨w.heap.size + 1, 1, none⟩ (.int .i64 eb)).setCell ⟨w.heap.size + 1, 2, none⟩ (.int .i64 (2 * (eb : Int)))) w.heap.size 35 (.int .i64 0) (.int .i64 0) (.int .i64 0)) := ((HA2.out.other (by simp) _).other (by simp) _).other (by simp) _
          have HC3 := Lib.hid (stored3 HC2.out (.int .i64 ea) (.int .i64 eb) (.int .i64 (2 * (eb : Int))))
          have HB3 := Lib.hid (below3 HB2.out (show w.heap.size ≤ w.heap.size + 1 by omega) (.int .i64 ea) (.int .i64 eb) (.int .i64 (2 * (eb : Int))))
          go_wp2
          go_roundw
          case rel => exact ⟨i + 1, ea, eb, by omega, by omega, by go_num, HN, HA3, HC3, HB3⟩
          case measure => simp [intOf]; omega
      · have HN : Hid (mnE (L.take (i + 1)) = (x, y)) := by have := HT.out; rw [if_neg (fun h => hc (hgt.2 h))] at this; exact this
        have hcd := decide_eq_false hc
        clear hgt HT
        go_wp2_with fail
        go_region_law (first | (go_simp; go_at_fn 48; (with_reducible refine HCC.out.mono ?_); rintro e W8 ⟨rfl, b8⟩; have bA : Below wr.heap.size wr W8 := hD.trans (b8.mono hD.size)))
        all_goals
          have HA2 := Lib.hid (HA.out.below bA)
          have HC2 := Lib.hid (HC.out.below bA)
          have HB2 := Lib.hid (HB.out.trans (bA.mono HB.out.size))
          clear p0 p1 p2 c0 c1 c2 b8 bA
          go_wp2
          go_roundw
          case rel => exact ⟨i + 1, x, y, by omega, by omega, by go_num, HN, HA2, HC2, HB2⟩
          case measure => simp [intOf]; omega
    · obtain rfl : i = L.length := by omega
      have HE : Hid ((x, y) = mnE L) := by have := HX.out; rw [List.take_length] at this; exact this.symm
      have a0 := HA.out.c0
      have a1 := HA.out.c1
      have a2 := HA.out.c2
      have c0 := HC.out.c0
      have c1 := HC.out.c1
      have c2 := HC.out.c2
      have f0 := HA.out.f 0
      have f1 := HA.out.f 1
      have f2 := HA.out.f 2
      have h3 := stored3 HA.out (.int .i64 x) (.int .i64 y) (.int .i64 (2 * (y : Int)))
      have r0 := h3.c0
      have r1 := h3.c1
      have r2 := h3.c2
      clear h3
      go_wp2
      refine bodyPost_ret (v := .agg #[.int .i64 (x : Int), .int .i64 (y : Int), .int .i64 (2 * (y : Int))]) (by simp [results, Try.results47, go_sem, r0, r1, r2]) rfl ?_
      exact ⟨by rw [← HE.out], below3 HB.out (Nat.le_refl _) _ _ _⟩
/-- What ShortestSquare hands back. -/
def pwR (a b : Int) (k : Bool) : Value := .tuple #[.agg #[.int .i64 a, .int .i64 b, .int .i64 (2 * b)], .bool k]
set_option maxHeartbeats 4000000 in
theorem impl_short (v : Value) (u : List Int) (w : World) (h : LiesC w v u) :
    Calls Try.prog 30 #[v] w fun e w' => e = .returned (.tuple #[.agg #[.int .i64 ((mnE (sqV u)).1 : Int), .int .i64 ((mnE (sqV u)).2 : Int), .int .i64 (2 * ((mnE (sqV u)).2 : Int))], .bool (decide (0 < (sqV u).length))]) ∧ Below w.heap.size w w' := by
  have hb0 : Below w.heap.size w (w.alloc (.cells #[.int .i64 0, .int .i64 0, .int .i64 0] 35)) := (Below.refl _ _).alloc (Nat.le_refl _) _
  have HC := Lib.hid (impl_sq v u (w.alloc (.cells #[.int .i64 0, .int .i64 0, .int .i64 0] 35)) (h.below hb0))
  have HZ := Lib.hid (Cells3.new w 35 (.int .i64 0) (.int .i64 0) (.int .i64 0))
  have HB0 := Lib.hid hb0
  obtain ⟨pa, pc, rfl, hcap⟩ := h.form
  obtain ⟨L, hL⟩ : ∃ L, L = sqV u := ⟨_, rfl⟩
  have hLl : L.length ≤ 4096 := by rw [hL]; exact sqV_len u
  rw [← hL] at HC ⊢
  clear h hb0 hL
  go_enter Try.func30, Try.ntmps30
  go_wp2_with fail
  obtain ⟨W0, hW0⟩ : ∃ W, W = w.alloc (.cells #[.int .i64 0, .int .i64 0, .int .i64 0] 35) := ⟨_, rfl⟩
  rw [← hW0] at HC HZ HB0 ⊢
  clear hW0
  refine HC.out.mono ?_
  rintro e W1 ⟨vs, rfl, hv, b1⟩
  obtain ⟨sa, sc, hvs⟩ := hv.form
  rw [sqL_len] at hvs
  subst hvs
  have HV := Lib.hid hv.1
  have HZ1 := Lib.hid (HZ.out.below b1)
  have HB1 := Lib.hid (HB0.out.trans (b1.mono HB0.out.size))
  clear hv b1
  by_cases h0 : 0 < L.length
  · have hd0 : ((L.length : Int) == 0) = false := by simp; intro e; rw [e] at h0; simp at h0
    have HM := Lib.hid (minf _ L _ W1 HV.out h0)
    have HK : Hid (true = decide (0 < L.length)) := (decide_eq_true h0).symm
    go_wp2_with fail
    refine HM.out.mono ?_
    rintro e W2 ⟨rfl, b2⟩
    have HZ2 := Lib.hid (HZ1.out.below b2)
    have HB2 := Lib.hid (HB1.out.trans (b2.mono HB1.out.size))
    obtain ⟨M, hM⟩ : ∃ M, M = mnE L := ⟨_, rfl⟩
    have HMM := Lib.hid hM
    rw [← hM]
    obtain ⟨x, y⟩ := M
    have a0 := HZ2.out.c0
    have a1 := HZ2.out.c1
    have a2 := HZ2.out.c2
    have f0 := HZ2.out.f 0
    have f1 := HZ2.out.f 1
    have f2 := HZ2.out.f 2
    have h3 := stored3 HZ2.out (.int .i64 x) (.int .i64 y) (.int .i64 (2 * (y : Int)))
    have r0 := h3.c0
    have r1 := h3.c1
    have r2 := h3.c2
    clear h3 b2 hM HM
    go_wp2
    refine bodyPost_ret (v := .tuple #[.agg #[.int .i64 (x : Int), .int .i64 (y : Int), .int .i64 (2 * (y : Int))], .bool true]) (by simp [results, Try.results30, go_sem, r0, r1, r2]) rfl ?_
    exact ⟨by rw [← HK.out, ← HMM.out], below3 HB2.out (Nat.le_refl _) _ _ _⟩
  · have hd0 : ((L.length : Int) == 0) = true := by rw [show L.length = 0 from by omega]; rfl
    have hLn : L = [] := List.eq_nil_of_length_eq_zero (by omega)
    have HLN := Lib.hid hLn
    have a0 := HZ1.out.c0
    have a1 := HZ1.out.c1
    have a2 := HZ1.out.c2
    have f0 := HZ1.out.f 0
    have f1 := HZ1.out.f 1
    have f2 := HZ1.out.f 2
    have h3 := stored3 HZ1.out (.int .i64 0) (.int .i64 0) (.int .i64 0)
    have r0 := h3.c0
    have r1 := h3.c1
    have r2 := h3.c2
    clear h3 hLn
    go_wp2
    refine bodyPost_ret (v := .tuple #[.agg #[.int .i64 0, .int .i64 0, .int .i64 0], .bool false]) (by simp [results, Try.results30, go_sem, r0, r1, r2]) rfl ?_
    exact ⟨by rw [HLN.out]; rfl, below3 HB1.out (Nat.le_refl _) _ _ _⟩
theorem mnE_take {L : List Sqr} {i : Nat} {e : Sqr} {x y : Nat} (he : L[i]? = some e) (hx : mnE (L.take i) = (x, y)) (h0 : 0 < i) : mnE (L.take (i + 1)) = if e.2 < y then e else (x, y) := by
  obtain ⟨hlt, e2⟩ := List.getElem?_eq_some_iff.1 he
  rw [List.take_succ_eq_append_getElem hlt, mnE_snoc (by intro h; have h2 : (L.take i).length = 0 := (congrArg List.length h).trans rfl; rw [List.length_take] at h2; omega), hx, e2]
theorem mnE_first {L : List Sqr} {e : Sqr} (he : L[0]? = some e) : mnE (L.take 1) = e := by
  cases L with
  | nil => simp at he
  | cons x L => simp at he; subst he; rfl
set_option maxHeartbeats 4000000 in
theorem spec_short (v : Value) (u : List Int) (w : World) (h : Lies (Value.int .i64) w v u) :
    Calls Try.prog 29 #[v] w fun e w' => e = .returned (.tuple #[.agg #[.int .i64 ((mnE (sqV u)).1 : Int), .int .i64 ((mnE (sqV u)).2 : Int), .int .i64 (2 * ((mnE (sqV u)).2 : Int))], .bool (decide (0 < (sqV u).length))]) ∧ Below w.heap.size w w' := by
  have hb0 : Below w.heap.size w (w.alloc (.cells #[.int .i64 0, .int .i64 0, .int .i64 0] 35)) := (Below.refl _ _).alloc (Nat.le_refl _) _
  have HC := Lib.hid (spec_sq v u (w.alloc (.cells #[.int .i64 0, .int .i64 0, .int .i64 0] 35)) (h.below hb0))
  have HZ := Lib.hid (Cells3.new w 35 (.int .i64 0) (.int .i64 0) (.int .i64 0))
  have HB0 := Lib.hid hb0
  obtain ⟨pa, pc, rfl⟩ := lies_shape h
  obtain ⟨L, hL⟩ : ∃ L, L = sqV u := ⟨_, rfl⟩
  have hLl : L.length ≤ 4096 := by rw [hL]; exact sqV_len u
  rw [← hL] at HC ⊢
  clear h hb0 hL
  go_enter Try.func29, Try.ntmps29
  go_wp2_with fail
  obtain ⟨W0, hW0⟩ : ∃ W, W = w.alloc (.cells #[.int .i64 0, .int .i64 0, .int .i64 0] 35) := ⟨_, rfl⟩
  rw [← hW0] at HC HZ HB0 ⊢
  clear hW0
  refine HC.out.mono ?_
  rintro e W1 ⟨vs, rfl, hv, b1⟩
  obtain ⟨sa, sc, hvs⟩ := hv.form
  have hag := hv.1.form
  rw [sqL_len] at hvs
  subst hvs
  have HAG : Hid (0 < L.length → ∃ g, sa = some ⟨g, 0, none⟩) := fun h0 => by
    obtain ⟨a, c, h1, h2⟩ := hag
    injection h1 with h1
    subst h1
    exact h2 (by rw [sqL_len]; exact h0)
  have HV := Lib.hid hv.1
  have HZ1 := Lib.hid (HZ.out.below b1)
  have HB1 := Lib.hid (HB0.out.trans (b1.mono HB0.out.size))
  clear hv b1 hag
  go_upto_region 3 with (fail)
  have HQ : Hid (Cells3 (W1.alloc (.cells #[.int .i64 0, .int .i64 0, .int .i64 0] 35)) W1.heap.size 35 (.int .i64 0) (.int .i64 0) (.int .i64 0)) := Cells3.new W1 35 (.int .i64 0) (.int .i64 0) (.int .i64 0)
  have HBW : Hid (Below W1.heap.size W1 (W1.alloc (.cells #[.int .i64 0, .int .i64 0, .int .i64 0] 35))) := (Below.refl _ _).alloc (Nat.le_refl _) _
  obtain ⟨W2, hW2⟩ : ∃ W, W = W1.alloc (.cells #[.int .i64 0, .int .i64 0, .int .i64 0] 35) := ⟨_, rfl⟩
  rw [← hW2] at HQ HBW ⊢
  clear hW2
  have hzl := HZ1.out.lt
  go_wp2
  go_loopw [6, 7] (fun f' i' wr => ∃ (i x y : Nat) (c : Bool), i ≤ L.length ∧ f' = .bool c ∧ i' = .int .i64 i ∧ Hid (c = decide (0 < i)) ∧ Hid (mnE (L.take i) = (x, y)) ∧ Hid (Cells3 wr W1.heap.size 35 (.int .i64 (x : Int)) (.int .i64 (y : Int)) (.int .i64 (2 * (y : Int)))) ∧ Hid (Below W1.heap.size W1 wr)) (fun _ i' _ => L.length - (intOf i').toNat)
  case atStart => exact ⟨0, 0, 0, false, Nat.zero_le _, rfl, rfl, rfl, rfl, HQ, HBW⟩
  case round =>
    obtain ⟨i, x, y, c, hi, rfl, rfl, HK, HX, HC, HB⟩ := hrel
    by_cases hlt : i < L.length
    · obtain ⟨e, he⟩ : ∃ x, L[i]? = some x := ⟨_, List.getElem?_eq_getElem hlt⟩
      obtain ⟨g, rfl⟩ := HAG.out (by omega)
      have HO1 := HV.out.below HB.out
      rw [show L.length = (sqL L).length from (sqL_len L).symm] at HO1
      have p0 := HO1.cell (j := 0) (sqL_at he) rfl
      have p1 := HO1.cell (j := 1) (sqL_at he) rfl
      have p2 := HO1.cell (j := 2) (sqL_at he) rfl
      rw [Nat.add_zero] at p0
      have HEE := Lib.hid he
      obtain ⟨ea, eb⟩ := e
      dsimp only at p0 p1 p2
      have c0 := HC.out.c0
      have c1 := HC.out.c1
      have c2 := HC.out.c2
      have f0 := HC.out.f 0
      have f1 := HC.out.f 1
      have f2 := HC.out.f 2
      have hil : (i : Int) < (L.length : Int) := by omega
      have HKN : Hid (true = decide (0 < i + 1)) := (decide_eq_true (by omega)).symm
      clear he HO1
      by_cases h0 : i = 0
      · subst h0
        obtain rfl : c = false := HK.out
        have HN := Lib.hid (mnE_first HEE.out)
        rw [Nat.zero_mul] at p0
        rw [Nat.zero_mul, Nat.zero_add] at p1 p2
        have hl0 : 0 < L.length := hlt
        go_wp2_with fail
        go_quiet (fail)
        go_wp2
        go_roundw
        case rel => exact ⟨1, ea, eb, true, by omega, rfl, rfl, HKN, HN, stored3 (HC.out.below (below_drewN (Below.refl _ _) _)) _ _ _, below3 (below_drewN HB.out _) (Nat.le_refl _) _ _ _⟩
        case measure => simp [intOf]; omega
      · obtain rfl : c = true := by rw [HK.out]; exact decide_eq_true (by omega)
        have hT := mnE_take HEE.out HX.out (by omega)
        by_cases hc : eb < y
        · rw [if_pos hc] at hT
          have HN := Lib.hid hT
          have hcd := decide_eq_true (show (eb : Int) < (y : Int) by omega)
          clear hT
          go_wp2_with fail
          go_quiet (fail)
          go_wp2
          go_roundw
          case rel => exact ⟨i + 1, ea, eb, true, by omega, rfl, by go_num, HKN, HN, stored3 (HC.out.below (below_drewN (Below.refl _ _) _)) _ _ _, below3 (below_drewN HB.out _) (Nat.le_refl _) _ _ _⟩
          case measure => simp [intOf]; omega
        · rw [if_neg hc] at hT
          have HN := Lib.hid hT
          have hcd := decide_eq_false (show ¬ (eb : Int) < (y : Int) by omega)
          clear hT
          go_wp2_with fail
          go_quiet (fail)
          go_wp2
          go_roundw
          case rel => exact ⟨i + 1, x, y, true, by omega, rfl, by go_num, HKN, HN, HC.out.below (below_drewN (Below.refl _ _) _), below_drewN HB.out _⟩
          case measure => simp [intOf]; omega
    · obtain rfl : i = L.length := by omega
      have HE : Hid ((x, y) = mnE L) := by have := HX.out; rw [List.take_length] at this; exact this.symm
      have HZ3 := Lib.hid (HZ1.out.below HB.out)
      have a0 := HZ3.out.c0
      have a1 := HZ3.out.c1
      have a2 := HZ3.out.c2
      have f0 := HZ3.out.f 0
      have f1 := HZ3.out.f 1
      have f2 := HZ3.out.f 2
      have c0 := HC.out.c0
      have c1 := HC.out.c1
      have c2 := HC.out.c2
      have h3 := stored3 HZ3.out (.int .i64 x) (.int .i64 y) (.int .i64 (2 * (y : Int)))
      have r0 := h3.c0
      have r1 := h3.c1
      have r2 := h3.c2
      clear h3
      go_wp2
      refine bodyPost_ret (v := .tuple #[.agg #[.int .i64 (x : Int), .int .i64 (y : Int), .int .i64 (2 * (y : Int))], .bool c]) (by simp [results, Try.results29, go_sem, r0, r1, r2]) rfl ?_
      exact ⟨by rw [← HE.out, ← HK.out], below3 (HB1.out.trans (HB.out.mono HB1.out.size)) (Nat.le_refl _) _ _ _⟩
end Fac
end Go.Proofs.Ytojmlhcgghaceaa
