/- Several texts of this proof, one behind the other: each says ahead of it what it shows and under which conditions. -/
import Derived.Test.YtodnkkofammhbaaCM5
import Derived.Laws.EntriesVeiled
import Derived.Test.YtodnkkofammhbaaCM3
import Derived.Deep.DeepCutAuto
import Derived.StillTailTactics
import Derived.BigQuiet
import Derived.BigRegion
/- Contract of the search over pairs of the program, for whatever functions lead a pair on and give its term. Conditions: those that it states of the two functions. -/
namespace Go.Proofs.Ytodnkkofammhbaa
open Go.ChangeShapes Go.WideShapes Go.ChangeAt Go.RowKit
open Go.PlainAid Plain
set_option linter.unusedVariables false
namespace Comb
open Seqs
theorem ne_of_types {w : World} {g k : Nat} {e e' : TypeId} {cur cur' : Array Value} (h : w.heap[g]? = some (.cells cur e (0, 0))) (h' : w.heap[k]? = some (.cells cur' e' (0, 0))) (hne : e ≠ e') : g ≠ k := fun he => by
  subst he
  rw [h] at h'
  injection h' with h'
  injection h' with _ h2 _
  exact hne h2
theorem has_block {α : Type} {enc : α → Value} {e : TypeId} {w : World} {base : Nat} {v : Value} {xs : List α} (h : Has enc e w base v xs) : ∀ k, v.ownBlock = some k → ∃ cur, w.heap[k]? = some (.cells cur e (0, 0)) := fun k hk => by
  rcases h.2 with ⟨rfl, _⟩ | ⟨g, cap, cur, rfl, _, hg, _⟩
  · cases hk
  · obtain rfl := Option.some.inj hk
    exact ⟨cur, hg⟩
theorem ownP_block {w : World} {base : Nat} {v : Value} {L : List Pr} (h : OwnP w base v L) : ∀ k, v.ownBlock = some k → base ≤ k ∧ ∃ cur, w.heap[k]? = some (.cells cur 57 (0, 0)) := fun k hk => by
  rcases h.2 with ⟨rfl, _⟩ | ⟨g, cap, cur, rfl, hb, hg, _⟩
  · cases hk
  · obtain rfl := Option.some.inj hk
    exact ⟨hb, cur, hg⟩
/-- What is built stays while another block is written. -/
theorem building_beside {w w' : World} {base hi p g : Nat} {b : Int} {vn vo : Value} {us : List Value} {rows : List (List Int)} {out : List Int} (h : Building w base hi p b vn vo us rows out) (hg : w.grownBy w' (some g))
    (h1 : ∀ k, vn.ownBlock = some k → k ≠ g) (h2 : p ≠ g) (h3 : ∀ (i : Nat) (u : Value), (vo :: us)[i]? = some u → ∀ k, u.ownBlock = some k → k ≠ g) : Building w' base hi p b vn vo us rows out := by
  refine ⟨h.top.grown hg ?_, ⟨h.rows.len, fun i u r hu hr => ?_, h.rows.apart⟩, h.cells.grown hg (fun e => h2 (Option.some.inj e).symm), h.lo, Nat.le_trans h.le hg.size⟩
  · cases hv : vn.ownBlock with
    | none => exact .inl rfl
    | some k => exact .inr fun e => h1 k hv (Option.some.inj e)
  · have hI := h.rows.row i u r hu hr
    refine ⟨hI.has.grown hg ?_, hI.lt, Nat.le_trans hI.le hg.size⟩
    cases hv : u.ownBlock with
    | none => exact .inl rfl
    | some k => exact .inr fun e => h3 i u hu k hv (Option.some.inj e)
theorem building_rows {w : World} {base hi p : Nat} {b : Int} {vn vo : Value} {us : List Value} {rows : List (List Int)} {out : List Int} (h : Building w base hi p b vn vo us rows out) {i : Nat} {u : Value} (hu : (vo :: us)[i]? = some u) {k : Nat} (hk : u.ownBlock = some k) :
    k < hi ∧ ∃ cur, w.heap[k]? = some (.cells cur 3 (0, 0)) := by
  have hl : i < (out :: rows).length := by rw [← h.rows.len]; exact (List.getElem?_eq_some_iff.1 hu).1
  have hI := h.rows.row i u _ hu (List.getElem?_eq_getElem hl)
  exact ⟨hI.lt k hk, has_block hI.has k hk⟩
/-- .. while the slice of pairs grows; .. while the row in the making is written. -/
theorem building_pairs {w w' : World} {base hi p B : Nat} {b : Int} {vn vo v : Value} {us : List Value} {rows : List (List Int)} {out : List Int} {L : List Pr} (h : Building w base hi p b vn vo us rows out) (hp : OwnP w B v L) (hlt : p < B) (hg : w.grownBy w' v.ownBlock) : Building w' base hi p b vn vo us rows out := by
  cases hv : v.ownBlock with
  | none =>
    rw [hv] at hg
    have hb : Below w.heap.size w w' := (Below.refl _ _).grown hg (Nat.le_refl _) (fun k hk => by cases hk)
    exact h.below hb
  | some g =>
    rw [hv] at hg
    obtain ⟨hBg, cur, hc⟩ := ownP_block hp g hv
    refine building_beside h hg (fun k hk => ?_) (by omega) (fun i u hu k hk => ?_)
    · obtain ⟨cur', hc'⟩ := has_block h.top k hk
      exact ne_of_types hc' hc (by decide)
    · obtain ⟨_, cur', hc'⟩ := building_rows h hu hk
      exact ne_of_types hc' hc (by decide)
theorem grown_cell (w : World) (g j : Nat) (v : Value) : w.grownBy (w.setCell ⟨g, j, none⟩ v) (some g) :=
  ⟨rfl, rfl, rfl, by rw [size_setCell']; exact Nat.le_refl _, fun k _ hk => by
    have : k ≠ g := fun e => hk (by rw [e])
    exact heap_setCell_other w ⟨g, j, none⟩ k v this⟩
theorem own_block {w : World} {base n m : Nat} {e : TypeId} {v : Value} {xs : List Value} (h : w.ownsRow base e m v n xs) : ∀ k, v.ownBlock = some k → ∃ cur, w.heap[k]? = some (.cells cur e (0, 0)) := fun k hk => by
  rcases h.2 with ⟨rfl, _⟩ | ⟨g, cap, cur, rfl, _, hg, _⟩
  · cases hk
  · obtain rfl := Option.some.inj hk
    exact ⟨cur, hg⟩
theorem own_below {w w' : World} {base n m : Nat} {e : TypeId} {v : Value} {xs : List Value} (h : w.ownsRow base e m v n xs) (hb : Below w.heap.size w w') : w'.ownsRow base e m v n xs :=
  h.kept (Plain.grown_of_below hb) (by
    cases hv : v.ownBlock with
    | none => exact .inl rfl
    | some k => exact .inr (by simp))
def pB (st : Pr) (nx : Pr → Nat → Pr) (b : Nat) : Int := if pairK st nx b = true then (b : Int) else 0
def pR (st : Pr) (nx : Pr → Nat → Pr) (b : Nat) : List (List Int) := if pairK st nx b = true then pairRows st nx b (found st nx b).length else []
def pO (st : Pr) (nx : Pr → Nat → Pr) (b : Nat) (tm : Pr → Int) : List Int := if pairK st nx b = true then pairOuts st nx b tm (found st nx b).length else []
theorem p_no {st : Pr} {nx : Pr → Nat → Pr} {b : Nat} {tm : Pr → Int} (h : pairK st nx b = false) : pB st nx b = 0 ∧ pR st nx b = [] ∧ pO st nx b tm = [] := by
  unfold pB pR pO
  rw [h]
  simp
theorem p_yes {st : Pr} {nx : Pr → Nat → Pr} {b : Nat} {tm : Pr → Int} (h : pairK st nx b = true) : pB st nx b = (b : Int) ∧ pR st nx b = pairRows st nx b (found st nx b).length ∧ pO st nx b tm = pairOuts st nx b tm (found st nx b).length := by
  unfold pB pR pO
  rw [h]
  simp
theorem fill_row {l : List Int} {n i : Nat} (c : Int) (hl : l.length = i) (h : i < n) : ((l ++ List.replicate (n - i) 0).map (Value.int .i64)).set i (.int .i64 c) = ((l ++ [c]) ++ List.replicate (n - (i + 1)) 0).map (Value.int .i64) := fill_dg c hl h
theorem infoP : (Try.prog.info? 57).map (fun i => (i.zero, i.size, i.bytes)) = some (some (.agg #[.int .i64 0, .int .i64 0]), 2, 16) := by kernel_rfl
set_option maxRecDepth 100000 in
set_option maxHeartbeats 4000000 in
theorem searched_pairs (bn : Nat) (hb2 : 2 ≤ bn) (hb4 : bn ≤ 4) (s1 s2 : Int) (nx : Pr → Nat → Pr) (tm : Pr → Int) (Ok : Pr → Prop) (HW : Walks (s1, s2) nx bn Ok)
    (gN gT : Nat) (fsN lbN fsT lbT : Array Value) (egN : ∀ args w, (callFunc gN args).run Try.prog w = .ok (.enter gN args) w) (egT : ∀ args w, (callFunc gT args).run Try.prog w = .ok (.enter gT args) w) (w : World)
    (HN : ∀ W : World, Below w.heap.size w W → ∀ x y : Int, Ok (x, y) → ∀ d : Nat, d < bn → Calls Try.prog gN (fsN ++ (#[.agg #[.int .i64 x, .int .i64 y], .int .i64 (d : Int)] ++ lbN)) W fun e w' => e = .returned (.agg #[.int .i64 (nx (x, y) d).1, .int .i64 (nx (x, y) d).2]) ∧ Below W.heap.size W w')
    (HT : ∀ W : World, Below w.heap.size w W → ∀ x y : Int, Ok (x, y) → Calls Try.prog gT (fsT.push (.agg #[.int .i64 x, .int .i64 y]) ++ lbT) W fun e w' => e = .returned (.int .i64 (tm (x, y))) ∧ Below W.heap.size W w') :
    Calls Try.prog 35 #[.agg #[.int .i64 (bn : Int), .int .i64 s1, .int .i64 s2, .func (.func gN) fsN lbN, .func (.func gT) fsT lbT]] w (GivesK (pB (s1, s2) nx bn) (pR (s1, s2) nx bn) (pO (s1, s2) nx bn tm) (pairK (s1, s2) nx bn) w) := by
  obtain ⟨i0, hi0, hz0, hz1, hz2⟩ := info_parts Ints.infoI
  obtain ⟨i2, hi2, hz20, hz21, hz22⟩ := info_parts infoR
  obtain ⟨yb, hyb⟩ : ∃ y, y = pB (s1, s2) nx bn := ⟨_, rfl⟩
  obtain ⟨yr, hyr⟩ : ∃ y, y = pR (s1, s2) nx bn := ⟨_, rfl⟩
  obtain ⟨yo, hyo⟩ : ∃ y, y = pO (s1, s2) nx bn tm := ⟨_, rfl⟩
  obtain ⟨yk, hyk⟩ : ∃ y, y = pairK (s1, s2) nx bn := ⟨_, rfl⟩
  have HYE := Lib.hid (show yb = pB (s1, s2) nx bn ∧ yr = pR (s1, s2) nx bn ∧ yo = pO (s1, s2) nx bn tm ∧ yk = pairK (s1, s2) nx bn from ⟨hyb, hyr, hyo, hyk⟩)
  rw [← hyb, ← hyr, ← hyo, ← hyk]
  clear hyb hyr hyo hyk
  have HNX := Lib.hid HN
  have HTM := Lib.hid HT
  have HWK := Lib.hid HW
  clear HN HT HW
  have c5 := ((CellsN.new w 61 [.int .i64 (bn : Int), .int .i64 s1, .int .i64 s2, .func (.func gN) fsN lbN, .func (.func gT) fsT lbT]).alloc (Obj.cells #[Value.int .i64 0, Value.slice none 0 0, Value.slice none 0 0] 27)).alloc (Obj.cells #[Value.int .i64 (bn : Int), Value.slice none 0 0, Value.slice none 0 0] 27)
  have hZ := ((Cells3.new (w.alloc (.cells #[.int .i64 (bn : Int), .int .i64 s1, .int .i64 s2, .func (.func gN) fsN lbN, .func (.func gT) fsT lbT] 61)) 27 (.int .i64 0) (.slice none 0 0) (.slice none 0 0)).alloc (Obj.cells #[Value.int .i64 (bn : Int), Value.slice none 0 0, Value.slice none 0 0] 27))
  have hP := Cells3.new ((w.alloc (.cells #[.int .i64 (bn : Int), .int .i64 s1, .int .i64 s2, .func (.func gN) fsN lbN, .func (.func gT) fsT lbT] 61)).alloc (Obj.cells #[Value.int .i64 0, Value.slice none 0 0, Value.slice none 0 0] 27)) 27 (.int .i64 (bn : Int)) (.slice none 0 0) (.slice none 0 0)
  rw [size_alloc'] at hZ
  rw [size_alloc', size_alloc'] at hP
  have HC5 := Lib.hid (c5.alloc (.cells #[.int .i64 s1, .int .i64 s2] 57))
  have HZ1 := Lib.hid (hZ.alloc (.cells #[.int .i64 s1, .int .i64 s2] 57))
  have HP1 := Lib.hid (hP.alloc (.cells #[.int .i64 s1, .int .i64 s2] 57))
  have hpl := World.ownsRow_lit (base := w.heap.size + 3) (e := 57) (size := 2) (((w.alloc (.cells #[.int .i64 (bn : Int), .int .i64 s1, .int .i64 s2, .func (.func gN) fsN lbN, .func (.func gT) fsT lbT] 61)).alloc (Obj.cells #[Value.int .i64 0, Value.slice none 0 0, Value.slice none 0 0] 27)).alloc (Obj.cells #[Value.int .i64 (bn : Int), Value.slice none 0 0, Value.slice none 0 0] 27)) #[.int .i64 s1, .int .i64 s2] 1 (by simp only [size_alloc'] <;> omega) (by decide) rfl
  have HPL := Lib.hid hpl
  have hB := ((((Below.refl w.heap.size w).alloc (Nat.le_refl _) (.cells #[.int .i64 (bn : Int), .int .i64 s1, .int .i64 s2, .func (.func gN) fsN lbN, .func (.func gT) fsT lbT] 61)).alloc (by simp only [size_alloc'] <;> omega) (Obj.cells #[Value.int .i64 0, Value.slice none 0 0, Value.slice none 0 0] 27)).alloc (by simp only [size_alloc'] <;> omega) (Obj.cells #[Value.int .i64 (bn : Int), Value.slice none 0 0, Value.slice none 0 0] 27)).alloc (by simp only [size_alloc'] <;> omega) (.cells #[.int .i64 s1, .int .i64 s2] 57)
  have HB1 := Lib.hid hB
  have HSZ := Lib.hid (show ((((w.alloc (.cells #[.int .i64 (bn : Int), .int .i64 s1, .int .i64 s2, .func (.func gN) fsN lbN, .func (.func gT) fsT lbT] 61)).alloc (Obj.cells #[Value.int .i64 0, Value.slice none 0 0, Value.slice none 0 0] 27)).alloc (Obj.cells #[Value.int .i64 (bn : Int), Value.slice none 0 0, Value.slice none 0 0] 27)).alloc (.cells #[.int .i64 s1, .int .i64 s2] 57)).heap.size = w.heap.size + 4 by simp only [size_alloc'])
  clear c5 hZ hP hpl hB
  go_enter Try.func35, Try.ntmps35
  go_wp2
  obtain ⟨W4, hW4⟩ : ∃ W, W = (((w.alloc (.cells #[.int .i64 (bn : Int), .int .i64 s1, .int .i64 s2, .func (.func gN) fsN lbN, .func (.func gT) fsT lbT] 61)).alloc (Obj.cells #[Value.int .i64 0, Value.slice none 0 0, Value.slice none 0 0] 27)).alloc (Obj.cells #[Value.int .i64 (bn : Int), Value.slice none 0 0, Value.slice none 0 0] 27)).alloc (.cells #[.int .i64 s1, .int .i64 s2] 57) := ⟨_, rfl⟩
  rw [← hW4] at HC5 HZ1 HP1 HPL HB1 HSZ ⊢
  clear hW4
  rw [size_alloc', size_alloc', size_alloc'] at HPL
  obtain ⟨BB, hBB⟩ : ∃ B, B = w.heap.size + 3 := ⟨_, rfl⟩
  obtain ⟨p, hp⟩ : ∃ p, p = w.heap.size + 1 + 1 := ⟨_, rfl⟩
  have HBB := Lib.hid (show w.heap.size + 1 < p ∧ p < BB ∧ w.heap.size + 3 ≤ BB from by omega)
  rw [← hBB] at HPL
  rw [← hp] at HP1 ⊢
  rw [show p + 1 = BB by omega] at ⊢
  have hPL : Hid (OwnP W4 BB (.slice (some ⟨BB, 0, none⟩) 1 1) (pairI (s1, s2) nx bn 0)) := HPL.out
  have hBL : Hid (Building W4 BB BB p (bn : Int) (.slice none 0 0) (.slice none 0 0) [] (pairRows (s1, s2) nx bn 0) (pairOuts (s1, s2) nx bn tm 0)) := by
    show Building W4 BB BB p (bn : Int) (.slice none 0 0) (.slice none 0 0) [] [] []
    exact Building.start HP1.out (by have := HSZ.out; omega)
  have h5 := HC5
  have hZ := HZ1
  have hB := HB1
  clear hBB hp HPL HP1 HC5 HZ1 HB1 HSZ
  go_loopw [5, 6] (fun pv i' wr => ∃ (i : Nat) (vn vo : Value) (us : List Value) (hi : Nat), i ≤ (pairI (s1, s2) nx bn i).length ∧ (pairI (s1, s2) nx bn i).length ≤ 16 ∧ i' = .int .i64 i ∧ Hid (OwnP wr BB pv (pairI (s1, s2) nx bn i)) ∧ Hid (Building wr BB hi p (bn : Int) vn vo us (pairRows (s1, s2) nx bn i) (pairOuts (s1, s2) nx bn tm i)) ∧ Hid (CellsN wr w.heap.size 61 [.int .i64 (bn : Int), .int .i64 s1, .int .i64 s2, .func (.func gN) fsN lbN, .func (.func gT) fsT lbT]) ∧ Hid (Cells3 wr (w.heap.size + 1) 27 (.int .i64 0) (.slice none 0 0) (.slice none 0 0)) ∧ Hid (Below w.heap.size w wr)) (fun _ i' _ => 17 - (intOf i').toNat)
  case atStart => exact ⟨0, _, _, [], BB, by simp, by simp [pairI], rfl, hPL, hBL, h5, hZ, hB⟩
  case round =>
    clear hPL hBL h5 hZ hB
    obtain ⟨i, vn, vo, us, hi, hil, hl16, rfl, hPL, hBL, h5, hZ, hB⟩ := hrel
    obtain ⟨W6, rfl⟩ : ∃ W : World, W = wr := ⟨_, rfl⟩
    obtain ⟨Lp, hLp⟩ : ∃ L, L = pairI (s1, s2) nx bn i := ⟨_, rfl⟩
    have HLP := Lib.hid hLp
    rw [← hLp] at hil hl16 hPL
    have hpos : 0 < Lp.length := by
      obtain ⟨r, hr⟩ := pairI_prefix (st := (s1, s2)) (nx := nx) (b := bn) (Nat.zero_le i)
      rw [hLp, ← hr]
      simp [pairI]
    obtain ⟨g, pc, cur, hpv, hgB, hgl, _⟩ := hPL.out.form hpos
    subst hpv
    clear hLp
    by_cases hlt : i < Lp.length
    case neg =>
      obtain rfl : i = Lp.length := by omega
      have hend := found_end (st := (s1, s2)) (nx := nx) (b := bn) hl16 (by rw [← HLP.out]; exact Nat.le_refl _)
      have hlen : (found (s1, s2) nx bn).length = Lp.length := by rw [hend, ← HLP.out]
      have hk : pairK (s1, s2) nx bn = true := decide_eq_true (by rw [hlen]; exact hl16)
      have HY := Lib.hid (p_yes (tm := tm) hk)
      have hy := HYE.out
      rw [HY.out.1, HY.out.2.1, HY.out.2.2, hk, hlen] at hy
      obtain ⟨rfl, rfl, rfl, rfl⟩ := hy
      have hfr := hBL.out.form
      rw [rows_len (by omega), outs_len (by omega)] at hfr
      obtain ⟨na, nc, oa, oc, hvn, hvo⟩ := hfr
      subst hvn; subst hvo
      have HW : Hid (OwnS W6 BB W6.heap.size (.agg #[.int .i64 (bn : Int), .slice na Lp.length nc, .slice oa Lp.length oc]) (bn : Int) (pairRows (s1, s2) nx bn Lp.length) (pairOuts (s1, s2) nx bn tm Lp.length)) := hBL.out.seq
      have hP := hBL.out.cells
      have m0 := hP.c0
      have m1 := hP.c1
      have m2 := hP.c2
      have z0 := hZ.out.c0
      have z1 := hZ.out.c1
      have z2 := hZ.out.c2
      have z3 := hZ.out.f
      clear hP hk hlen hend
      go_wp2
      have hZ3 := (((hZ.out.set0 (.int .i64 (bn : Int))).set1 (.slice na Lp.length nc)).set2 (.slice oa Lp.length oc))
      have n0 := hZ3.c0
      have n1 := hZ3.c1
      have n2 := hZ3.c2
      refine bodyPost_ret (v := .tuple #[.agg #[.int .i64 (bn : Int), .slice na Lp.length nc, .slice oa Lp.length oc], .bool true]) (by simp [results, Try.results35, go_sem, n0, n1, n2]) rfl ⟨_, rfl, ?_, ?_⟩
      · have hT : ∀ (i : Nat) (u : Value) (W : World), Plain.Touch (w.heap.size + 1) (w.heap.size + 2) W (W.setCell ⟨w.heap.size + 1, i, none⟩ u) := fun i u W => Plain.Touch.of_set (a := ⟨w.heap.size + 1, i, none⟩) u (Nat.le_refl _) (Nat.lt_succ_self _)
        have T0 : Plain.Touch (w.heap.size + 1) (w.heap.size + 2) W6 (((W6.setCell ⟨w.heap.size + 1, 0, none⟩ (.int .i64 (bn : Int))).setCell ⟨w.heap.size + 1, 1, none⟩ (.slice na Lp.length nc)).setCell ⟨w.heap.size + 1, 2, none⟩ (.slice oa Lp.length oc)) := ((hT 0 _ _).trans (hT 1 _ _)).trans (hT 2 _ _)
        have := (HW.out.touch T0 (.inr (by have := HBB.out; omega))).lower (show w.heap.size ≤ BB by have := HBB.out; omega)
        simpa only [size_setCell'] using this
      · exact ((hB.out.setCell (Nat.le_succ _) _).setCell (Nat.le_succ _) _).setCell (Nat.le_succ _) _
    case pos =>
      obtain ⟨⟨x1, x2⟩, hs⟩ : ∃ s, Lp[i]? = some s := ⟨_, List.getElem?_eq_getElem hlt⟩
      have hs' := hs
      rw [HLP.out] at hs'
      have HS := Lib.hid hs'
      have HSF := Lib.hid (found_at (st := (s1, s2)) (nx := nx) (b := bn) (by omega) hs')
      have HOK := Lib.hid (pairI_ok HWK.out i _ (List.mem_of_getElem? hs'))
      have hii0 : (0 : Int) ≤ (i : Int) := Int.natCast_nonneg _
      have k0 := h5.out.at_ (i := 0) rfl
      clear hs' hs
      go_wp2_with (at_make; refine wpList_make_full W6 rfl _ _ 25 rfl W6.heap.size 3 i0 (.int .i64 0) 1 Try.underlying25 hi0 hz0 hz1 .i64 .i64 _ _ bn rfl rfl rfl rfl (by rw [hz2]; omega) (by unfold maxLen; omega) (Nat.le_refl _) ?_; intro w1 hown hgrow; have hbw := below_of_grown hgrow)
      have hO : Hid (w1.ownsRow W6.heap.size 3 1 (.slice (some ⟨W6.heap.size, 0, none⟩) bn bn) bn ((pairPart (s1, s2) nx bn (x1, x2) 0 ++ List.replicate (bn - 0) (0 : Int)).map (Value.int .i64))) := by
        show w1.ownsRow _ _ _ _ _ _
        rw [Ints.zero_made] at hown
        simpa [pairPart] using hown
      have hPM : Hid (OwnP w1 BB (.slice (some ⟨g, 0, none⟩) Lp.length pc) (midP (s1, s2) nx bn i (x1, x2) 0)) := by
        rw [mid_zero, ← HLP.out]
        exact hPL.out.below hbw
      have hML : (midP (s1, s2) nx bn i (x1, x2) 0).length ≤ 16 := by rw [mid_zero, ← HLP.out]; exact hl16
      have hBM := Lib.hid (hBL.out.below hbw)
      have h5M := Lib.hid (h5.out.below hbw)
      have hZM := Lib.hid (hZ.out.below hbw)
      have hBW := Lib.hid (hB.out.trans (hbw.mono hB.out.size))
      obtain ⟨zb, hzb⟩ : ∃ z, z = W6.heap.size := ⟨_, rfl⟩
      have HZB := Lib.hid (show hi ≤ zb ∧ w.heap.size + 3 ≤ zb from by have := hBL.out.le; have := hBL.out.lo; have := HBB.out; omega)
      rw [← hzb] at hO ⊢
      clear hown hgrow hbw hzb hPL hBL h5 hZ hB k0
      go_loopw [5, 28] (fun pv k' wr => ∃ k : Nat, k ≤ bn ∧ (midP (s1, s2) nx bn i (x1, x2) k).length ≤ 16 ∧ k' = .int .i64 k ∧ Hid (OwnP wr BB pv (midP (s1, s2) nx bn i (x1, x2) k)) ∧ Hid (wr.ownsRow zb 3 1 (.slice (some ⟨zb, 0, none⟩) bn bn) bn ((pairPart (s1, s2) nx bn (x1, x2) k ++ List.replicate (bn - k) (0 : Int)).map (Value.int .i64))) ∧ Hid (Building wr BB hi p (bn : Int) vn vo us (pairRows (s1, s2) nx bn i) (pairOuts (s1, s2) nx bn tm i)) ∧ Hid (CellsN wr w.heap.size 61 [.int .i64 (bn : Int), .int .i64 s1, .int .i64 s2, .func (.func gN) fsN lbN, .func (.func gT) fsT lbT]) ∧ Hid (Cells3 wr (w.heap.size + 1) 27 (.int .i64 0) (.slice none 0 0) (.slice none 0 0)) ∧ Hid (Below w.heap.size w wr)) (fun _ k' _ => bn - (intOf k').toNat)
      case atStart => exact ⟨0, Nat.zero_le _, hML, rfl, hPM, hO, hBM, h5M, hZM, hBW⟩
      case round =>
        clear hML hPM hO hBM h5M hZM hBW
        obtain ⟨k, hkl, hml, rfl, hPM, hO, hBM, h5M, hZM, hBW⟩ := hrel
        obtain ⟨W7, rfl⟩ : ∃ W : World, W = wr := ⟨_, rfl⟩
        obtain ⟨M, hM⟩ : ∃ M, M = midP (s1, s2) nx bn i (x1, x2) k := ⟨_, rfl⟩
        have HM := Lib.hid hM
        have hMi : M[i]? = some (x1, x2) := by
          obtain ⟨r, hr⟩ := mid_prefix (st := (s1, s2)) (nx := nx) (b := bn) i (x1, x2) (Nat.zero_le k)
          rw [hM, ← hr, mid_zero, List.getElem?_append_left (List.getElem?_eq_some_iff.1 HS.out).1]
          exact HS.out
        rw [← hM] at hml hPM
        have hMl : i < M.length := (List.getElem?_eq_some_iff.1 hMi).1
        obtain ⟨g2, pc2, cur2, hpv2, hgB2, hgl2, _⟩ := hPM.out.form (by omega)
        subst hpv2
        have HMI := Lib.hid hMi
        clear hM hMi
        by_cases hlk : k < bn
        case pos =>
          obtain ⟨c1, c2⟩ := hPM.out.cells HMI.out
          simp only at c1 c2
          have f3 := h5M.out.at_ (i := 3) rfl
          have hiM : (i : Int) < (M.length : Int) := by omega
          have hk0 : (0 : Int) ≤ (k : Int) := Int.natCast_nonneg _
          have hkb : (k : Int) < (bn : Int) := by omega
          obtain ⟨n1, hn1⟩ : ∃ n, n = (nx (x1, x2) k).1 := ⟨_, rfl⟩
          obtain ⟨n2, hn2⟩ : ∃ n, n = (nx (x1, x2) k).2 := ⟨_, rfl⟩
          have HNE := Lib.hid (show nx (x1, x2) k = (n1, n2) by rw [hn1, hn2])
          have HC := Lib.hid (fun (W : World) (hW : Below w.heap.size w W) => HNX.out W hW x1 x2 HOK.out k hlk)
          rw [← hn1, ← hn2] at HC
          clear hn1 hn2
          have hD1 : Below w.heap.size w W7.drew := hBW.out.trans ((below_drew' W7).mono hBW.out.size)
          have hz7 : Below W7.heap.size W7 (W7.alloc (.cells #[.int .i64 0, .int .i64 0] 57)) := (Below.refl _ _).alloc (Nat.le_refl _) _
          have hz8 : Below W7.heap.size W7 (W7.alloc (.cells #[.int .i64 0, .int .i64 0] 57)).drew := hz7.trans ((below_drew' _).mono hz7.size)
          have hD2 : Below w.heap.size w (W7.alloc (.cells #[.int .i64 0, .int .i64 0] 57)).drew := hBW.out.trans (hz8.mono hBW.out.size)
          have f3a := (h5M.out.alloc (.cells #[.int .i64 0, .int .i64 0] 57)).at_ (i := 3) rfl
          have c1a := (hz7.cell (p := ⟨g2, i * 2, none⟩) hgl2).trans c1
          have c2a := (hz7.cell (p := ⟨g2, i * 2 + 1, none⟩) hgl2).trans c2
          have cz7 := (CellsN.new W7 57 [.int .i64 0, .int .i64 0]).drew
          go_wp2_with fail
          go_cut [9] (fun s wx => ∃ q : Nat, s = .pointer (some ⟨q, 0, none⟩) ∧ Hid (W7.heap.size ≤ q) ∧ Hid (Below W7.heap.size W7 wx) ∧ Hid (CellsN wx q 57 [.int .i64 n1, .int .i64 n2]))
          case first =>
            go_region_law (first | (go_simp; (with_reducible refine (HC.out _ hD1).mono ?_); rintro e W8 ⟨rfl, b8⟩; have bA : Below W7.heap.size W7 W8 := (below_drew' W7).trans (b8.mono (below_drew' W7).size)) | (go_simp; (with_reducible refine (HC.out _ hD2).mono ?_); rintro e W8 ⟨rfl, b8⟩; have bB : Below W7.heap.size W7 W8 := hz8.trans (b8.mono hz8.size); have cz8 := cz7.below b8; have e0 := cz8.at_ (i := 0) rfl; have e1 := cz8.at_ (i := 1) rfl; have ef := cz8.f))
            all_goals go_wp2_with fail
            all_goals go_meet
            all_goals first
              | exact ⟨_, rfl, bA.size, bA.alloc bA.size _, CellsN.new W8 57 [.int .i64 n1, .int .i64 n2]⟩
              | exact ⟨_, rfl, Nat.le_refl _, (bB.setCell (Nat.le_refl _) _).setCell (Nat.le_refl _) _, (cz8.set 0 (.int .i64 n1)).set 1 (.int .i64 n2)⟩
          case rest =>
            obtain ⟨q, rfl, HQ, HBQ, HCQ⟩ := hcut
            obtain ⟨W9, rfl⟩ : ∃ W : World, W = wc := ⟨_, rfl⟩
            have HP9 := Lib.hid (hPM.out.below HBQ.out)
            have HO9 := Lib.hid (own_below hO.out HBQ.out)
            have HM9 := Lib.hid (hBM.out.below HBQ.out)
            have H59 := Lib.hid (h5M.out.below HBQ.out)
            have HZ9 := Lib.hid (hZM.out.below HBQ.out)
            have HB9 := Lib.hid (hBW.out.trans (HBQ.out.mono hBW.out.size))
            clear hPM hO hBM h5M hZM hBW c1 c2 c1a c2a f3 f3a hD1 hD2 hz7 hz8 cz7 HBQ HC
            have HMN : Hid M.Nodup := by show M.Nodup; rw [HM.out]; exact mid_nodup _ _ _
            have HIX := Lib.hid (index_pair _ M n1 n2 W9 BB HP9.out (by omega) HMN.out (by omega))
            obtain ⟨pa, hpa⟩ : ∃ pa, pa = pairAt M (n1, n2) := ⟨_, rfl⟩
            rw [← hpa] at HIX
            have HPA := Lib.hid hpa
            have e0 := HCQ.out.at_ (i := 0) rfl
            have e1 := HCQ.out.at_ (i := 1) rfl
            clear hpa
            go_wp2_with fail
            refine HIX.out.mono ?_
            rintro e W10 ⟨rfl, b10⟩
            have HP10 := Lib.hid (HP9.out.below b10)
            have HO10 := Lib.hid (own_below HO9.out b10)
            have HM10 := Lib.hid (HM9.out.below b10)
            have H510 := Lib.hid (H59.out.below b10)
            have HZ10 := Lib.hid (HZ9.out.below b10)
            have HB10 := Lib.hid (HB9.out.trans (b10.mono HB9.out.size))
            have HQ10 := Lib.hid (HCQ.out.below b10)
            clear HP9 HO9 HM9 H59 HZ9 HB9 HCQ b10 e0 e1 HIX
            by_cases hx : (n1, n2) ∈ M
            case pos =>
              have hpl := place_old (st := (s1, s2)) (nx := nx) (b := bn) (by omega) hlk HS.out (by rw [HNE.out, ← HM.out]; exact hx)
              have hlt2 := idxOf_lt hx
              have hst0 := fill_row (n := bn) (ix (found (s1, s2) nx bn) (nx (x1, x2) k) : Int) (part_len (st := (s1, s2)) (nx := nx) (b := bn) (x1, x2) k) hlk
              rw [← part_succ, hpl.2, HNE.out, ← HM.out] at hst0
              obtain ⟨m, hm⟩ : ∃ m : Nat, m = ix M (n1, n2) := ⟨_, rfl⟩
              rw [← hm] at hst0 hlt2
              have hpm : pa = (m : Int) := by rw [HPA.out, pairAt, if_pos hx, hm]
              subst hpm
              have HM2 : Hid (midP (s1, s2) nx bn i (x1, x2) (k + 1) = M) := by show _ = _; rw [hpl.1, HM.out]
              have hd1 := decide_eq_false (show ¬ (m : Int) < 0 by omega)
              have hd2 : ((m : Int) == 16) = false := by simp; omega
              have q1 := HO10.out.cellAt k (by omega)
              have q2 := HO10.out.frozenAt k
              have hst := HO10.out.stored k (.int .i64 (m : Int))
              rw [hst0] at hst
              have HS3 := Lib.hid hst
              have hL := part_len (st := (s1, s2)) (nx := nx) (b := bn) (x1, x2) k
              rw [List.getElem?_map, List.getElem?_append_right (by rw [hL]; exact Nat.le_refl _), List.getElem?_replicate, if_pos (by rw [hL]; omega)] at q1
              have HG := Lib.hid (grown_cell W10 zb k (.int .i64 (m : Int)))
              obtain ⟨czb, hzbt⟩ := own_block HO10.out zb rfl
              obtain ⟨_, cg, hg2t⟩ := ownP_block HP10.out g2 rfl
              have HP11 := Lib.hid (HP10.out.kept HG.out (.inr (fun e => ne_of_types hg2t hzbt (by decide) (Option.some.inj e))))
              have HM11 := Lib.hid (building_beside HM10.out HG.out (fun k hk => by
                obtain ⟨_, hc⟩ := has_block HM10.out.top k hk
                exact ne_of_types hc hzbt (by decide)) (by have := HZB.out; have := HBB.out; have := HM10.out.lo; omega) (fun i u hu k hk => by have := (building_rows HM10.out hu hk).1; have := HZB.out; omega))
              have hn1 : w.heap.size ≠ zb := by have := HZB.out; omega
              have hn2 : w.heap.size + 1 ≠ zb := by have := HZB.out; omega
              have H511 := Lib.hid (H510.out.other (a := ⟨zb, k, none⟩) (Ne.symm hn1) (.int .i64 (m : Int)))
              have HZ11 := Lib.hid (HZ10.out.other (a := ⟨zb, k, none⟩) (Ne.symm hn2) (.int .i64 (m : Int)))
              have HB11 : Hid (Below w.heap.size w (W10.setCell ⟨zb, k, none⟩ (.int .i64 (m : Int)))) := HB10.out.setCell (by have := HZB.out; show _ ≤ zb; omega) _
              clear hst hst0 hL hpl hm hzbt hg2t HO10 HP10 HM10 H510 HZ10 HB10 HG hx
              go_wp2
              go_roundw
              case rel => exact ⟨k + 1, by omega, by rw [HM2.out]; exact hml, by go_num, by rw [HM2.out]; exact HP11, HS3.out.1, HM11, H511, HZ11, HB11⟩
              case measure => simp [intOf]; omega
            case neg =>
              have hpl := place_new (st := (s1, s2)) (nx := nx) (b := bn) (by omega) hlk HS.out (by rw [HNE.out, ← HM.out]; exact hx)
              have hst0 := fill_row (n := bn) (ix (found (s1, s2) nx bn) (nx (x1, x2) k) : Int) (part_len (st := (s1, s2)) (nx := nx) (b := bn) (x1, x2) k) hlk
              rw [← part_succ, hpl.2, ← HM.out] at hst0
              have hpm : pa = -1 := by rw [HPA.out, pairAt, if_neg hx]
              subst hpm
              have HM2 : Hid (midP (s1, s2) nx bn i (x1, x2) (k + 1) = M ++ [(n1, n2)]) := by show _ = _; rw [hpl.1, HNE.out, HM.out]
              have HST := Lib.hid hst0
              obtain ⟨ip, hip, hzp0, hzp1, hzp2⟩ := info_parts infoP
              have e0 := HQ10.out.at_ (i := 0) rfl
              have e1 := HQ10.out.at_ (i := 1) rfl
              have HPL := Lib.hid (World.ownsRow.alloc HP10.out (.cells #[.int .i64 n1, .int .i64 n2] 57))
              have hcl := CellsN.new W10 57 [.int .i64 n1, .int .i64 n2]
              have HNW : Hid (∀ (j : Nat) (u : Value), ([.int .i64 n1, .int .i64 n2] : List Value)[j]? = some u → (W10.alloc (.cells #[.int .i64 n1, .int .i64 n2] 57)).cell? ((⟨W10.heap.size, 0, none⟩ : Addr).add j) = some u) := fun j u hj => by
                rw [addr_plus, Nat.zero_add]
                exact hcl.at_ hj
              have HON : Hid (∀ u ∈ ([.int .i64 n1, .int .i64 n2] : List Value), u.oneCell' = true) := fun u hu => by
                simp at hu
                rcases hu with rfl | rfl <;> rfl
              have HBS := Lib.hid (show BB ≤ (W10.alloc (.cells #[.int .i64 n1, .int .i64 n2] 57)).heap.size from by
                have h1 := HM10.out.lo
                have h2 := HM10.out.le
                rw [size_alloc']
                omega)
              clear hst0 hcl hpl
              go_upto_region 15 with (at_builtin; refine wpList_append_own _ rfl _ _ 82 rfl BB 57 ip (.agg #[.int .i64 0, .int .i64 0]) 2 16 Try.underlying82 hip hzp0 hzp1 hzp2 rfl (by decide) (.slice (some ⟨g2, 0, none⟩) M.length pc2) M.length (flatP M) rfl HPL.out ⟨W10.heap.size, 0, none⟩ 1 1 [.int .i64 n1, .int .i64 n2] rfl rfl HNW.out HON.out (by unfold maxLen; omega) (by omega) HBS.out ?_; intro v' w2 ho' hg' _)
              have hP11 : OwnP w2 BB v' (M ++ [(n1, n2)]) := by
                show w2.ownsRow _ _ _ _ _ _
                rw [List.length_append, flatP_append]
                exact ho'
              obtain ⟨g3, pc3, _, hv3, hg3B, _, _⟩ := hP11.form (by simp)
              rw [List.length_append, List.length_singleton] at hv3
              subst hv3
              have hg3 : W10.grownBy w2 (some g2) := grown_alloc hg'
              have HP11 := Lib.hid hP11
              obtain ⟨czb, hzbt⟩ := own_block HO10.out zb rfl
              obtain ⟨_, cg, hg2t⟩ := ownP_block HP10.out g2 rfl
              have HO11 := Lib.hid (World.ownsRow.kept HO10.out hg3 (.inr (fun e => ne_of_types hg2t hzbt (by decide) (Option.some.inj e).symm)))
              have HM11 := Lib.hid (building_pairs HM10.out HP10.out HBB.out.2.1 hg3)
              have H511 := Lib.hid (H510.out.grown hg3 (by have := HBB.out; simp; omega))
              have HZ11 := Lib.hid (HZ10.out.grown hg3 (by have := HBB.out; simp; omega))
              have HB11 := Lib.hid (HB10.out.grown hg3 HB10.out.size (fun k hk => by have e := Option.some.inj hk; have := HBB.out; omega))
              have hlen : (M ++ [(n1, n2)]).length = M.length + 1 := by simp
              clear hP11 ho' hg' hg3 hzbt hg2t HO10 HP10 HM10 H510 HZ10 HB10 HPL HNW HON HBS e0 e1 HQ10 hzp0 hzp1 hzp2 hip
              by_cases hfull : M.length = 16
              case pos =>
                have hd2 : ((M.length : Int) == 16) = true := by simp; omega
                have hlen2 := (mid_found (st := (s1, s2)) (nx := nx) (b := bn) (show i ≤ 16 by omega) (show k + 1 ≤ bn by omega) HS.out).length_le
                rw [HM2.out, hlen] at hlen2
                have hk : pairK (s1, s2) nx bn = false := decide_eq_false (by omega)
                have HNN := Lib.hid (p_no (tm := tm) hk)
                have hy := HYE.out
                rw [HNN.out.1, HNN.out.2.1, HNN.out.2.2, hk] at hy
                obtain ⟨rfl, rfl, rfl, rfl⟩ := hy
                have z0 := HZ11.out.c0
                have z1 := HZ11.out.c1
                have z2 := HZ11.out.c2
                have z3 := HZ11.out.f
                clear hk hlen2 hlen
                go_wp2
                have hZ3 := (((HZ11.out.set0 (.int .i64 0)).set1 (.slice none 0 0)).set2 (.slice none 0 0))
                have n0 := hZ3.c0
                have n1 := hZ3.c1
                have n2 := hZ3.c2
                refine bodyPost_ret (v := .tuple #[.agg #[.int .i64 0, .slice none 0 0, .slice none 0 0], .bool false]) (by simp [results, Try.results35, go_sem, n0, n1, n2]) rfl ⟨_, rfl, OwnS.zero _, ?_⟩
                exact ((HB11.out.setCell (Nat.le_succ _) _).setCell (Nat.le_succ _) _).setCell (Nat.le_succ _) _
              case neg =>
                have hd2 : ((M.length : Int) == 16) = false := by simp; omega
                have q1 := HO11.out.cellAt k (by omega)
                have q2 := HO11.out.frozenAt k
                have hst := HO11.out.stored k (.int .i64 (M.length : Int))
                rw [HST.out] at hst
                have HS3 := Lib.hid hst
                have hL := part_len (st := (s1, s2)) (nx := nx) (b := bn) (x1, x2) k
                rw [List.getElem?_map, List.getElem?_append_right (by rw [hL]; exact Nat.le_refl _), List.getElem?_replicate, if_pos (by rw [hL]; omega)] at q1
                have HG := Lib.hid (grown_cell w2 zb k (.int .i64 (M.length : Int)))
                obtain ⟨czb, hzbt⟩ := own_block HO11.out zb rfl
                obtain ⟨_, cg, hg2t⟩ := ownP_block HP11.out g3 rfl
                have HP12 := Lib.hid (HP11.out.kept HG.out (.inr (fun e => ne_of_types hg2t hzbt (by decide) (Option.some.inj e))))
                have HM12 := Lib.hid (building_beside HM11.out HG.out (fun k hk => by
                  obtain ⟨_, hc⟩ := has_block HM11.out.top k hk
                  exact ne_of_types hc hzbt (by decide)) (by have := HZB.out; have := HBB.out; have := HM11.out.lo; omega) (fun i u hu k hk => by have := (building_rows HM11.out hu hk).1; have := HZB.out; omega))
                have hn1 : w.heap.size ≠ zb := by have := HZB.out; omega
                have hn2 : w.heap.size + 1 ≠ zb := by have := HZB.out; omega
                have H512 := Lib.hid (H511.out.other (a := ⟨zb, k, none⟩) (Ne.symm hn1) (.int .i64 (M.length : Int)))
                have HZ12 := Lib.hid (HZ11.out.other (a := ⟨zb, k, none⟩) (Ne.symm hn2) (.int .i64 (M.length : Int)))
                have HB12 : Hid (Below w.heap.size w (w2.setCell ⟨zb, k, none⟩ (.int .i64 (M.length : Int)))) := HB11.out.setCell (by have := HZB.out; show _ ≤ zb; omega) _
                have HML2 : Hid ((M ++ [(n1, n2)]).length ≤ 16) := by show _ ≤ _; rw [hlen]; omega
                rw [show M.length + 1 = (M ++ [(n1, n2)]).length from hlen.symm] at HP12 ⊢
                clear hst hL hzbt hg2t HO11 HP11 HM11 H511 HZ11 HB11 HG hx HST hlen
                go_wp2
                go_roundw
                case rel => exact ⟨k + 1, by omega, by rw [HM2.out]; exact HML2.out, by go_num, by rw [HM2.out]; exact HP12, HS3.out.1, HM12, H512, HZ12, HB12⟩
                case measure => simp [intOf]; omega
        case neg =>
          obtain rfl : k = bn := by omega
          have hMe : M = pairI (s1, s2) nx k (i + 1) := by rw [HM.out]; exact mid_end HS.out
          have HME := Lib.hid hMe
          clear hMe
          have hil2 : i ≤ (found (s1, s2) nx k).length := Nat.le_of_lt (List.getElem?_eq_some_iff.1 HSF.out).1
          have HRL := Lib.hid (rows_len (st := (s1, s2)) (nx := nx) (b := k) hil2)
          have HOL := Lib.hid (outs_len (st := (s1, s2)) (nx := nx) (b := k) (tm := tm) hil2)
          have hfr := hBM.out.form
          rw [HRL.out, HOL.out] at hfr
          obtain ⟨na, nc, oa, oc, hvn, hvo⟩ := hfr
          subst hvn; subst hvo
          have HUSL : Hid (us.length = i) := by show _ = _; rw [hBM.out.len, HRL.out]
          have HU : Hid (Has (Value.int .i64) 3 W7 hi (.slice (some ⟨zb, 0, none⟩) k k) (pairRow (s1, s2) nx k (x1, x2))) := by
            have h1 := hO.out
            rw [Nat.sub_self, List.replicate_zero, List.append_nil] at h1
            have h2 : Has (Value.int .i64) 3 W7 zb (.slice (some ⟨zb, 0, none⟩) k k) (pairRow (s1, s2) nx k (x1, x2)) := by
              show W7.ownsRow _ _ _ _ _ _
              rw [show (pairRow (s1, s2) nx k (x1, x2)).length = k from part_len (x1, x2) k]
              exact h1
            exact h2.mono HZB.out.1
          have d1 := hBM.out.cells.c1
          have d2 := (hBM.out.cells.alloc (.cells #[Value.slice (some ⟨zb, 0, none⟩) k k] 25)).c1
          have hpl := hBM.out.cells.lt
          have HNP := Lib.hid (has_ne_c3 hBM.out.top hBM.out.cells (by decide))
          have HNZ := Lib.hid (has_ne_c3 hBM.out.top hZM.out (by decide))
          have HN5 := Lib.hid (h5M.out.ne_has hBM.out.top (by decide))
          have HLO := Lib.hid (show BB ≤ W7.heap.size from Nat.le_trans hBM.out.lo hBM.out.le)
          have HNPV : Hid (∀ q, (Value.slice na i nc).ownBlock = some q → g2 ≠ q) := fun q hq => by
            obtain ⟨_, c1, h1⟩ := ownP_block hPM.out g2 rfl
            obtain ⟨c2, h2⟩ := has_block hBM.out.top q hq
            exact ne_of_types h1 h2 (by decide)
          go_upto_region 20 with (at_builtin; refine wpList_append_list (enc := id) (e := 25) rfl _ _ 24 rfl BB i2 (.slice none 0 0) 24 Try.underlying24 hi2 hz20 hz21 hz22 rfl (.slice na i nc) us rfl (has_alloc hBM.out.top _) (.slice (some ⟨W7.heap.size, 0, none⟩) 1 1) [.slice (some ⟨zb, 0, none⟩) k k] rfl (lies_lit1v _ rfl) (fun y hy => by simp at hy; subst hy; rfl) (by rw [HUSL.out]; simp; omega) (by rw [HUSL.out]; simp; omega) (by have := HLO.out; simp; omega) ?_; intro v' w2 hv' hg2 _; obtain ⟨a2, c2, hvf, _⟩ := hv'.form; rw [show (us ++ [Value.slice (some ⟨zb, 0, none⟩) k k]).length = i + 1 from by rw [List.length_append, HUSL.out]; rfl] at hvf; subst hvf; have hg3 := grown_alloc hg2; have hc2 := hBM.out.cells.grown hg3 HNP.out; have d3 := hc2.c1; have df := hc2.f)
          have HBL5 := Lib.hid (hBM.out.row HU.out hv' hg3)
          have HG5 : Hid (BB ≤ w2.heap.size) := Nat.le_trans HLO.out hg3.size
          have hne1 : (p : Nat) ≠ w.heap.size := by have := HBB.out; omega
          have hne2 : (p : Nat) ≠ w.heap.size + 1 := by have := HBB.out; omega
          have hne3 : w.heap.size ≤ p := by have := HBB.out; omega
          have HZ5 := Lib.hid ((hZM.out.grown hg3 HNZ.out).other (a := ⟨p, 1, none⟩) hne2 (.slice a2 (i + 1) c2))
          have H55 := Lib.hid ((h5M.out.grown hg3 HN5.out).other (a := ⟨p, 1, none⟩) hne1 (.slice a2 (i + 1) c2))
          have HB5 : Hid (Below w.heap.size w (w2.setCell ⟨p, 1, none⟩ (.slice a2 (i + 1) c2))) := (hBM.out.top.frame hBW.out (by have := HBB.out; omega) hg3).setCell hne3 _
          have HP5a := Lib.hid (hPM.out.kept hg3 (.inr (fun e => HNPV.out g2 e.symm rfl)))
          have HP5 := Lib.hid (HP5a.out.kept (grown_cell w2 p 1 (.slice a2 (i + 1) c2)) (.inr (fun e => by have e2 : g2 = p := Option.some.inj e; have := HBB.out; omega)))
          have HG6 : Hid (BB ≤ (w2.setCell ⟨p, 1, none⟩ (.slice a2 (i + 1) c2)).heap.size) := by show _ ≤ _; rw [size_setCell']; exact HG5.out
          obtain ⟨W5, hW5⟩ : ∃ W, W = w2.setCell ⟨p, 1, none⟩ (.slice a2 (i + 1) c2) := ⟨_, rfl⟩
          rw [← hW5] at HBL5 HZ5 H55 HB5 HP5 HG6 ⊢
          have HW5 := Lib.hid (show w2.heap.size = W5.heap.size by rw [hW5, size_setCell'])
          rw [HW5.out] at HBL5
          clear hv' hg2 hg3 hc2 d1 d2 d3 df hpl hW5 HNP HNZ HN5 HLO HG5 HP5a hPM hO hBM h5M hZM hBW HU HNPV
          have HVO := Lib.hid HBL5.out.terms
          have c3 := HBL5.out.cells.c2
          have hpl := HBL5.out.cells.lt
          obtain ⟨p1, p2⟩ := HP5.out.cells HMI.out
          simp only at p1 p2
          have f4 := H55.out.at_ (i := 4) rfl
          have hiM : (i : Int) < (M.length : Int) := by omega
          obtain ⟨o, ho⟩ : ∃ o, o = tm (x1, x2) := ⟨_, rfl⟩
          have HC := Lib.hid (fun (W : World) (hW : Below w.heap.size w W) => HTM.out W hW x1 x2 HOK.out)
          rw [← ho] at HC
          have HOE := Lib.hid ho
          have hD : Below w.heap.size w W5.drew := HB5.out.trans ((below_drew' W5).mono HB5.out.size)
          clear ho
          go_region_law (first | (go_simp; (with_reducible refine (HC.out _ hD).mono ?_); rintro e W8 ⟨rfl, b8⟩; have bA : Below W5.heap.size W5 W8 := (below_drew' W5).trans (b8.mono (below_drew' W5).size); have HV8 := Lib.hid (HVO.out.below bA); have HB8 := Lib.hid (HBL5.out.below bA); have c8 := HB8.out.cells.c2; have c8a := (HB8.out.cells.alloc (.cells #[Value.int .i64 o] 3)).c2; have HN8 := Lib.hid (has_ne_c3 HV8.out.has HB8.out.cells (by decide)); have HGB : Hid (BB ≤ W8.heap.size) := Nat.le_trans HG6.out bA.size) | (refine step_append_at_list (enc := Value.int .i64) (e := 3) rfl (.tmp 65) (.tmp 73) 25 rfl BB i0 (.int .i64 0) 8 Try.underlying25 hi0 hz0 hz1 hz2 rfl (.slice oa i oc) (pairOuts (s1, s2) nx k tm i) rfl (by repeat (first | with_reducible exact HV8.out.has | with_reducible apply has_alloc)) (Value.slice (some ⟨_, 0, none⟩) 1 1) [o] rfl (by repeat (first | (with_reducible refine lies_lit1 (enc := Value.int .i64) _ rfl) | with_reducible apply lies_alloc)) (fun _ _ => rfl) (by rw [HOL.out]; simp; omega) (by rw [HOL.out]; simp; omega) (by have := HGB.out; simp; omega) ?_; intro vt w6 ho6 hg6 hb6; obtain ⟨a6, c6, hvf, _⟩ := ho6.form; rw [show (pairOuts (s1, s2) nx k tm i ++ [o]).length = i + 1 from by rw [List.length_append, HOL.out]; rfl] at hvf; subst hvf; refine with_fact (T := W8.grownBy w6 (Value.slice oa i oc).ownBlock) ?_ ?_; (focus (exact grown_alloc hg6)); intro hg7; have hc7 := HB8.out.cells.grown hg7 HN8.out; have r1 := hc7.c2; have r3 := hc7.f))
          all_goals
            have HBL7 := Lib.hid (HB8.out.term ho6 hg7 (fun k hk => (hb6 k hk).imp id (fun h => by simp at h; omega)))
            have H58 := Lib.hid (H55.out.below bA)
            have HZ8 := Lib.hid (HZ5.out.below bA)
            have HP8 := Lib.hid (HP5.out.below bA)
            have HBW8 := Lib.hid (HB5.out.trans (bA.mono HB5.out.size))
            have HNV : Hid (∀ q, (Value.slice oa i oc).ownBlock = some q → g2 ≠ q) := fun q hq => by
              obtain ⟨_, c1, h1⟩ := ownP_block HP8.out g2 rfl
              obtain ⟨c2, h2⟩ := has_block HV8.out.has q hq
              exact ne_of_types h1 h2 (by decide)
            have H57 := Lib.hid ((H58.out.grown hg7 (H58.out.ne_has HV8.out.has (by decide))).other (a := ⟨p, 2, none⟩) hne1 (.slice a6 (i + 1) c6))
            have HZ7 := Lib.hid ((HZ8.out.grown hg7 (has_ne_c3 HV8.out.has HZ8.out (by decide))).other (a := ⟨p, 2, none⟩) hne2 (.slice a6 (i + 1) c6))
            have HB7 : Hid (Below w.heap.size w (w6.setCell ⟨p, 2, none⟩ (.slice a6 (i + 1) c6))) := (HV8.out.has.frame HBW8.out (by have := HBB.out; omega) hg7).setCell hne3 _
            have HP7a := Lib.hid (HP8.out.kept hg7 (.inr (fun e => HNV.out g2 e.symm rfl)))
            have HP7 := Lib.hid (HP7a.out.kept (grown_cell w6 p 2 (.slice a6 (i + 1) c6)) (.inr (fun e => by have e2 : g2 = p := Option.some.inj e; have := HBB.out; omega)))
            have HP9 : Hid (OwnP (w6.setCell ⟨p, 2, none⟩ (.slice a6 (i + 1) c6)) BB (.slice (some ⟨g2, 0, none⟩) M.length pc2) (pairI (s1, s2) nx k (i + 1))) := by rw [← HME.out]; exact HP7.out
            have HBL8 : Hid (Building (w6.setCell ⟨p, 2, none⟩ (.slice a6 (i + 1) c6)) BB w6.heap.size p (k : Int) (.slice a2 (i + 1) c2) (.slice a6 (i + 1) c6) (us ++ [.slice (some ⟨zb, 0, none⟩) k k]) (pairRows (s1, s2) nx k (i + 1)) (pairOuts (s1, s2) nx k tm (i + 1))) := by
              have h1 := HBL7.out
              rw [HOE.out] at h1
              rw [rows_succ HSF.out, outs_succ HSF.out]
              exact h1
            have HLL : Hid (i + 1 ≤ (pairI (s1, s2) nx k (i + 1)).length ∧ (pairI (s1, s2) nx k (i + 1)).length ≤ 16) := by
              show _ ∧ _
              rw [← HME.out]
              omega
            clear ho6 hb6 hg6 hg7 hc7 r1 r3 c8 c8a HB8 HV8 HN8 HGB bA b8 HBL7 H58 HZ8 HP8 HBW8 HNV HP7a HP7
            go_wp2
            go_roundw
            case rel => exact ⟨i + 1, _, _, _, w6.heap.size, HLL.out.1, HLL.out.2, by go_num, HP9, HBL8, H57, HZ7, HB7⟩
            case measure => simp [intOf]; omega
end Comb
end Go.Proofs.Ytodnkkofammhbaa
/- Contracts of CombineValues and of the ways to combine two terms, of the model and of the program. No conditions beyond those that each states. -/
namespace Go.Proofs.Ytodnkkofammhbaa
open Go.ChangeShapes Go.WideShapes Go.ChangeAt Go.RowKit
open Go.PlainAid Plain
set_option linter.unusedVariables false
namespace Comb
open Seqs
theorem eq_no {a b : Int} (h : ¬ a = b) : (a == b) = false := by simpa using h
theorem eq_yes {a b : Int} (h : a = b) : (a == b) = true := by simpa using h
/-- What the ways say of two terms. -/
def combW (x y how : Int) : Int := if how = 1 then (x + y) % 4 else if how = 2 then (if x = y then 1 else 0) else if how = 3 then (if x < y then 1 else 0) else max x y
def combK (x y how : Int) : Bool := decide ((0 ≤ x ∧ x ≤ 3) ∧ (0 ≤ y ∧ y ≤ 3) ∧ 1 ≤ how ∧ how ≤ 4)
def combV (x y how : Int) : Int := if combK x y how = true then combW x y how else -1
theorem combW_bd {x y how : Int} (hx : 0 ≤ x ∧ x ≤ 3) (hy : 0 ≤ y ∧ y ≤ 3) : 0 ≤ combW x y how ∧ combW x y how ≤ 3 := by
  unfold combW
  split
  · omega
  · split
    · split <;> omega
    · split
      · split <;> omega
      · rw [Int.max_def]; split <;> omega
theorem spec_values (x y how : Int) (w : World) :
    Calls Try.prog 27 #[.int .i64 x, .int .i64 y, .int .i64 how] w fun e w' => e = .returned (.int .i64 (combV x y how)) ∧ w = w' := by
  by_cases hx : 0 ≤ x ∧ x ≤ 3
  case neg =>
    have hk : combV x y how = -1 := by rw [combV, combK, decide_eq_false (fun h => hx h.1)]; rfl
    have HK := Lib.hid hk
    have HX := Lib.hid (show x < 0 ∨ 3 < x by omega)
    clear hk hx
    go_enter Try.func27, Try.ntmps27
    go_wp2_with fail
    refine (l1In_no _ _ _ _ HX.out).mono ?_
    rintro e w' ⟨rfl, rfl⟩
    go_wp2
    go_ret
    exact ⟨ret_i HK.out.symm, rfl⟩
  case pos =>
    obtain ⟨hx0, hx3⟩ := hx
    by_cases hy : 0 ≤ y ∧ y ≤ 3
    case neg =>
      have hk : combV x y how = -1 := by rw [combV, combK, decide_eq_false (fun h => hy h.2.1)]; rfl
      have HK := Lib.hid hk
      have HX := Lib.hid (show y < 0 ∨ 3 < y by omega)
      clear hk hy
      go_enter Try.func27, Try.ntmps27
      go_wp2_with fail
      refine (l1In_yes _ _ _ _ hx0 hx3).mono ?_
      rintro e w' ⟨rfl, rfl⟩
      go_wp2_with fail
      refine (l1In_no _ _ _ _ HX.out).mono ?_
      rintro e w' ⟨rfl, rfl⟩
      go_wp2
      go_ret
      exact ⟨ret_i HK.out.symm, rfl⟩
    case pos =>
      obtain ⟨hy0, hy3⟩ := hy
      have hv : combV x y how = if 1 ≤ how ∧ how ≤ 4 then combW x y how else -1 := by
        unfold combV combK
        by_cases h : 1 ≤ how ∧ how ≤ 4
        · rw [decide_eq_true ⟨⟨hx0, hx3⟩, ⟨hy0, hy3⟩, h⟩, if_pos h]; rfl
        · rw [decide_eq_false (fun h' => h h'.2.2), if_neg h]; rfl
      have HV := Lib.hid hv
      clear hv
      by_cases h1 : how = 1
      · subst h1
        have HK := Lib.hid (show combV x y 1 = (x + y) % 4 from HV.out)
        clear HV
        go_enter Try.func27, Try.ntmps27
        go_wp2_with fail
        refine (l1In_yes _ _ _ _ hx0 hx3).mono ?_
        rintro e w' ⟨rfl, rfl⟩
        go_wp2_with fail
        refine (l1In_yes _ _ _ _ hy0 hy3).mono ?_
        rintro e w' ⟨rfl, rfl⟩
        go_wp2
        go_ret
        exact ⟨ret_i HK.out.symm, rfl⟩
      · by_cases h2 : how = 2
        · subst h2
          have HK := Lib.hid (show combV x y 2 = if x = y then 1 else 0 from HV.out)
          clear HV h1
          by_cases he : x = y
          · have hd := eq_yes he
            have HK1 := Lib.hid (show combV x y 2 = 1 by rw [HK.out, if_pos he])
            clear HK he
            go_enter Try.func27, Try.ntmps27
            go_wp2_with fail
            refine (l1In_yes _ _ _ _ hx0 hx3).mono ?_
            rintro e w' ⟨rfl, rfl⟩
            go_wp2_with fail
            refine (l1In_yes _ _ _ _ hy0 hy3).mono ?_
            rintro e w' ⟨rfl, rfl⟩
            go_wp2
            go_ret
            exact ⟨ret_i HK1.out.symm, rfl⟩
          · have hd := eq_no he
            have HK1 := Lib.hid (show combV x y 2 = 0 by rw [HK.out, if_neg he])
            clear HK he
            go_enter Try.func27, Try.ntmps27
            go_wp2_with fail
            refine (l1In_yes _ _ _ _ hx0 hx3).mono ?_
            rintro e w' ⟨rfl, rfl⟩
            go_wp2_with fail
            refine (l1In_yes _ _ _ _ hy0 hy3).mono ?_
            rintro e w' ⟨rfl, rfl⟩
            go_wp2
            go_ret
            exact ⟨ret_i HK1.out.symm, rfl⟩
        · by_cases h3 : how = 3
          · subst h3
            have HK := Lib.hid (show combV x y 3 = if x < y then 1 else 0 from HV.out)
            clear HV h1 h2
            by_cases he : x < y
            · have hd := decide_eq_true he
              have HK1 := Lib.hid (show combV x y 3 = 1 by rw [HK.out, if_pos he])
              clear HK he
              go_enter Try.func27, Try.ntmps27
              go_wp2_with fail
              refine (l1In_yes _ _ _ _ hx0 hx3).mono ?_
              rintro e w' ⟨rfl, rfl⟩
              go_wp2_with fail
              refine (l1In_yes _ _ _ _ hy0 hy3).mono ?_
              rintro e w' ⟨rfl, rfl⟩
              go_wp2
              go_ret
              exact ⟨ret_i HK1.out.symm, rfl⟩
            · have hd := decide_eq_false he
              have HK1 := Lib.hid (show combV x y 3 = 0 by rw [HK.out, if_neg he])
              clear HK he
              go_enter Try.func27, Try.ntmps27
              go_wp2_with fail
              refine (l1In_yes _ _ _ _ hx0 hx3).mono ?_
              rintro e w' ⟨rfl, rfl⟩
              go_wp2_with fail
              refine (l1In_yes _ _ _ _ hy0 hy3).mono ?_
              rintro e w' ⟨rfl, rfl⟩
              go_wp2
              go_ret
              exact ⟨ret_i HK1.out.symm, rfl⟩
          · by_cases h4 : how = 4
            · subst h4
              have HK := Lib.hid (show combV x y 4 = max x y from HV.out)
              clear HV h1 h2 h3
              go_enter Try.func27, Try.ntmps27
              go_wp2_with fail
              refine (l1In_yes _ _ _ _ hx0 hx3).mono ?_
              rintro e w' ⟨rfl, rfl⟩
              go_wp2_with fail
              refine (l1In_yes _ _ _ _ hy0 hy3).mono ?_
              rintro e w' ⟨rfl, rfl⟩
              go_wp2
              go_ret
              exact ⟨ret_i HK.out.symm, rfl⟩
            · have HK := Lib.hid (show combV x y how = -1 by rw [HV.out, if_neg (by omega)])
              have d1 := eq_no h1
              have d2 := eq_no h2
              have d3 := eq_no h3
              have d4 := eq_no h4
              clear HV h1 h2 h3 h4
              go_enter Try.func27, Try.ntmps27
              go_wp2_with fail
              refine (l1In_yes _ _ _ _ hx0 hx3).mono ?_
              rintro e w' ⟨rfl, rfl⟩
              go_wp2_with fail
              refine (l1In_yes _ _ _ _ hy0 hy3).mono ?_
              rintro e w' ⟨rfl, rfl⟩
              go_wp2
              go_ret
              exact ⟨ret_i HK.out.symm, rfl⟩
/-- The closure that looks for a way: it compares the way's number. -/
theorem way_pred (how k : Int) (fv : Value) (w : World) (B : Nat) (hB : B < w.heap.size) (hc : w.cell? ⟨B, 0, none⟩ = some (.int .i64 how)) :
    Calls Try.prog 63 #[.agg #[.int .i64 k, fv], .pointer (some ⟨B, 0, none⟩)] w fun e w' => e = .returned (.bool (k == how)) ∧ Below w.heap.size w w' := by
  have hne : B ≠ w.heap.size := by omega
  go_enter Try.func63, Try.ntmps63
  go_wp2
  all_goals (go_ret; exact ⟨rfl, (Below.refl _ _).alloc (Nat.le_refl _) _⟩)
def wayF (how : Int) : Nat := if how = 1 then 57 else if how = 2 then 58 else if how = 3 then 60 else 61
theorem way_enters (how : Int) : ∀ args w, (callFunc (wayF how) args).run Try.prog w = .ok (.enter (wayF how) args) w := by
  unfold wayF
  split
  · exact enters_of Try.func57 (by kernel_rfl) rfl
  · split
    · exact enters_of Try.func58 (by kernel_rfl) rfl
    · split
      · exact enters_of Try.func60 (by kernel_rfl) rfl
      · exact enters_of Try.func61 (by kernel_rfl) rfl
theorem one_if (c : Bool) (w : World) : Calls Try.prog 59 #[.bool c] w fun e w' => e = .returned (.int .i64 (if c = true then 1 else 0)) ∧ w = w' := by
  cases c with
  | true =>
    go_enter Try.func59, Try.ntmps59
    go_wp2
    go_ret
    exact ⟨rfl, rfl⟩
  | false =>
    go_enter Try.func59, Try.ntmps59
    go_wp2
    go_ret
    exact ⟨rfl, rfl⟩
/-- What each way's function answers. -/
theorem way_call (x y how : Int) (w : World) (hx : 0 ≤ x ∧ x ≤ 3) (hy : 0 ≤ y ∧ y ≤ 3) (h : 1 ≤ how ∧ how ≤ 4) :
    Calls Try.prog (wayF how) #[.int .i64 x, .int .i64 y] w fun e w' => e = .returned (.int .i64 (combW x y how)) ∧ w = w' := by
  obtain ⟨hx0, hx3⟩ := hx
  obtain ⟨hy0, hy3⟩ := hy
  have h4 : how = 1 ∨ how = 2 ∨ how = 3 ∨ how = 4 := by omega
  clear h
  rcases h4 with rfl | rfl | rfl | rfl
  · show Calls Try.prog 57 _ w fun e w' => e = .returned (.int .i64 ((x + y) % 4)) ∧ w = w'
    go_enter Try.func57, Try.ntmps57
    go_wp2
    go_ret
    exact ⟨rfl, rfl⟩
  · show Calls Try.prog 58 _ w fun e w' => e = .returned (.int .i64 (if x = y then 1 else 0)) ∧ w = w'
    by_cases he : x = y
    · have hd := eq_yes he
      rw [if_pos he]
      clear he
      go_enter Try.func58, Try.ntmps58
      go_wp2_with fail
      first | (rw [hd]; refine (one_if _ _).mono ?_) | refine (one_if _ _).mono ?_
      rintro e w' ⟨rfl, rfl⟩
      go_wp2
      go_ret
      exact ⟨rfl, rfl⟩
    · have hd := eq_no he
      rw [if_neg he]
      clear he
      go_enter Try.func58, Try.ntmps58
      go_wp2_with fail
      first | (rw [hd]; refine (one_if _ _).mono ?_) | refine (one_if _ _).mono ?_
      rintro e w' ⟨rfl, rfl⟩
      go_wp2
      go_ret
      exact ⟨rfl, rfl⟩
  · show Calls Try.prog 60 _ w fun e w' => e = .returned (.int .i64 (if x < y then 1 else 0)) ∧ w = w'
    by_cases he : x < y
    · have hd := decide_eq_true he
      rw [if_pos he]
      clear he
      go_enter Try.func60, Try.ntmps60
      go_wp2_with fail
      first | (rw [hd]; refine (one_if _ _).mono ?_) | refine (one_if _ _).mono ?_
      rintro e w' ⟨rfl, rfl⟩
      go_wp2
      go_ret
      exact ⟨rfl, rfl⟩
    · have hd := decide_eq_false he
      rw [if_neg he]
      clear he
      go_enter Try.func60, Try.ntmps60
      go_wp2_with fail
      first | (rw [hd]; refine (one_if _ _).mono ?_) | refine (one_if _ _).mono ?_
      rintro e w' ⟨rfl, rfl⟩
      go_wp2
      go_ret
      exact ⟨rfl, rfl⟩
  · show Calls Try.prog 61 _ w fun e w' => e = .returned (.int .i64 (max x y)) ∧ w = w'
    go_enter Try.func61, Try.ntmps61
    go_wp2
    go_ret
    exact ⟨rfl, rfl⟩
/-- Where the way lies among the four. -/
def wayAt (how : Int) : Int := if 1 ≤ how ∧ how ≤ 4 then how - 1 else -1
def wayV (k : Nat) : Value := .func (.func (wayF ((k : Int) + 1))) #[] #[]
theorem way_index (how : Int) (w : World) (z B : Nat) (hB : B < w.heap.size) (hz : z < w.heap.size) (hc : w.cell? ⟨B, 0, none⟩ = some (.int .i64 how))
    (hk : ∀ k : Nat, k < 4 → w.cell? ⟨z, k * 2, none⟩ = some (.int .i64 ((k : Int) + 1)) ∧ w.cell? ⟨z, k * 2 + 1, none⟩ = some (wayV k)) :
    Calls Try.prog 62 #[.slice (some ⟨z, 0, none⟩) 4 4, .func (.func 63) #[] #[.pointer (some ⟨B, 0, none⟩)]] w fun e w' => e = .returned (.int .i64 (wayAt how)) ∧ Below w.heap.size w w' := by
  have eg : ∀ args w, (callFunc 63 args).run Try.prog w = .ok (.enter 63 args) w := enters_of Try.func63 (by kernel_rfl) rfl
  have HKC := Lib.hid hk
  have HC := Lib.hid hc
  clear hk hc
  go_enter Try.func62, Try.ntmps62
  go_wp2
  go_loopw [8] (fun i' wr => ∃ i : Nat, i ≤ 4 ∧ i' = .int .i64 i ∧ Hid (∀ j : Nat, j < i → ¬ ((j : Int) + 1 = how)) ∧ Hid (Below w.heap.size w wr)) (fun i' _ => 4 - (intOf i').toNat)
  case atStart => exact ⟨0, by omega, rfl, fun j hj => by omega, Below.refl _ _⟩
  case round =>
    obtain ⟨i, hi, rfl, HI, HB⟩ := hrel
    by_cases hlt : i < 4
    · have hk0 := (HB.out.cell (p := ⟨z, i * 2, none⟩) hz).trans (HKC.out i hlt).1
      have hk1 := (HB.out.cell (p := ⟨z, i * 2 + 1, none⟩) hz).trans (HKC.out i hlt).2
      have HC1 := Lib.hid ((HB.out.cell (p := ⟨B, 0, none⟩) hB).trans HC.out)
      have HP := Lib.hid (way_pred how ((i : Int) + 1) (wayV i) wr B (Nat.lt_of_lt_of_le hB HB.out.size) HC1.out)
      obtain ⟨c, hc⟩ : ∃ c, c = ((i : Int) + 1 == how) := ⟨_, rfl⟩
      rw [← hc] at HP
      obtain ⟨u, hu⟩ : ∃ u, u = wayV i := ⟨_, rfl⟩
      rw [← hu] at hk1 HP
      obtain ⟨j, hj⟩ : ∃ j : Int, j = (i : Int) + 1 := ⟨_, rfl⟩
      rw [← hj] at hk0 HP
      have HCC := Lib.hid hc
      clear hc hu hj
      cases c with
      | true =>
        have HE : Hid (wayAt how = (i : Int)) := by
          have h := beq_iff_eq.1 HCC.out.symm
          show _ = _
          rw [wayAt, if_pos (by omega)]
          omega
        go_wp2_with (go_at_fn 63; refine HP.out.mono ?_; rintro e w' ⟨rfl, hb⟩)
        go_ret
        exact ⟨ret_i HE.out.symm, HB.out.trans (hb.mono HB.out.size)⟩
      | false =>
        have HN : Hid (∀ j : Nat, j < i + 1 → ¬ ((j : Int) + 1 = how)) := fun j hj => by
          by_cases e : j = i
          · subst e; exact beq_eq_false_iff_ne.1 HCC.out.symm
          · exact HI.out j (by omega)
        go_wp2_with (go_at_fn 63; refine HP.out.mono ?_; rintro e w' ⟨rfl, hb⟩; have HB2 := Lib.hid (HB.out.trans (hb.mono HB.out.size)))
        go_roundw
        case rel => exact ⟨i + 1, by omega, by go_num, HN, HB2⟩
        case measure => simp [intOf]; omega
    · have HE : Hid (wayAt how = -1) := by
        show _ = _
        rw [wayAt, if_neg]
        intro h
        have h0 := HI.out (how - 1).toNat (by omega)
        omega
      go_wp2
      go_ret
      exact ⟨ret_i HE.out.symm, HB.out⟩
end Comb
end Go.Proofs.Ytodnkkofammhbaa
/- Contracts of wayOf and of CombineValues of the program. No conditions beyond those that each states. -/
namespace Go.Proofs.Ytodnkkofammhbaa
open Go.ChangeShapes Go.WideShapes Go.ChangeAt Go.RowKit
open Go.PlainAid Plain
set_option linter.unusedVariables false
namespace Comb
open Seqs
theorem l8_at (k : Nat) (h : k < 4) : ([.int .i64 1, .func (.func 57) #[] #[], .int .i64 2, .func (.func 58) #[] #[], .int .i64 3, .func (.func 60) #[] #[], .int .i64 4, .func (.func 61) #[] #[]] : List Value)[k * 2]? = some (.int .i64 ((k : Int) + 1)) ∧ ([.int .i64 1, .func (.func 57) #[] #[], .int .i64 2, .func (.func 58) #[] #[], .int .i64 3, .func (.func 60) #[] #[], .int .i64 4, .func (.func 61) #[] #[]] : List Value)[k * 2 + 1]? = some (wayV k) := by
  match k, h with
  | 0, _ => exact ⟨rfl, rfl⟩
  | 1, _ => exact ⟨rfl, rfl⟩
  | 2, _ => exact ⟨rfl, rfl⟩
  | 3, _ => exact ⟨rfl, rfl⟩
theorem way_yes (how : Int) (w : World) (h : 1 ≤ how ∧ how ≤ 4) :
    Calls Try.prog 31 #[.int .i64 how] w fun e w' => e = .returned (.tuple #[.agg #[.int .i64 how, .func (.func (wayF how)) #[] #[]], .bool true]) ∧ Below w.heap.size w w' := by
  obtain ⟨k, hk4, rfl⟩ : ∃ k : Nat, k < 4 ∧ how = (k : Int) + 1 := ⟨(how - 1).toNat, by omega, by omega⟩
  have hat : wayAt ((k : Int) + 1) = (k : Int) := by rw [wayAt, if_pos h]; omega
  obtain ⟨hw, hhw⟩ : ∃ hw : Int, hw = (k : Int) + 1 := ⟨_, rfl⟩
  obtain ⟨g, hg⟩ : ∃ g, g = wayF hw := ⟨_, rfl⟩
  have hu : .func (.func g) #[] #[] = wayV k := by rw [hg, hhw]; rfl
  have HU := Lib.hid hg
  rw [← hhw] at hat
  have HAT := Lib.hid hat
  have HHW := Lib.hid hhw
  have HUV := Lib.hid hu
  rw [← hhw]
  clear h hat hhw hu hg
  have hb0 : Below w.heap.size w (((w.alloc (.cells #[.int .i64 hw] 3)).alloc (.cells #[.int .i64 0, .nilFunc] 53)).alloc (.cells #[.int .i64 1, .func (.func 57) #[] #[], .int .i64 2, .func (.func 58) #[] #[], .int .i64 3, .func (.func 60) #[] #[], .int .i64 4, .func (.func 61) #[] #[]] 53)) := (((Below.refl _ _).alloc (Nat.le_refl _) _).alloc (by simp only [size_alloc'] <;> omega) _).alloc (by simp only [size_alloc'] <;> omega) _
  have c1 : CellsN (((w.alloc (.cells #[.int .i64 hw] 3)).alloc (.cells #[.int .i64 0, .nilFunc] 53)).alloc (.cells #[.int .i64 1, .func (.func 57) #[] #[], .int .i64 2, .func (.func 58) #[] #[], .int .i64 3, .func (.func 60) #[] #[], .int .i64 4, .func (.func 61) #[] #[]] 53)) w.heap.size 3 [.int .i64 hw] := ((CellsN.new w 3 [.int .i64 hw]).alloc (.cells #[.int .i64 0, .nilFunc] 53)).alloc (.cells #[.int .i64 1, .func (.func 57) #[] #[], .int .i64 2, .func (.func 58) #[] #[], .int .i64 3, .func (.func 60) #[] #[], .int .i64 4, .func (.func 61) #[] #[]] 53)
  have c2 : CellsN (((w.alloc (.cells #[.int .i64 hw] 3)).alloc (.cells #[.int .i64 0, .nilFunc] 53)).alloc (.cells #[.int .i64 1, .func (.func 57) #[] #[], .int .i64 2, .func (.func 58) #[] #[], .int .i64 3, .func (.func 60) #[] #[], .int .i64 4, .func (.func 61) #[] #[]] 53)) (w.heap.size + 1) 53 [.int .i64 0, .nilFunc] := by
    have h := (CellsN.new (w.alloc (.cells #[.int .i64 hw] 3)) 53 [.int .i64 0, .nilFunc]).alloc (.cells #[.int .i64 1, .func (.func 57) #[] #[], .int .i64 2, .func (.func 58) #[] #[], .int .i64 3, .func (.func 60) #[] #[], .int .i64 4, .func (.func 61) #[] #[]] 53)
    rw [size_alloc'] at h
    exact h
  have c3 : CellsN (((w.alloc (.cells #[.int .i64 hw] 3)).alloc (.cells #[.int .i64 0, .nilFunc] 53)).alloc (.cells #[.int .i64 1, .func (.func 57) #[] #[], .int .i64 2, .func (.func 58) #[] #[], .int .i64 3, .func (.func 60) #[] #[], .int .i64 4, .func (.func 61) #[] #[]] 53)) (w.heap.size + 1 + 1) 53 [.int .i64 1, .func (.func 57) #[] #[], .int .i64 2, .func (.func 58) #[] #[], .int .i64 3, .func (.func 60) #[] #[], .int .i64 4, .func (.func 61) #[] #[]] := by
    have h := CellsN.new ((w.alloc (.cells #[.int .i64 hw] 3)).alloc (.cells #[.int .i64 0, .nilFunc] 53)) 53 [.int .i64 1, .func (.func 57) #[] #[], .int .i64 2, .func (.func 58) #[] #[], .int .i64 3, .func (.func 60) #[] #[], .int .i64 4, .func (.func 61) #[] #[]]
    rw [size_alloc', size_alloc'] at h
    exact h
  have C1 := Lib.hid c1
  have C2 := Lib.hid c2
  have C3 := Lib.hid c3
  have HB := Lib.hid hb0
  clear c1 c2 c3 hb0
  go_enter Try.func31, Try.ntmps31
  go_wp2_with fail
  obtain ⟨W3, hW3⟩ : ∃ W, W = (((w.alloc (.cells #[.int .i64 hw] 3)).alloc (.cells #[.int .i64 0, .nilFunc] 53)).alloc (.cells #[.int .i64 1, .func (.func 57) #[] #[], .int .i64 2, .func (.func 58) #[] #[], .int .i64 3, .func (.func 60) #[] #[], .int .i64 4, .func (.func 61) #[] #[]] 53)) := ⟨_, rfl⟩
  rw [← hW3] at C1 C2 C3 HB ⊢
  clear hW3
  have hidx := way_index hw W3 (w.heap.size + 1 + 1) w.heap.size C1.out.lt C3.out.lt (C1.out.at_ rfl) (fun k hk => ⟨C3.out.at_ (l8_at k hk).1, C3.out.at_ (l8_at k hk).2⟩)
  rw [HAT.out] at hidx
  refine hidx.mono ?_
  rintro e W4 ⟨rfl, hb⟩
  have C24 := Lib.hid (C2.out.below hb)
  have C34 := Lib.hid (C3.out.below hb)
  have HB4 := Lib.hid (HB.out.trans (hb.mono HB.out.size))
  clear hb hidx C1 C2 C3 HB
  have x0 := C34.out.at_ (l8_at k hk4).1
  have x1 := C34.out.at_ (l8_at k hk4).2
  rw [← HHW.out] at x0
  rw [← HUV.out] at x1
  have f0 := C24.out.f
  have z0 := C24.out.at_ (i := 0) rfl
  have z1 := C24.out.at_ (i := 1) rfl
  have hd := decide_eq_false (show ¬ (k : Int) < 0 by omega)
  go_wp2
  have hn := (C24.out.set 0 (.int .i64 hw)).set 1 (.func (.func g) #[] #[])
  have n0 := hn.at_ (i := 0) rfl
  have n1 := hn.at_ (i := 1) rfl
  refine bodyPost_ret (v := .tuple #[.agg #[.int .i64 hw, .func (.func g) #[] #[]], .bool true]) (by simp [results, Try.results31, go_sem, n0, n1]) rfl ⟨by rw [HU.out], ?_⟩
  exact (HB4.out.setCell (by show _ ≤ _ + 1; omega) _).setCell (by show _ ≤ _ + 1; omega) _
theorem way_no (how : Int) (w : World) (h : ¬ (1 ≤ how ∧ how ≤ 4)) :
    Calls Try.prog 31 #[.int .i64 how] w fun e w' => e = .returned (.tuple #[.agg #[.int .i64 0, .nilFunc], .bool false]) ∧ Below w.heap.size w w' := by
  have hat : wayAt how = -1 := by rw [wayAt, if_neg h]
  have HAT := Lib.hid hat
  clear h hat
  have hb0 : Below w.heap.size w (((w.alloc (.cells #[.int .i64 how] 3)).alloc (.cells #[.int .i64 0, .nilFunc] 53)).alloc (.cells #[.int .i64 1, .func (.func 57) #[] #[], .int .i64 2, .func (.func 58) #[] #[], .int .i64 3, .func (.func 60) #[] #[], .int .i64 4, .func (.func 61) #[] #[]] 53)) := (((Below.refl _ _).alloc (Nat.le_refl _) _).alloc (by simp only [size_alloc'] <;> omega) _).alloc (by simp only [size_alloc'] <;> omega) _
  have c1 : CellsN (((w.alloc (.cells #[.int .i64 how] 3)).alloc (.cells #[.int .i64 0, .nilFunc] 53)).alloc (.cells #[.int .i64 1, .func (.func 57) #[] #[], .int .i64 2, .func (.func 58) #[] #[], .int .i64 3, .func (.func 60) #[] #[], .int .i64 4, .func (.func 61) #[] #[]] 53)) w.heap.size 3 [.int .i64 how] := ((CellsN.new w 3 [.int .i64 how]).alloc (.cells #[.int .i64 0, .nilFunc] 53)).alloc (.cells #[.int .i64 1, .func (.func 57) #[] #[], .int .i64 2, .func (.func 58) #[] #[], .int .i64 3, .func (.func 60) #[] #[], .int .i64 4, .func (.func 61) #[] #[]] 53)
  have c2 : CellsN (((w.alloc (.cells #[.int .i64 how] 3)).alloc (.cells #[.int .i64 0, .nilFunc] 53)).alloc (.cells #[.int .i64 1, .func (.func 57) #[] #[], .int .i64 2, .func (.func 58) #[] #[], .int .i64 3, .func (.func 60) #[] #[], .int .i64 4, .func (.func 61) #[] #[]] 53)) (w.heap.size + 1) 53 [.int .i64 0, .nilFunc] := by
    have h := (CellsN.new (w.alloc (.cells #[.int .i64 how] 3)) 53 [.int .i64 0, .nilFunc]).alloc (.cells #[.int .i64 1, .func (.func 57) #[] #[], .int .i64 2, .func (.func 58) #[] #[], .int .i64 3, .func (.func 60) #[] #[], .int .i64 4, .func (.func 61) #[] #[]] 53)
    rw [size_alloc'] at h
    exact h
  have c3 : CellsN (((w.alloc (.cells #[.int .i64 how] 3)).alloc (.cells #[.int .i64 0, .nilFunc] 53)).alloc (.cells #[.int .i64 1, .func (.func 57) #[] #[], .int .i64 2, .func (.func 58) #[] #[], .int .i64 3, .func (.func 60) #[] #[], .int .i64 4, .func (.func 61) #[] #[]] 53)) (w.heap.size + 1 + 1) 53 [.int .i64 1, .func (.func 57) #[] #[], .int .i64 2, .func (.func 58) #[] #[], .int .i64 3, .func (.func 60) #[] #[], .int .i64 4, .func (.func 61) #[] #[]] := by
    have h := CellsN.new ((w.alloc (.cells #[.int .i64 how] 3)).alloc (.cells #[.int .i64 0, .nilFunc] 53)) 53 [.int .i64 1, .func (.func 57) #[] #[], .int .i64 2, .func (.func 58) #[] #[], .int .i64 3, .func (.func 60) #[] #[], .int .i64 4, .func (.func 61) #[] #[]]
    rw [size_alloc', size_alloc'] at h
    exact h
  have C1 := Lib.hid c1
  have C2 := Lib.hid c2
  have C3 := Lib.hid c3
  have HB := Lib.hid hb0
  clear c1 c2 c3 hb0
  go_enter Try.func31, Try.ntmps31
  go_wp2_with fail
  obtain ⟨W3, hW3⟩ : ∃ W, W = (((w.alloc (.cells #[.int .i64 how] 3)).alloc (.cells #[.int .i64 0, .nilFunc] 53)).alloc (.cells #[.int .i64 1, .func (.func 57) #[] #[], .int .i64 2, .func (.func 58) #[] #[], .int .i64 3, .func (.func 60) #[] #[], .int .i64 4, .func (.func 61) #[] #[]] 53)) := ⟨_, rfl⟩
  rw [← hW3] at C1 C2 C3 HB ⊢
  clear hW3
  have hidx := way_index how W3 (w.heap.size + 1 + 1) w.heap.size C1.out.lt C3.out.lt (C1.out.at_ rfl) (fun k hk => ⟨C3.out.at_ (l8_at k hk).1, C3.out.at_ (l8_at k hk).2⟩)
  rw [HAT.out] at hidx
  refine hidx.mono ?_
  rintro e W4 ⟨rfl, hb⟩
  have C24 := Lib.hid (C2.out.below hb)
  have HB4 := Lib.hid (HB.out.trans (hb.mono HB.out.size))
  clear hb hidx C1 C2 C3 HB
  have f0 := C24.out.f
  have z0 := C24.out.at_ (i := 0) rfl
  have z1 := C24.out.at_ (i := 1) rfl
  go_wp2
  have hn := (C24.out.set 0 (.int .i64 0)).set 1 .nilFunc
  have n0 := hn.at_ (i := 0) rfl
  have n1 := hn.at_ (i := 1) rfl
  refine bodyPost_ret (v := .tuple #[.agg #[.int .i64 0, .nilFunc], .bool false]) (by simp [results, Try.results31, go_sem, n0, n1]) rfl ⟨rfl, ?_⟩
  exact (HB4.out.setCell (by show _ ≤ _ + 1; omega) _).setCell (by show _ ≤ _ + 1; omega) _
set_option maxHeartbeats 1000000 in
theorem impl_values (x y how : Int) (w : World) :
    Calls Try.prog 11 #[.int .i64 x, .int .i64 y, .int .i64 how] w fun e w' => e = .returned (.int .i64 (combV x y how)) ∧ Below w.heap.size w w' := by
  by_cases hh : 1 ≤ how ∧ how ≤ 4
  case neg =>
    have hk : combV x y how = -1 := by rw [combV, combK, decide_eq_false (fun h => hh h.2.2)]; rfl
    have HK := Lib.hid hk
    have HH := Lib.hid hh
    clear hk hh
    go_enter Try.func11, Try.ntmps11
    go_wp2_with fail
    refine (way_no how _ HH.out).mono ?_
    rintro e w1 ⟨rfl, hb⟩
    have HB := Lib.hid hb
    clear hb
    go_wp2
    go_ret
    exact ⟨ret_i HK.out.symm, HB.out.alloc HB.out.size _⟩
  case pos =>
  have HH := Lib.hid hh
  clear hh
  by_cases hx : 0 ≤ x ∧ x ≤ 3
  case neg =>
    have hk : combV x y how = -1 := by rw [combV, combK, decide_eq_false (fun h => hx h.1)]; rfl
    have HK := Lib.hid hk
    have HX := Lib.hid (show x < 0 ∨ 3 < x by omega)
    clear hk hx
    obtain ⟨g, hg⟩ : ∃ g, g = wayF how := ⟨_, rfl⟩
    have HY := Lib.hid (fun W => way_yes how W HH.out)
    rw [← hg] at HY
    clear hg
    go_enter Try.func11, Try.ntmps11
    go_wp2_with fail
    refine (HY.out _).mono ?_
    rintro e w1 ⟨rfl, hb⟩
    have HB := Lib.hid hb
    clear hb
    go_wp2_with fail
    refine (term_no _ _ HX.out).mono ?_
    rintro e w' ⟨rfl, rfl⟩
    go_wp2
    go_ret
    exact ⟨ret_i HK.out.symm, HB.out.alloc HB.out.size _⟩
  case pos =>
  obtain ⟨hx0, hx3⟩ := hx
  by_cases hy : 0 ≤ y ∧ y ≤ 3
  case neg =>
    have hk : combV x y how = -1 := by rw [combV, combK, decide_eq_false (fun h => hy h.2.1)]; rfl
    have HK := Lib.hid hk
    have HX := Lib.hid (show y < 0 ∨ 3 < y by omega)
    clear hk hy
    obtain ⟨g, hg⟩ : ∃ g, g = wayF how := ⟨_, rfl⟩
    have HY := Lib.hid (fun W => way_yes how W HH.out)
    rw [← hg] at HY
    clear hg
    go_enter Try.func11, Try.ntmps11
    go_wp2_with fail
    refine (HY.out _).mono ?_
    rintro e w1 ⟨rfl, hb⟩
    have HB := Lib.hid hb
    clear hb
    go_wp2_with fail
    refine (term_yes _ _ hx0 hx3).mono ?_
    rintro e w' ⟨rfl, rfl⟩
    go_wp2_with fail
    refine (term_no _ _ HX.out).mono ?_
    rintro e w' ⟨rfl, rfl⟩
    go_wp2
    go_ret
    exact ⟨ret_i HK.out.symm, HB.out.alloc HB.out.size _⟩
  case pos =>
  obtain ⟨hy0, hy3⟩ := hy
  have hk : combV x y how = combW x y how := by rw [combV, combK, decide_eq_true ⟨⟨hx0, hx3⟩, ⟨hy0, hy3⟩, HH.out⟩]; rfl
  have HK := Lib.hid hk
  clear hk
  have HY := Lib.hid (fun W => way_yes how W HH.out)
  have HC := Lib.hid (fun W => way_call x y how W ⟨hx0, hx3⟩ ⟨hy0, hy3⟩ HH.out)
  have eg := way_enters how
  obtain ⟨g, hg⟩ : ∃ g, g = wayF how := ⟨_, rfl⟩
  rw [← hg] at HY HC eg
  clear hg
  go_enter Try.func11, Try.ntmps11
  go_wp2_with fail
  refine (HY.out _).mono ?_
  rintro e w1 ⟨rfl, hb⟩
  have HB := Lib.hid hb
  have HC2 := Lib.hid (CellsN.new w1 53 [.int .i64 how, .func (.func g) #[] #[]])
  clear hb
  go_wp2_with fail
  refine (term_yes _ _ hx0 hx3).mono ?_
  rintro e w' ⟨rfl, rfl⟩
  go_wp2_with fail
  refine (term_yes _ _ hy0 hy3).mono ?_
  rintro e w' ⟨rfl, rfl⟩
  have k1 := HC2.out.at_ (i := 1) rfl
  go_wp2_with (go_at_fn g; refine (HC.out _).mono ?_; rintro e w' ⟨rfl, rfl⟩)
  go_ret
  exact ⟨ret_i HK.out.symm, HB.out.alloc HB.out.size _⟩
end Comb
end Go.Proofs.Ytodnkkofammhbaa
/- The functions that lead a pair of states on and give its term, as CombineTerms of the program makes them. No conditions beyond those that each states. -/
namespace Go.Proofs.Ytodnkkofammhbaa
open Go.ChangeShapes Go.WideShapes Go.ChangeAt Go.RowKit
open Go.PlainAid Plain
set_option linter.unusedVariables false
namespace Comb
open Seqs
theorem old_cellC {w w' : World} {p o : Nat} {u : Value} (hb : Below w.heap.size w w') (h : w.cell? ⟨p, o, none⟩ = some u) : w'.cell? ⟨p, o, none⟩ = some u := (hb.cell (p := ⟨p, o, none⟩) (World.block_lt_of_cell? w _ h)).trans h
/-- What the cells of a sequence that lies say of one step. -/
theorem step_cells {w : World} {b : Int} {rows : List (List Int)} {out : List Int} {an ao : Option Addr} {cn co : Nat} (h : LiesS w (.agg #[.int .i64 b, .slice an rows.length cn, .slice ao out.length co]) b rows out) (hv : IsSeq b rows out) {x : Nat} (hx : x < rows.length) {d : Nat} (hd : (d : Int) < b) :
    ∃ p o q t c n, an = some ⟨p, o, none⟩ ∧ w.cell? ⟨p, o + x, none⟩ = some (.slice (some ⟨q, t, none⟩) n c) ∧ d < n ∧ w.cell? ⟨q, t + d, none⟩ = some (.int .i64 (nextS rows x d)) := by
  obtain ⟨r, hr⟩ : ∃ r, rows[x]? = some r := ⟨_, List.getElem?_eq_getElem hx⟩
  have hl := (hv.2.2.2.2.2.1 r (List.mem_of_getElem? hr)).1
  obtain ⟨p, o, a', ca', rfl, hu, hc⟩ := h.cells.1 x r hr
  obtain ⟨y, hy⟩ : ∃ y, r[d]? = some y := ⟨_, List.getElem?_eq_getElem (by omega)⟩
  obtain ⟨q, t, rfl, hcy⟩ := hc d y hy
  refine ⟨p, o, q, t, ca', r.length, rfl, hu, by omega, ?_⟩
  rw [hcy]
  have e : nextS rows (x : Int) (d : Int) = y := by
    unfold nextS
    rw [Int.toNat_natCast, Int.toNat_natCast, List.getD_eq_getElem?_getD (l := rows), hr, Option.getD_some, List.getD_eq_getElem?_getD, hy]
    rfl
  rw [e]
set_option maxRecDepth 100000 in
set_option maxHeartbeats 1000000 in
theorem comb_next (b : Int) (ra rb : List (List Int)) (oa ob : List Int) (ana aoa anb aob : Option Addr) (cna coa cnb cob : Nat) (w : World) (pa pb : Nat)
    (ha : LiesS w (.agg #[.int .i64 b, .slice ana ra.length cna, .slice aoa oa.length coa]) b ra oa) (hb : LiesS w (.agg #[.int .i64 b, .slice anb rb.length cnb, .slice aob ob.length cob]) b rb ob)
    (ca : Cells3 w pa 27 (.int .i64 b) (.slice ana ra.length cna) (.slice aoa oa.length coa)) (cb : Cells3 w pb 27 (.int .i64 b) (.slice anb rb.length cnb) (.slice aob ob.length cob))
    (va : IsSeq b ra oa) (vb : IsSeq b rb ob) (x y d : Nat) (hx : x < ra.length) (hy : y < rb.length) (hd : (d : Int) < b) :
    Calls Try.prog 33 #[.agg #[.int .i64 (x : Int), .int .i64 (y : Int)], .int .i64 (d : Int), .pointer (some ⟨pa, 0, none⟩), .pointer (some ⟨pb, 0, none⟩)] w fun e w' => e = .returned (.agg #[.int .i64 (nextS ra x d), .int .i64 (nextS rb y d)]) ∧ Below w.heap.size w w' := by
  obtain ⟨p, o, q, t, c, n, rfl, a1, hn, a2⟩ := step_cells ha va hx hd
  obtain ⟨p', o', q', t', c', n', rfl, b1, hn', b2⟩ := step_cells hb vb hy hd
  obtain ⟨u1, hu1⟩ : ∃ u, u = nextS ra x d := ⟨_, rfl⟩
  obtain ⟨u2, hu2⟩ : ∃ u, u = nextS rb y d := ⟨_, rfl⟩
  rw [← hu1] at a2 ⊢
  rw [← hu2] at b2 ⊢
  clear hu1 hu2
  have hb2 : Below w.heap.size w ((w.alloc (.cells #[.int .i64 (x : Int), .int .i64 (y : Int)] 57)).alloc (.cells #[.int .i64 0, .int .i64 0] 57)) := ((Below.refl _ _).alloc (Nat.le_refl _) _).alloc (by simp only [size_alloc'] <;> omega) _
  have cx := (CellsN.new w 57 [.int .i64 (x : Int), .int .i64 (y : Int)]).alloc (.cells #[.int .i64 0, .int .i64 0] 57)
  have cz := CellsN.new (w.alloc (.cells #[.int .i64 (x : Int), .int .i64 (y : Int)] 57)) 57 [.int .i64 0, .int .i64 0]
  rw [size_alloc'] at cz
  have ca2 := ca.below hb2
  have cb2 := cb.below hb2
  have a1' := old_cellC hb2 a1
  have a2' := old_cellC hb2 a2
  have b1' := old_cellC hb2 b1
  have b2' := old_cellC hb2 b2
  have hxa : (x : Int) < (ra.length : Int) := by omega
  have hyb : (y : Int) < (rb.length : Int) := by omega
  have hx0 : (0 : Int) ≤ (x : Int) := Int.natCast_nonneg _
  have hy0 : (0 : Int) ≤ (y : Int) := Int.natCast_nonneg _
  have hd0 : (0 : Int) ≤ (d : Int) := Int.natCast_nonneg _
  have hdn : (d : Int) < (n : Int) := by omega
  have hdn' : (d : Int) < (n' : Int) := by omega
  have hpa := ca.lt
  have hpb := cb.lt
  have HCX := Lib.hid cx
  have HCZ := Lib.hid cz
  have HB := Lib.hid hb2
  have HCA := Lib.hid ca2
  have HCB := Lib.hid cb2
  have HA1 := Lib.hid a1'
  have HA2 := Lib.hid a2'
  have HB1 := Lib.hid b1'
  have HB2 := Lib.hid b2'
  clear ha hb ca cb va vb cx cz hb2 ca2 cb2 a1 a2 b1 b2 a1' a2' b1' b2' hd
  go_enter Try.func33, Try.ntmps33
  go_wp2
  obtain ⟨W, hW⟩ : ∃ W, W = (w.alloc (.cells #[.int .i64 (x : Int), .int .i64 (y : Int)] 57)).alloc (.cells #[.int .i64 0, .int .i64 0] 57) := ⟨_, rfl⟩
  rw [← hW] at HCX HCZ HB HCA HCB HA1 HA2 HB1 HB2 ⊢
  have k1 := HCA.out.c1
  have k2 := HCB.out.c1
  have x0 := HCX.out.at_ (i := 0) rfl
  have x1 := HCX.out.at_ (i := 1) rfl
  have z0 := HCZ.out.at_ (i := 0) rfl
  have z1 := HCZ.out.at_ (i := 1) rfl
  have zf := HCZ.out.f
  have e1 := HA1.out
  have e2 := HA2.out
  have e3 := HB1.out
  have e4 := HB2.out
  clear hW
  go_still_tail 19, (by kernel_rfl)
  change wpList _ _ _ _ _ W.drew
  have hbd := below_drew' W
  have HCZ2 := Lib.hid (HCZ.out.below hbd)
  have HB2' := Lib.hid (HB.out.trans (hbd.mono HB.out.size))
  generalize W.drew = W2 at HCZ2 HB2' ⊢
  clear HCX HCZ HB HCA HCB HA1 HA2 HB1 HB2 k1 k2 x0 x1 z0 z1 zf e1 e2 e3 e4 hbd
  have z0 := HCZ2.out.at_ (i := 0) rfl
  have z1 := HCZ2.out.at_ (i := 1) rfl
  have zf := HCZ2.out.f
  go_wp2
  have hn := (HCZ2.out.set 0 (.int .i64 u1)).set 1 (.int .i64 u2)
  have n0 := hn.at_ (i := 0) rfl
  have n1 := hn.at_ (i := 1) rfl
  refine bodyPost_ret (v := .agg #[.int .i64 u1, .int .i64 u2]) (by simp [results, Try.results33, go_sem, n0, n1]) rfl ⟨rfl, ?_⟩
  exact (HB2'.out.setCell (Nat.le_succ _) _).setCell (Nat.le_succ _) _
/-- A term's cell. -/
theorem term_cells {w : World} {b : Int} {rows : List (List Int)} {out : List Int} {an ao : Option Addr} {cn co : Nat} (h : LiesS w (.agg #[.int .i64 b, .slice an rows.length cn, .slice ao out.length co]) b rows out) (hv : IsSeq b rows out) {x : Nat} (hx : x < rows.length) :
    ∃ q s, ao = some ⟨q, s, none⟩ ∧ w.cell? ⟨q, s + x, none⟩ = some (.int .i64 (out.getD x 0)) ∧ x < out.length ∧ 0 ≤ out.getD x 0 ∧ out.getD x 0 ≤ 3 := by
  have hl := hv.2.2.2.2.1
  have ho : out[x]? = some (out.getD x 0) := by rw [List.getD_eq_getElem?_getD, List.getElem?_eq_getElem (show x < out.length by omega)]; rfl
  obtain ⟨q, s, h1, h2⟩ := h.cells.2 x _ ho
  exact ⟨q, s, h1, h2, by omega, hv.2.2.2.2.2.2 _ (List.mem_of_getElem? ho)⟩
set_option maxRecDepth 100000 in
set_option maxHeartbeats 1000000 in
theorem comb_term (b : Int) (ra rb : List (List Int)) (oa ob : List Int) (ana aoa anb aob : Option Addr) (cna coa cnb cob : Nat) (w : World) (pa pb pw : Nat) (how : Int) (hh : 1 ≤ how ∧ how ≤ 4)
    (ha : LiesS w (.agg #[.int .i64 b, .slice ana ra.length cna, .slice aoa oa.length coa]) b ra oa) (hb : LiesS w (.agg #[.int .i64 b, .slice anb rb.length cnb, .slice aob ob.length cob]) b rb ob)
    (ca : Cells3 w pa 27 (.int .i64 b) (.slice ana ra.length cna) (.slice aoa oa.length coa)) (cb : Cells3 w pb 27 (.int .i64 b) (.slice anb rb.length cnb) (.slice aob ob.length cob))
    (cw : CellsN w pw 53 [.int .i64 how, .func (.func (wayF how)) #[] #[]])
    (va : IsSeq b ra oa) (vb : IsSeq b rb ob) (x y : Nat) (hx : x < ra.length) (hy : y < rb.length) :
    Calls Try.prog 34 #[.agg #[.int .i64 (x : Int), .int .i64 (y : Int)], .pointer (some ⟨pw, 0, none⟩), .pointer (some ⟨pa, 0, none⟩), .pointer (some ⟨pb, 0, none⟩)] w fun e w' => e = .returned (.int .i64 (combW (oa.getD x 0) (ob.getD y 0) how)) ∧ Below w.heap.size w w' := by
  obtain ⟨q, s, rfl, a1, hxl, hta⟩ := term_cells ha va hx
  obtain ⟨q', s', rfl, b1, hyl, htb⟩ := term_cells hb vb hy
  have HC := Lib.hid (fun W => way_call (oa.getD x 0) (ob.getD y 0) how W hta htb hh)
  have eg := way_enters how
  obtain ⟨g, hg⟩ : ∃ g, g = wayF how := ⟨_, rfl⟩
  obtain ⟨u1, hu1⟩ : ∃ u, u = oa.getD x 0 := ⟨_, rfl⟩
  obtain ⟨u2, hu2⟩ : ∃ u, u = ob.getD y 0 := ⟨_, rfl⟩
  obtain ⟨u3, hu3⟩ : ∃ u, u = combW (oa.getD x 0) (ob.getD y 0) how := ⟨_, rfl⟩
  rw [← hu3] at HC ⊢
  rw [← hu1] at a1 HC
  rw [← hu2] at b1 HC
  rw [← hg] at HC eg cw
  clear hu1 hu2 hu3 hg hta htb
  have HQ : Hid (∀ (W : World) (n : Nat), Calls Try.prog g #[.int .i64 u1, .int .i64 u2] (W.drewN n) fun e w'' => e = .returned (.int .i64 u3) ∧ ∃ m, w'' = W.drewN m) := fun W n => (HC.out _).mono fun _ _ ⟨he, hw⟩ => ⟨he, n, hw.symm⟩
  have hb2 : Below w.heap.size w (w.alloc (.cells #[.int .i64 (x : Int), .int .i64 (y : Int)] 57)) := (Below.refl _ _).alloc (Nat.le_refl _) _
  have cx := CellsN.new w 57 [.int .i64 (x : Int), .int .i64 (y : Int)]
  have ca2 := ca.below hb2
  have cb2 := cb.below hb2
  have cw2 := cw.below hb2
  have a1' := old_cellC hb2 a1
  have b1' := old_cellC hb2 b1
  have hxa : (x : Int) < (oa.length : Int) := by omega
  have hyb : (y : Int) < (ob.length : Int) := by omega
  have hx0 : (0 : Int) ≤ (x : Int) := Int.natCast_nonneg _
  have hy0 : (0 : Int) ≤ (y : Int) := Int.natCast_nonneg _
  have HCX := Lib.hid cx
  have HB := Lib.hid hb2
  have HCA := Lib.hid ca2
  have HCB := Lib.hid cb2
  have HCW := Lib.hid cw2
  have HA1 := Lib.hid a1'
  have HB1 := Lib.hid b1'
  clear ha hb ca cb cw va vb cx hb2 ca2 cb2 cw2 a1 b1 a1' b1' HC
  go_enter Try.func34, Try.ntmps34
  go_wp2
  obtain ⟨W, hW⟩ : ∃ W, W = w.alloc (.cells #[.int .i64 (x : Int), .int .i64 (y : Int)] 57) := ⟨_, rfl⟩
  rw [← hW] at HCX HB HCA HCB HCW HA1 HB1 ⊢
  have k1 := HCA.out.c2
  have k2 := HCB.out.c2
  have k3 := HCW.out.at_ (i := 1) rfl
  have x0 := HCX.out.at_ (i := 0) rfl
  have x1 := HCX.out.at_ (i := 1) rfl
  have e1 := HA1.out
  have e3 := HB1.out
  clear hW
  go_quiet ((go_at_fn g; exact HQ.out _ _))
  go_wp2
  go_ret
  exact ⟨rfl, below_drewN HB.out _⟩
end Comb
end Go.Proofs.Ytodnkkofammhbaa
/- Contract of CombineTerms of the program. No conditions beyond those that it states. -/
namespace Go.Proofs.Ytodnkkofammhbaa
open Go.ChangeShapes Go.WideShapes Go.ChangeAt Go.RowKit
open Go.PlainAid Plain
set_option linter.unusedVariables false
namespace Comb
open Seqs
def nxC (ra rb : List (List Int)) : Pr → Nat → Pr := fun s d => (nextS ra s.1 d, nextS rb s.2 d)
def tmC (oa ob : List Int) (how : Int) : Pr → Int := fun s => combW (oa.getD s.1.toNat 0) (ob.getD s.2.toNat 0) how
def OkC (ra rb : List (List Int)) : Pr → Prop := fun s => (0 ≤ s.1 ∧ s.1 < (ra.length : Int)) ∧ 0 ≤ s.2 ∧ s.2 < (rb.length : Int)
theorem walksC {b : Int} {ra rb : List (List Int)} {oa ob : List Int} (va : IsSeq b ra oa) (vb : IsSeq b rb ob) : Walks (0, 0) (nxC ra rb) b.toNat (OkC ra rb) := by
  refine ⟨⟨⟨Int.le_refl _, by have := va.2.2.1; show (0 : Int) < _; omega⟩, Int.le_refl _, by have := vb.2.2.1; show (0 : Int) < _; omega⟩, fun s hs d hd => ?_⟩
  have hdb : (d : Int) < b := by omega
  obtain ⟨_, _, _, h1⟩ := va.next hs.1.1 hs.1.2 (Int.natCast_nonneg d) hdb
  obtain ⟨_, _, _, h2⟩ := vb.next hs.2.1 hs.2.2 (Int.natCast_nonneg d) hdb
  exact ⟨h1, h2⟩
def combOK (b b' : Int) (ra rb : List (List Int)) (oa ob : List Int) (how : Int) : Bool := (seqB b ra oa && seqB b' rb ob) && (decide (b = b') && decide (1 ≤ how ∧ how ≤ 4))
def cmK (b b' : Int) (ra rb : List (List Int)) (oa ob : List Int) (how : Int) : Bool := combOK b b' ra rb oa ob how && pairK (0, 0) (nxC ra rb) b.toNat
def cmB (b b' : Int) (ra rb : List (List Int)) (oa ob : List Int) (how : Int) : Int := if combOK b b' ra rb oa ob how = true then pB (0, 0) (nxC ra rb) b.toNat else 0
def cmR (b b' : Int) (ra rb : List (List Int)) (oa ob : List Int) (how : Int) : List (List Int) := if combOK b b' ra rb oa ob how = true then pR (0, 0) (nxC ra rb) b.toNat else []
def cmO (b b' : Int) (ra rb : List (List Int)) (oa ob : List Int) (how : Int) : List Int := if combOK b b' ra rb oa ob how = true then pO (0, 0) (nxC ra rb) b.toNat (tmC oa ob how) else []
theorem cm_no {b b' : Int} {ra rb : List (List Int)} {oa ob : List Int} {how : Int} (h : combOK b b' ra rb oa ob how = false) : cmB b b' ra rb oa ob how = 0 ∧ cmR b b' ra rb oa ob how = [] ∧ cmO b b' ra rb oa ob how = [] ∧ cmK b b' ra rb oa ob how = false := by
  unfold cmB cmR cmO cmK
  rw [h]
  simp
theorem cm_yes {b b' : Int} {ra rb : List (List Int)} {oa ob : List Int} {how : Int} (h : combOK b b' ra rb oa ob how = true) : cmB b b' ra rb oa ob how = pB (0, 0) (nxC ra rb) b.toNat ∧ cmR b b' ra rb oa ob how = pR (0, 0) (nxC ra rb) b.toNat ∧ cmO b b' ra rb oa ob how = pO (0, 0) (nxC ra rb) b.toNat (tmC oa ob how) ∧ cmK b b' ra rb oa ob how = pairK (0, 0) (nxC ra rb) b.toNat := by
  unfold cmB cmR cmO cmK
  rw [h]
  simp
set_option maxRecDepth 100000 in
set_option maxHeartbeats 2000000 in
theorem impl_comb (u v : Value) (b b' : Int) (ra rb : List (List Int)) (oa ob : List Int) (how : Int) (w : World) (h1 : LiesS w u b ra oa) (h2 : LiesS w v b' rb ob) :
    Calls Try.prog 6 #[u, v, .int .i64 how] w (GivesK (cmB b b' ra rb oa ob how) (cmR b b' ra rb oa ob how) (cmO b b' ra rb oa ob how) (cmK b b' ra rb oa ob how) w) := by
  obtain ⟨yb, hyb⟩ : ∃ y, y = cmB b b' ra rb oa ob how := ⟨_, rfl⟩
  obtain ⟨yr, hyr⟩ : ∃ y, y = cmR b b' ra rb oa ob how := ⟨_, rfl⟩
  obtain ⟨yo, hyo⟩ : ∃ y, y = cmO b b' ra rb oa ob how := ⟨_, rfl⟩
  obtain ⟨yk, hyk⟩ : ∃ y, y = cmK b b' ra rb oa ob how := ⟨_, rfl⟩
  have HYE := Lib.hid (show yb = cmB b b' ra rb oa ob how ∧ yr = cmR b b' ra rb oa ob how ∧ yo = cmO b b' ra rb oa ob how ∧ yk = cmK b b' ra rb oa ob how from ⟨hyb, hyr, hyo, hyk⟩)
  rw [← hyb, ← hyr, ← hyo, ← hyk]
  clear hyb hyr hyo hyk
  have HSA := Lib.hid h1
  have HSB := Lib.hid h2
  obtain ⟨ana, cna, aoa, coa, rfl⟩ := h1.form
  obtain ⟨anb, cnb, aob, cob, rfl⟩ := h2.form
  clear h1 h2
  have hA := ((Cells3.new w 27 (.int .i64 b) (.slice ana ra.length cna) (.slice aoa oa.length coa)).alloc (Obj.cells #[Value.int .i64 b', .slice anb rb.length cnb, .slice aob ob.length cob] 27)).alloc (Obj.cells #[Value.int .i64 0, Value.slice none 0 0, Value.slice none 0 0] 27)
  have hBo := (Cells3.new (w.alloc (Obj.cells #[Value.int .i64 b, .slice ana ra.length cna, .slice aoa oa.length coa] 27)) 27 (.int .i64 b') (.slice anb rb.length cnb) (.slice aob ob.length cob)).alloc (Obj.cells #[Value.int .i64 0, Value.slice none 0 0, Value.slice none 0 0] 27)
  have hZ := Cells3.new ((w.alloc (Obj.cells #[Value.int .i64 b, .slice ana ra.length cna, .slice aoa oa.length coa] 27)).alloc (Obj.cells #[Value.int .i64 b', .slice anb rb.length cnb, .slice aob ob.length cob] 27)) 27 (.int .i64 0) (.slice none 0 0) (.slice none 0 0)
  rw [size_alloc'] at hBo
  rw [size_alloc', size_alloc'] at hZ
  have HA1 := Lib.hid hA
  have HO1 := Lib.hid hBo
  have HZ1 := Lib.hid hZ
  have HB1 : Hid (Below w.heap.size w (((w.alloc (Obj.cells #[Value.int .i64 b, .slice ana ra.length cna, .slice aoa oa.length coa] 27)).alloc (Obj.cells #[Value.int .i64 b', .slice anb rb.length cnb, .slice aob ob.length cob] 27)).alloc (Obj.cells #[Value.int .i64 0, Value.slice none 0 0, Value.slice none 0 0] 27))) := (((Below.refl _ _).alloc (Nat.le_refl _) _).alloc (by simp only [size_alloc'] <;> omega) _).alloc (by simp only [size_alloc'] <;> omega) _
  clear hA hBo hZ
  by_cases hh : 1 ≤ how ∧ how ≤ 4
  case neg =>
    have HNO := Lib.hid (cm_no (show combOK b b' ra rb oa ob how = false by unfold combOK; rw [decide_eq_false hh]; simp))
    have HW := Lib.hid (fun W => way_no how W hh)
    clear hh
    go_enter Try.func6, Try.ntmps6
    go_wp2_with fail
    refine (HW.out _).mono ?_
    rintro e W1 ⟨rfl, b1⟩
    have HZa := Lib.hid (HZ1.out.below b1)
    have HBa := Lib.hid (HB1.out.trans (b1.mono HB1.out.size))
    have HZR := Lib.hid (HZa.out.alloc (.cells #[.int .i64 0, .nilFunc] 53))
    have HBR := Lib.hid (HBa.out.alloc HBa.out.size (.cells #[.int .i64 0, .nilFunc] 53))
    clear b1 HA1 HO1 HZ1 HB1 HZa HBa
    have hy := HYE.out
    rw [HNO.out.1, HNO.out.2.1, HNO.out.2.2.1, HNO.out.2.2.2] at hy
    obtain ⟨rfl, rfl, rfl, rfl⟩ := hy
    have z0 := HZR.out.c0
    have z1 := HZR.out.c1
    have z2 := HZR.out.c2
    have z3 := HZR.out.f
    go_wp2
    have hZ3 := (((HZR.out.set0 (.int .i64 0)).set1 (.slice none 0 0)).set2 (.slice none 0 0))
    have n0 := hZ3.c0
    have n1 := hZ3.c1
    have n2 := hZ3.c2
    refine bodyPost_ret (v := .tuple #[.agg #[.int .i64 0, .slice none 0 0, .slice none 0 0], .bool false]) (by simp [results, Try.results6, go_sem, n0, n1, n2]) rfl ⟨_, rfl, OwnS.zero _, ?_⟩
    exact ((HBR.out.setCell (by show _ ≤ _ + 1 + 1; omega) _).setCell (by show _ ≤ _ + 1 + 1; omega) _).setCell (by show _ ≤ _ + 1 + 1; omega) _
  case pos =>
    have HH := Lib.hid hh
    clear hh
    obtain ⟨g, hg⟩ : ∃ g, g = wayF how := ⟨_, rfl⟩
    have HW := Lib.hid (fun W => way_yes how W HH.out)
    rw [← hg] at HW
    have HGE := Lib.hid hg
    clear hg
    obtain ⟨q1, hq1⟩ : ∃ q, q = seqB b ra oa := ⟨_, rfl⟩
    obtain ⟨q2, hq2⟩ : ∃ q, q = seqB b' rb ob := ⟨_, rfl⟩
    have HQ1 := Lib.hid hq1
    have HQ2 := Lib.hid hq2
    have HC1 := Lib.hid (fun (W : World) (hW : Below w.heap.size w W) => impl_is _ b ra oa W (HSA.out.below hW))
    have HC2 := Lib.hid (fun (W : World) (hW : Below w.heap.size w W) => impl_is _ b' rb ob W (HSB.out.below hW))
    rw [← hq1] at HC1
    rw [← hq2] at HC2
    clear hq1 hq2
    go_enter Try.func6, Try.ntmps6
    go_wp2_with fail
    refine (HW.out _).mono ?_
    rintro e W1 ⟨rfl, b1⟩
    have HAa := Lib.hid ((HA1.out.below b1).alloc (.cells #[.int .i64 how, .func (.func g) #[] #[]] 53))
    have HOa := Lib.hid ((HO1.out.below b1).alloc (.cells #[.int .i64 how, .func (.func g) #[] #[]] 53))
    have HZa := Lib.hid ((HZ1.out.below b1).alloc (.cells #[.int .i64 how, .func (.func g) #[] #[]] 53))
    have HWa := Lib.hid (CellsN.new W1 53 [.int .i64 how, .func (.func g) #[] #[]])
    have hBa := HB1.out.trans (b1.mono HB1.out.size)
    have HBa := Lib.hid (hBa.alloc hBa.size (.cells #[.int .i64 how, .func (.func g) #[] #[]] 53))
    have HPW := Lib.hid (show w.heap.size + 3 ≤ W1.heap.size by have := (HZ1.out.below b1).lt; omega)
    clear b1 HA1 HO1 HZ1 HB1 hBa
    have k0 := HAa.out.c0
    have k1 := HAa.out.c1
    have k2 := HAa.out.c2
    go_wp2_with fail
    refine (HC1.out _ HBa.out).mono ?_
    rintro e W2 ⟨rfl, b2⟩
    have HAb := Lib.hid (HAa.out.below b2)
    have HOb := Lib.hid (HOa.out.below b2)
    have HZb := Lib.hid (HZa.out.below b2)
    have HWb := Lib.hid (HWa.out.below b2)
    have HBb := Lib.hid (HBa.out.trans (b2.mono HBa.out.size))
    clear b2 HAa HOa HZa HWa HBa k0 k1 k2
    cases q1 with
    | false =>
      have HNO := Lib.hid (cm_no (how := how) (b' := b') (rb := rb) (ob := ob) (show combOK b b' ra rb oa ob how = false by unfold combOK; rw [← HQ1.out]; simp))
      have HZR := HZb
      have HBR := HBb
      have hy := HYE.out
      rw [HNO.out.1, HNO.out.2.1, HNO.out.2.2.1, HNO.out.2.2.2] at hy
      obtain ⟨rfl, rfl, rfl, rfl⟩ := hy
      have z0 := HZR.out.c0
      have z1 := HZR.out.c1
      have z2 := HZR.out.c2
      have z3 := HZR.out.f
      go_wp2
      have hZ3 := (((HZR.out.set0 (.int .i64 0)).set1 (.slice none 0 0)).set2 (.slice none 0 0))
      have n0 := hZ3.c0
      have n1 := hZ3.c1
      have n2 := hZ3.c2
      refine bodyPost_ret (v := .tuple #[.agg #[.int .i64 0, .slice none 0 0, .slice none 0 0], .bool false]) (by simp [results, Try.results6, go_sem, n0, n1, n2]) rfl ⟨_, rfl, OwnS.zero _, ?_⟩
      exact ((HBR.out.setCell (by show _ ≤ _ + 1 + 1; omega) _).setCell (by show _ ≤ _ + 1 + 1; omega) _).setCell (by show _ ≤ _ + 1 + 1; omega) _
    | true =>
    have k0 := HOb.out.c0
    have k1 := HOb.out.c1
    have k2 := HOb.out.c2
    go_wp2_with fail
    refine (HC2.out _ HBb.out).mono ?_
    rintro e W3 ⟨rfl, b3⟩
    have HAc := Lib.hid (HAb.out.below b3)
    have HOc := Lib.hid (HOb.out.below b3)
    have HZc := Lib.hid (HZb.out.below b3)
    have HWc := Lib.hid (HWb.out.below b3)
    have HBc := Lib.hid (HBb.out.trans (b3.mono HBb.out.size))
    clear b3 HAb HOb HZb HWb HBb k0 k1 k2
    cases q2 with
    | false =>
      have HNO := Lib.hid (cm_no (how := how) (ra := ra) (oa := oa) (b := b) (show combOK b b' ra rb oa ob how = false by unfold combOK; rw [← HQ2.out]; simp))
      have HZR := HZc
      have HBR := HBc
      have hy := HYE.out
      rw [HNO.out.1, HNO.out.2.1, HNO.out.2.2.1, HNO.out.2.2.2] at hy
      obtain ⟨rfl, rfl, rfl, rfl⟩ := hy
      have z0 := HZR.out.c0
      have z1 := HZR.out.c1
      have z2 := HZR.out.c2
      have z3 := HZR.out.f
      go_wp2
      have hZ3 := (((HZR.out.set0 (.int .i64 0)).set1 (.slice none 0 0)).set2 (.slice none 0 0))
      have n0 := hZ3.c0
      have n1 := hZ3.c1
      have n2 := hZ3.c2
      refine bodyPost_ret (v := .tuple #[.agg #[.int .i64 0, .slice none 0 0, .slice none 0 0], .bool false]) (by simp [results, Try.results6, go_sem, n0, n1, n2]) rfl ⟨_, rfl, OwnS.zero _, ?_⟩
      exact ((HBR.out.setCell (by show _ ≤ _ + 1 + 1; omega) _).setCell (by show _ ≤ _ + 1 + 1; omega) _).setCell (by show _ ≤ _ + 1 + 1; omega) _
    | true =>
    have k0 := HAc.out.c0
    have k1 := HOc.out.c0
    by_cases hbb : b = b'
    case neg =>
      have hd : (b != b') = true := by simpa using hbb
      have HNO := Lib.hid (cm_no (how := how) (ra := ra) (oa := oa) (rb := rb) (ob := ob) (show combOK b b' ra rb oa ob how = false by unfold combOK; rw [decide_eq_false hbb]; simp))
      have HZR := HZc
      have HBR := HBc
      clear hbb
      have hy := HYE.out
      rw [HNO.out.1, HNO.out.2.1, HNO.out.2.2.1, HNO.out.2.2.2] at hy
      obtain ⟨rfl, rfl, rfl, rfl⟩ := hy
      have z0 := HZR.out.c0
      have z1 := HZR.out.c1
      have z2 := HZR.out.c2
      have z3 := HZR.out.f
      go_wp2
      have hZ3 := (((HZR.out.set0 (.int .i64 0)).set1 (.slice none 0 0)).set2 (.slice none 0 0))
      have n0 := hZ3.c0
      have n1 := hZ3.c1
      have n2 := hZ3.c2
      refine bodyPost_ret (v := .tuple #[.agg #[.int .i64 0, .slice none 0 0, .slice none 0 0], .bool false]) (by simp [results, Try.results6, go_sem, n0, n1, n2]) rfl ⟨_, rfl, OwnS.zero _, ?_⟩
      exact ((HBR.out.setCell (by show _ ≤ _ + 1 + 1; omega) _).setCell (by show _ ≤ _ + 1 + 1; omega) _).setCell (by show _ ≤ _ + 1 + 1; omega) _
    case pos =>
      subst hbb
      have hd : (b != b) = false := by simp
      have va := seqB_out HQ1.out.symm
      have vb := seqB_out HQ2.out.symm
      have HVA := Lib.hid va
      have HVB := Lib.hid vb
      obtain ⟨bn, rfl⟩ : ∃ n : Nat, b = (n : Int) := ⟨b.toNat, by have := va.1; omega⟩
      have hb2 : 2 ≤ bn := by have := va.1; omega
      have hb4 : bn ≤ 4 := by have := va.2.1; omega
      have HYY := Lib.hid (cm_yes (show combOK (bn : Int) (bn : Int) ra rb oa ob how = true by unfold combOK; rw [← HQ1.out, ← HQ2.out, decide_eq_true HH.out]; simp))
      have hy := HYE.out
      rw [HYY.out.1, HYY.out.2.1, HYY.out.2.2.1, HYY.out.2.2.2, Int.toNat_natCast] at hy
      have HYP := Lib.hid hy
      have hwk := walksC va vb
      rw [Int.toNat_natCast] at hwk
      have HWK := Lib.hid hwk
      clear hy hwk va vb
      have HSP := Lib.hid (fun (W : World) (hW : Below W3.heap.size W3 W) => searched_pairs bn hb2 hb4 0 0 (nxC ra rb) (tmC oa ob how) (OkC ra rb) HWK.out 33 34 #[] #[.pointer (some ⟨w.heap.size, 0, none⟩), .pointer (some ⟨w.heap.size + 1, 0, none⟩)] #[] #[.pointer (some ⟨W1.heap.size, 0, none⟩), .pointer (some ⟨w.heap.size, 0, none⟩), .pointer (some ⟨w.heap.size + 1, 0, none⟩)]
        (enters_of Try.func33 (by kernel_rfl) rfl) (enters_of Try.func34 (by kernel_rfl) rfl) W
        (fun W' hW' x y hok d hdd => by
          obtain ⟨x, rfl⟩ := Int.eq_ofNat_of_zero_le hok.1.1
          obtain ⟨y, rfl⟩ := Int.eq_ofNat_of_zero_le hok.2.1
          have hb := hW.trans (hW'.mono hW.size)
          have hbw := HBc.out.trans (hb.mono HBc.out.size)
          exact comb_next (bn : Int) ra rb oa ob ana aoa anb aob cna coa cnb cob W' _ _ (HSA.out.below hbw) (HSB.out.below hbw) (HAc.out.below hb) (HOc.out.below hb) HVA.out HVB.out x y d (by have := hok.1.2; omega) (by have := hok.2.2; omega) (by omega))
        (fun W' hW' x y hok => by
          obtain ⟨x, rfl⟩ := Int.eq_ofNat_of_zero_le hok.1.1
          obtain ⟨y, rfl⟩ := Int.eq_ofNat_of_zero_le hok.2.1
          have hb := hW.trans (hW'.mono hW.size)
          have hbw := HBc.out.trans (hb.mono HBc.out.size)
          have hww := HWc.out.below hb
          rw [HGE.out] at hww
          exact comb_term (bn : Int) ra rb oa ob ana aoa anb aob cna coa cnb cob W' _ _ _ how HH.out (HSA.out.below hbw) (HSB.out.below hbw) (HAc.out.below hb) (HOc.out.below hb) hww HVA.out HVB.out x y (by have := hok.1.2; omega) (by have := hok.2.2; omega)))
      rw [← HYP.out.1, ← HYP.out.2.1, ← HYP.out.2.2.1, ← HYP.out.2.2.2] at HSP
      have hbp : Below W3.heap.size W3 (W3.alloc (.cells #[.int .i64 (bn : Int), .int .i64 0, .int .i64 0, .func (.func 33) #[] #[.pointer (some ⟨w.heap.size, 0, none⟩), .pointer (some ⟨w.heap.size + 1, 0, none⟩)], .func (.func 34) #[] #[.pointer (some ⟨W1.heap.size, 0, none⟩), .pointer (some ⟨w.heap.size, 0, none⟩), .pointer (some ⟨w.heap.size + 1, 0, none⟩)]] 61)) := (Below.refl _ _).alloc (Nat.le_refl _) _
      have HBP := Lib.hid hbp
      have HZd := Lib.hid (HZc.out.below hbp)
      have HBd := Lib.hid (HBc.out.trans (hbp.mono HBc.out.size))
      have HLO := Lib.hid (show w.heap.size + 3 ≤ (W3.alloc (.cells #[.int .i64 (bn : Int), .int .i64 0, .int .i64 0, .func (.func 33) #[] #[.pointer (some ⟨w.heap.size, 0, none⟩), .pointer (some ⟨w.heap.size + 1, 0, none⟩)], .func (.func 34) #[] #[.pointer (some ⟨W1.heap.size, 0, none⟩), .pointer (some ⟨w.heap.size, 0, none⟩), .pointer (some ⟨w.heap.size + 1, 0, none⟩)]] 61)).heap.size by
        have := HZc.out.lt
        rw [size_alloc']
        omega)
      clear hbp
      go_wp2_with fail
      refine (HSP.out _ HBP.out).mono ?_
      rintro e W5 ⟨rv, rfl, hrv, b5⟩
      obtain ⟨an5, cn5, ao5, co5, rfl⟩ := hrv.form
      have HR5 := Lib.hid hrv
      have HZ5 := Lib.hid (HZd.out.below b5)
      have HB5 := Lib.hid (HBd.out.trans (b5.mono HBd.out.size))
      have z0 := HZ5.out.c0
      have z1 := HZ5.out.c1
      have z2 := HZ5.out.c2
      have z3 := HZ5.out.f
      have h55 := b5.size
      clear hrv b5 k0 k1 hd
      go_wp2
      have hZ3 := (((HZ5.out.set0 (.int .i64 yb)).set1 (.slice an5 yr.length cn5)).set2 (.slice ao5 yo.length co5))
      have n0 := hZ3.c0
      have n1 := hZ3.c1
      have n2 := hZ3.c2
      refine bodyPost_ret (v := .tuple #[.agg #[.int .i64 yb, .slice an5 yr.length cn5, .slice ao5 yo.length co5], .bool yk]) (by simp [results, Try.results6, go_sem, n0, n1, n2]) rfl ⟨_, rfl, ?_, ?_⟩
      · have hT : ∀ (i : Nat) (u : Value) (W : World), Plain.Touch (w.heap.size + 1 + 1) (w.heap.size + 3) W (W.setCell ⟨w.heap.size + 1 + 1, i, none⟩ u) := fun i u W => Plain.Touch.of_set (a := ⟨w.heap.size + 1 + 1, i, none⟩) u (Nat.le_refl _) (Nat.lt_succ_self _)
        have T0 : Plain.Touch (w.heap.size + 1 + 1) (w.heap.size + 3) W5 (((W5.setCell ⟨w.heap.size + 1 + 1, 0, none⟩ (.int .i64 yb)).setCell ⟨w.heap.size + 1 + 1, 1, none⟩ (.slice an5 yr.length cn5)).setCell ⟨w.heap.size + 1 + 1, 2, none⟩ (.slice ao5 yo.length co5)) := ((hT 0 _ _).trans (hT 1 _ _)).trans (hT 2 _ _)
        have := (HR5.out.touch T0 (.inr HLO.out)).lower (show w.heap.size ≤ _ by have := HLO.out; omega)
        simpa only [size_setCell'] using this
      · exact ((HB5.out.setCell (by show _ ≤ _ + 1 + 1; omega) _).setCell (by show _ ≤ _ + 1 + 1; omega) _).setCell (by show _ ≤ _ + 1 + 1; omega) _
end Comb
end Go.Proofs.Ytodnkkofammhbaa
/- The functions that lead a pair of neighbours on and give its term, as ShiftedSequence of the program makes them. No conditions beyond those that each states. -/
namespace Go.Proofs.Ytodnkkofammhbaa
open Go.ChangeShapes Go.WideShapes Go.ChangeAt Go.RowKit
open Go.PlainAid Plain
set_option linter.unusedVariables false
namespace Comb
open Seqs
/-- The neighbours behind a digit. -/
def nxN (b : Nat) (rows : List (List Int)) : Pr → Nat → Pr := fun s d => (nextS rows s.1 d, if d + 1 < b then nextS rows s.1 ((d + 1 : Nat) : Int) else nextS rows s.2 0)
def tmN (out : List Int) : Pr → Int := fun s => out.getD s.2.toNat 0
def OkN (rows : List (List Int)) : Pr → Prop := fun s => (0 ≤ s.1 ∧ s.1 < (rows.length : Int)) ∧ 0 ≤ s.2 ∧ s.2 < (rows.length : Int)
theorem walksN {b : Int} {rows : List (List Int)} {out : List Int} (hv : IsSeq b rows out) : Walks (0, nextS rows 0 1) (nxN b.toNat rows) b.toNat (OkN rows) := by
  have hb := hv.1
  have h0 : (0 : Int) < (rows.length : Int) := by have := hv.2.2.1; omega
  obtain ⟨_, _, _, h1⟩ := hv.next (Int.le_refl 0) h0 (show (0 : Int) ≤ 1 by decide) (by omega)
  refine ⟨⟨⟨Int.le_refl _, h0⟩, h1⟩, fun s hs d hd => ?_⟩
  obtain ⟨_, _, _, h2⟩ := hv.next hs.1.1 hs.1.2 (Int.natCast_nonneg d) (by omega)
  refine ⟨h2, ?_⟩
  show 0 ≤ (if d + 1 < b.toNat then _ else _) ∧ (if d + 1 < b.toNat then _ else _) < _
  split
  · obtain ⟨_, _, _, h3⟩ := hv.next hs.1.1 hs.1.2 (Int.natCast_nonneg (d + 1)) (by omega)
    exact h3
  · obtain ⟨_, _, _, h3⟩ := hv.next hs.2.1 hs.2.2 (Int.le_refl 0) (by omega)
    exact h3
set_option maxRecDepth 100000 in
set_option maxHeartbeats 1000000 in
theorem shift_term (b : Int) (rows : List (List Int)) (out : List Int) (an ao : Option Addr) (cn co : Nat) (w : World) (pa : Nat)
    (h : LiesS w (.agg #[.int .i64 b, .slice an rows.length cn, .slice ao out.length co]) b rows out) (c : Cells3 w pa 27 (.int .i64 b) (.slice an rows.length cn) (.slice ao out.length co)) (hv : IsSeq b rows out) (x y : Int) (y0 : Nat) (hy : y = (y0 : Int)) (hyl : y0 < rows.length) :
    Calls Try.prog 48 #[.agg #[.int .i64 x, .int .i64 y], .pointer (some ⟨pa, 0, none⟩)] w fun e w' => e = .returned (.int .i64 (out.getD y0 0)) ∧ Below w.heap.size w w' := by
  subst hy
  obtain ⟨q, s, rfl, a1, hxl, _⟩ := term_cells h hv hyl
  obtain ⟨u, hu⟩ : ∃ u, u = out.getD y0 0 := ⟨_, rfl⟩
  rw [← hu] at a1 ⊢
  have hb2 : Below w.heap.size w (w.alloc (.cells #[.int .i64 x, .int .i64 (y0 : Int)] 57)) := (Below.refl _ _).alloc (Nat.le_refl _) _
  have cx := CellsN.new w 57 [.int .i64 x, .int .i64 (y0 : Int)]
  have ca2 := c.below hb2
  have a1' := old_cellC hb2 a1
  have hyb : (y0 : Int) < (out.length : Int) := by omega
  have hy0 : (0 : Int) ≤ (y0 : Int) := Int.natCast_nonneg _
  have HCX := Lib.hid cx
  have HB := Lib.hid hb2
  have HCA := Lib.hid ca2
  have HA1 := Lib.hid a1'
  clear h c hv cx hb2 ca2 a1 a1' hu
  go_enter Try.func48, Try.ntmps48
  go_upto_region 1 with fail
  obtain ⟨W, hW⟩ : ∃ W, W = w.alloc (.cells #[.int .i64 x, .int .i64 (y0 : Int)] 57) := ⟨_, rfl⟩
  rw [← hW] at HCX HB HCA HA1 ⊢
  have k1 := HCA.out.c2
  have x1 := HCX.out.at_ (i := 1) rfl
  have e1 := HA1.out
  clear hW
  go_wp2
  go_ret
  exact ⟨rfl, HB.out⟩
set_option maxRecDepth 100000 in
set_option maxHeartbeats 1000000 in
theorem shift_next (b : Int) (rows : List (List Int)) (out : List Int) (an ao : Option Addr) (cn co : Nat) (w : World)
    (h : LiesS w (.agg #[.int .i64 b, .slice an rows.length cn, .slice ao out.length co]) b rows out) (hv : IsSeq b rows out) (x y d : Nat) (hx : x < rows.length) (hy : y < rows.length) (hd : (d : Int) < b) :
    Calls Try.prog 47 #[.agg #[.int .i64 b, .slice an rows.length cn, .slice ao out.length co], .agg #[.int .i64 (x : Int), .int .i64 (y : Int)], .int .i64 (d : Int)] w fun e w' => e = .returned (.agg #[.int .i64 (nextS rows x d), .int .i64 (if d + 1 < b.toNat then nextS rows x ((d + 1 : Nat) : Int) else nextS rows y 0)]) ∧ Below w.heap.size w w' := by
  have hb2 := hv.1
  have hb4 := hv.2.1
  obtain ⟨p, o, q, t, c, n, rfl, a1, hn, a2⟩ := step_cells h hv hx hd
  have hB : Below w.heap.size w (((w.alloc (Obj.cells #[Value.int .i64 b, .slice (some ⟨p, o, none⟩) rows.length cn, .slice ao out.length co] 27)).alloc (.cells #[.int .i64 (x : Int), .int .i64 (y : Int)] 57)).alloc (.cells #[.int .i64 0, .int .i64 0] 57)) := (((Below.refl _ _).alloc (Nat.le_refl _) _).alloc (by simp only [size_alloc'] <;> omega) _).alloc (by simp only [size_alloc'] <;> omega) _
  have cs := ((Cells3.new w 27 (.int .i64 b) (.slice (some ⟨p, o, none⟩) rows.length cn) (.slice ao out.length co)).alloc (.cells #[.int .i64 (x : Int), .int .i64 (y : Int)] 57)).alloc (.cells #[.int .i64 0, .int .i64 0] 57)
  have cx := (CellsN.new (w.alloc (Obj.cells #[Value.int .i64 b, .slice (some ⟨p, o, none⟩) rows.length cn, .slice ao out.length co] 27)) 57 [.int .i64 (x : Int), .int .i64 (y : Int)]).alloc (.cells #[.int .i64 0, .int .i64 0] 57)
  have cz := CellsN.new ((w.alloc (Obj.cells #[Value.int .i64 b, .slice (some ⟨p, o, none⟩) rows.length cn, .slice ao out.length co] 27)).alloc (.cells #[.int .i64 (x : Int), .int .i64 (y : Int)] 57)) 57 [.int .i64 0, .int .i64 0]
  rw [size_alloc'] at cx
  rw [size_alloc', size_alloc'] at cz
  have hxa : (x : Int) < (rows.length : Int) := by omega
  have hya : (y : Int) < (rows.length : Int) := by omega
  have hx0 : (0 : Int) ≤ (x : Int) := Int.natCast_nonneg _
  have hy0 : (0 : Int) ≤ (y : Int) := Int.natCast_nonneg _
  have hd0 : (0 : Int) ≤ (d : Int) := Int.natCast_nonneg _
  have hdn : (d : Int) < (n : Int) := by omega
  have HCS := Lib.hid cs
  have HCX := Lib.hid cx
  have HCZ := Lib.hid cz
  have HB := Lib.hid hB
  have HA1 := Lib.hid (old_cellC hB a1)
  have HA2 := Lib.hid (old_cellC hB a2)
  obtain ⟨u1, hu1⟩ : ∃ u, u = nextS rows x d := ⟨_, rfl⟩
  rw [← hu1] at HA2 ⊢
  by_cases hl : d + 1 < b.toNat
  case pos =>
    obtain ⟨p2, o2, q2, t2, c2, n2, e2, a3, hn2, a4⟩ := step_cells h hv hx (d := d + 1) (by omega)
    injection e2 with e2
    injection e2 with e3 e4 _
    subst e3; subst e4
    rw [if_pos hl]
    have he := a1.symm.trans a3
    injection he with he
    injection he with he1 he2 he3
    injection he1 with he1
    injection he1 with he4 he5 _
    subst he4; subst he5; subst he2
    obtain ⟨u2, hu2⟩ : ∃ u, u = nextS rows x ((d + 1 : Nat) : Int) := ⟨_, rfl⟩
    rw [← hu2] at a4 ⊢
    have HA4 := Lib.hid (old_cellC hB a4)
    have hdd : ((d : Int) == b - 1) = false := by simp; omega
    have hd1n : (d : Int) + 1 < (n : Int) := by omega
    have hd10 : (0 : Int) ≤ (d : Int) + 1 := by omega
    have hd4 : d ≤ 4 := by omega
    clear h hv cs cx cz hB a1 a2 a3 a4 hu1 hu2 he3 hl hd hn2
    go_enter Try.func47, Try.ntmps47
    go_upto_region 1 with fail
    obtain ⟨W, hW⟩ : ∃ W, W = ((w.alloc (Obj.cells #[Value.int .i64 b, .slice (some ⟨p, o, none⟩) rows.length cn, .slice ao out.length co] 27)).alloc (.cells #[.int .i64 (x : Int), .int .i64 (y : Int)] 57)).alloc (.cells #[.int .i64 0, .int .i64 0] 57) := ⟨_, rfl⟩
    have hex := (HA4.out)
    have he4 := HA4.out
    have he1 := HA1.out
    have he2 := HA2.out
    rw [← hW] at HCS HCX HCZ HB hex he4 he1 he2 ⊢
    have k0 := HCS.out.c0
    have k1 := HCS.out.c1
    have x0 := HCX.out.at_ (i := 0) rfl
    have x1 := HCX.out.at_ (i := 1) rfl
    have z0 := HCZ.out.at_ (i := 0) rfl
    have z1 := HCZ.out.at_ (i := 1) rfl
    have zf := HCZ.out.f
    clear hW
    go_wp2
    have hn := (HCZ.out.set 0 (.int .i64 u1)).set 1 (.int .i64 u2)
    have n0 := hn.at_ (i := 0) rfl
    have n1 := hn.at_ (i := 1) rfl
    refine bodyPost_ret (v := .agg #[.int .i64 u1, .int .i64 u2]) (by simp [results, Try.results47, go_sem, n0, n1]) rfl ⟨rfl, ?_⟩
    exact (HB.out.setCell (by show _ ≤ _ + 1 + 1; omega) _).setCell (by show _ ≤ _ + 1 + 1; omega) _
  case neg =>
    obtain ⟨p2, o2, q2, t2, c2, n2, e2, a3, hn2, a4⟩ := step_cells h hv hy (d := 0) (by omega)
    injection e2 with e2
    injection e2 with e3 e4 _
    subst e3; subst e4
    rw [if_neg hl]
    obtain ⟨u2, hu2⟩ : ∃ u, u = nextS rows y ((0 : Nat) : Int) := ⟨_, rfl⟩
    rw [show nextS rows (y : Int) 0 = u2 from hu2.symm]
    rw [← hu2, Nat.add_zero] at a4
    have HA3 := Lib.hid (old_cellC hB a3)
    have HA4 := Lib.hid (old_cellC hB a4)
    have hdd : ((d : Int) == b - 1) = true := by simp; omega
    have hn20 : (0 : Int) < (n2 : Int) := by omega
    clear h hv cs cx cz hB a1 a2 a3 a4 hu1 hu2 hl hd hn2
    go_enter Try.func47, Try.ntmps47
    go_upto_region 1 with fail
    obtain ⟨W, hW⟩ : ∃ W, W = ((w.alloc (Obj.cells #[Value.int .i64 b, .slice (some ⟨p, o, none⟩) rows.length cn, .slice ao out.length co] 27)).alloc (.cells #[.int .i64 (x : Int), .int .i64 (y : Int)] 57)).alloc (.cells #[.int .i64 0, .int .i64 0] 57) := ⟨_, rfl⟩
    have hex := (HA3.out)
    have he4 := HA4.out
    have he1 := HA1.out
    have he2 := HA2.out
    rw [← hW] at HCS HCX HCZ HB hex he4 he1 he2 ⊢
    have k0 := HCS.out.c0
    have k1 := HCS.out.c1
    have x0 := HCX.out.at_ (i := 0) rfl
    have x1 := HCX.out.at_ (i := 1) rfl
    have z0 := HCZ.out.at_ (i := 0) rfl
    have z1 := HCZ.out.at_ (i := 1) rfl
    have zf := HCZ.out.f
    clear hW
    go_wp2
    have hn := (HCZ.out.set 0 (.int .i64 u1)).set 1 (.int .i64 u2)
    have n0 := hn.at_ (i := 0) rfl
    have n1 := hn.at_ (i := 1) rfl
    refine bodyPost_ret (v := .agg #[.int .i64 u1, .int .i64 u2]) (by simp [results, Try.results47, go_sem, n0, n1]) rfl ⟨rfl, ?_⟩
    exact (HB.out.setCell (by show _ ≤ _ + 1 + 1; omega) _).setCell (by show _ ≤ _ + 1 + 1; omega) _
end Comb
end Go.Proofs.Ytodnkkofammhbaa
/- Contract of ShiftedSequence of the program. No conditions beyond those that it states. -/
namespace Go.Proofs.Ytodnkkofammhbaa
open Go.ChangeShapes Go.WideShapes Go.ChangeAt Go.RowKit
open Go.PlainAid Plain
set_option linter.unusedVariables false
namespace Comb
open Seqs
def shStart (rows : List (List Int)) : Pr := (0, nextS rows 0 1)
def shK (b : Int) (rows : List (List Int)) (out : List Int) : Bool := formK b rows out && pairK (shStart (formR b rows out)) (nxN b.toNat (formR b rows out)) b.toNat
def shB (b : Int) (rows : List (List Int)) (out : List Int) : Int := if formK b rows out = true then pB (shStart (formR b rows out)) (nxN b.toNat (formR b rows out)) b.toNat else 0
def shR (b : Int) (rows : List (List Int)) (out : List Int) : List (List Int) := if formK b rows out = true then pR (shStart (formR b rows out)) (nxN b.toNat (formR b rows out)) b.toNat else []
def shO (b : Int) (rows : List (List Int)) (out : List Int) : List Int := if formK b rows out = true then pO (shStart (formR b rows out)) (nxN b.toNat (formR b rows out)) b.toNat (tmN (formO b rows out)) else []
theorem sh_no {b : Int} {rows : List (List Int)} {out : List Int} (h : formK b rows out = false) : shB b rows out = 0 ∧ shR b rows out = [] ∧ shO b rows out = [] ∧ shK b rows out = false := by
  unfold shB shR shO shK
  rw [h]
  simp
theorem sh_yes {b : Int} {rows : List (List Int)} {out : List Int} (h : formK b rows out = true) : shB b rows out = pB (shStart (formR b rows out)) (nxN b.toNat (formR b rows out)) b.toNat ∧ shR b rows out = pR (shStart (formR b rows out)) (nxN b.toNat (formR b rows out)) b.toNat ∧ shO b rows out = pO (shStart (formR b rows out)) (nxN b.toNat (formR b rows out)) b.toNat (tmN (formO b rows out)) ∧ shK b rows out = pairK (shStart (formR b rows out)) (nxN b.toNat (formR b rows out)) b.toNat := by
  unfold shB shR shO shK
  rw [h]
  simp
theorem form_base {b : Int} {rows : List (List Int)} {out : List Int} (h : formK b rows out = true) : formB b rows out = b := by unfold formB; rw [if_pos h]
set_option maxRecDepth 100000 in
set_option maxHeartbeats 2000000 in
theorem impl_shift (v : Value) (b : Int) (rows : List (List Int)) (out : List Int) (w : World) (h : LiesS w v b rows out) (hs : rows.length + tot rows + out.length ≤ 1048576) :
    Calls Try.prog 14 #[v] w (GivesK (shB b rows out) (shR b rows out) (shO b rows out) (shK b rows out) w) := by
  obtain ⟨yb, hyb⟩ : ∃ y, y = shB b rows out := ⟨_, rfl⟩
  obtain ⟨yr, hyr⟩ : ∃ y, y = shR b rows out := ⟨_, rfl⟩
  obtain ⟨yo, hyo⟩ : ∃ y, y = shO b rows out := ⟨_, rfl⟩
  obtain ⟨yk, hyk⟩ : ∃ y, y = shK b rows out := ⟨_, rfl⟩
  have HYE := Lib.hid (show yb = shB b rows out ∧ yr = shR b rows out ∧ yo = shO b rows out ∧ yk = shK b rows out from ⟨hyb, hyr, hyo, hyk⟩)
  rw [← hyb, ← hyr, ← hyo, ← hyk]
  clear hyb hyr hyo hyk
  have HS := Lib.hid h
  have HF := Lib.hid (fun (W : World) (hW : Below w.heap.size w W) => impl_form _ b rows out W (HS.out.below hW) hs)
  obtain ⟨an, cn, ao, co, rfl⟩ := h.form
  clear h hs
  have hZ := Cells3.new (w.alloc (Obj.cells #[Value.int .i64 b, Value.slice an rows.length cn, Value.slice ao out.length co] 27)) 27 (.int .i64 0) (.slice none 0 0) (.slice none 0 0)
  rw [size_alloc'] at hZ
  have HA0 := Lib.hid ((Cells3.new w 27 (.int .i64 b) (.slice an rows.length cn) (.slice ao out.length co)).alloc (Obj.cells #[Value.int .i64 0, Value.slice none 0 0, Value.slice none 0 0] 27))
  have HZ1 := Lib.hid hZ
  have HB1 : Hid (Below w.heap.size w ((w.alloc (Obj.cells #[Value.int .i64 b, Value.slice an rows.length cn, Value.slice ao out.length co] 27)).alloc (Obj.cells #[Value.int .i64 0, Value.slice none 0 0, Value.slice none 0 0] 27))) := ((Below.refl _ _).alloc (Nat.le_refl _) _).alloc (by simp only [size_alloc'] <;> omega) _
  obtain ⟨fb, hfb⟩ : ∃ x, x = formB b rows out := ⟨_, rfl⟩
  obtain ⟨RR, hRR⟩ : ∃ x, x = formR b rows out := ⟨_, rfl⟩
  obtain ⟨OO, hOO⟩ : ∃ x, x = formO b rows out := ⟨_, rfl⟩
  obtain ⟨q, hq⟩ : ∃ x, x = formK b rows out := ⟨_, rfl⟩
  rw [← hfb, ← hRR, ← hOO, ← hq] at HF
  have HFE := Lib.hid (show fb = formB b rows out ∧ RR = formR b rows out ∧ OO = formO b rows out ∧ q = formK b rows out from ⟨hfb, hRR, hOO, hq⟩)
  clear hZ hfb hRR hOO hq
  go_enter Try.func14, Try.ntmps14
  go_wp2_with fail
  refine (HF.out _ HB1.out).mono ?_
  rintro e W1 ⟨rv, rfl, hrv, b1⟩
  obtain ⟨an5, cn5, ao5, co5, rfl⟩ := hrv.form
  have HZa := Lib.hid (HZ1.out.below b1)
  have HAa := Lib.hid (HA0.out.below b1)
  have HBa := Lib.hid (HB1.out.trans (b1.mono HB1.out.size))
  have HRV := Lib.hid hrv
  clear hrv b1 HB1 HZ1 HA0
  cases q with
  | false =>
    have HNO := Lib.hid (sh_no HFE.out.2.2.2.symm)
    have HZR := Lib.hid (HZa.out.alloc (.cells #[.int .i64 fb, .slice an5 RR.length cn5, .slice ao5 OO.length co5] 27))
    have HBR := Lib.hid (HBa.out.alloc HBa.out.size (.cells #[.int .i64 fb, .slice an5 RR.length cn5, .slice ao5 OO.length co5] 27))
    clear HZa HBa
    have hy := HYE.out
    rw [HNO.out.1, HNO.out.2.1, HNO.out.2.2.1, HNO.out.2.2.2] at hy
    obtain ⟨rfl, rfl, rfl, rfl⟩ := hy
    have z0 := HZR.out.c0
    have z1 := HZR.out.c1
    have z2 := HZR.out.c2
    have z3 := HZR.out.f
    go_wp2
    have hZ3 := (((HZR.out.set0 (.int .i64 0)).set1 (.slice none 0 0)).set2 (.slice none 0 0))
    have n0 := hZ3.c0
    have n1 := hZ3.c1
    have n2 := hZ3.c2
    refine bodyPost_ret (v := .tuple #[.agg #[.int .i64 0, .slice none 0 0, .slice none 0 0], .bool false]) (by simp [results, Try.results14, go_sem, n0, n1, n2]) rfl ⟨_, rfl, OwnS.zero _, ?_⟩
    exact ((HBR.out.setCell (by show _ ≤ _ + 1; omega) _).setCell (by show _ ≤ _ + 1; omega) _).setCell (by show _ ≤ _ + 1; omega) _
  | true =>
    have hk := HFE.out.2.2.2.symm
    have hv := Mins.form_valid hk
    rw [← HFE.out.1, ← HFE.out.2.1, ← HFE.out.2.2.1] at hv
    have hfb : fb = b := HFE.out.1.trans (form_base hk)
    subst hfb
    have HYY := Lib.hid (sh_yes hk)
    have hy := HYE.out
    rw [HYY.out.1, HYY.out.2.1, HYY.out.2.2.1, HYY.out.2.2.2, ← HFE.out.2.1, ← HFE.out.2.2.1] at hy
    obtain ⟨bn, rfl⟩ : ∃ n : Nat, fb = (n : Int) := ⟨fb.toNat, by have := hv.1; omega⟩
    have hb2 : 2 ≤ bn := by have := hv.1; omega
    have hb4 : bn ≤ 4 := by have := hv.2.1; omega
    have hwk := walksN hv
    rw [Int.toNat_natCast] at hy hwk
    have hr0 : 0 < RR.length := by have := hv.2.2.1; omega
    obtain ⟨p, o, q, t, c, n, he, a1, hn, a2⟩ := step_cells HRV.out.lies hv hr0 (d := 1) (by omega)
    subst he
    rw [Nat.add_zero] at a1
    obtain ⟨n1, hn1⟩ : ∃ n, n = nextS RR 0 1 := ⟨_, rfl⟩
    rw [show nextS RR ((0 : Nat) : Int) ((1 : Nat) : Int) = n1 from hn1.symm] at a2
    rw [show shStart RR = (0, n1) from by rw [hn1]; rfl] at hy
    rw [← hn1] at hwk
    have HYP := Lib.hid hy
    have HWK := Lib.hid hwk
    have HV := Lib.hid hv
    have hbs : Below W1.heap.size W1 (W1.alloc (Obj.cells #[Value.int .i64 (bn : Int), Value.slice (some ⟨p, o, none⟩) RR.length cn5, Value.slice ao5 OO.length co5] 27)) := (Below.refl _ _).alloc (Nat.le_refl _) _
    have HBS := Lib.hid hbs
    have HBX := Lib.hid (Cells3.new W1 27 (.int .i64 (bn : Int)) (.slice (some ⟨p, o, none⟩) RR.length cn5) (.slice ao5 OO.length co5))
    have HSV := Lib.hid (HRV.out.lies.below hbs)
    have HA1 := Lib.hid (old_cellC hbs a1)
    have HA2 := Lib.hid (old_cellC hbs a2)
    have HZb := Lib.hid (HZa.out.below hbs)
    have HBb := Lib.hid (HBa.out.trans (hbs.mono HBa.out.size))
    have HAb := Lib.hid (HAa.out.below hbs)
    have HLO := Lib.hid (show w.heap.size + 2 ≤ W1.heap.size by have := HZa.out.lt; omega)
    clear hy hwk hv hbs a1 a2 hn1 hk HZa HBa HAa
    obtain ⟨W2, hW2⟩ : ∃ W, W = W1.alloc (Obj.cells #[Value.int .i64 (bn : Int), Value.slice (some ⟨p, o, none⟩) RR.length cn5, Value.slice ao5 OO.length co5] 27) := ⟨_, rfl⟩
    have HSZ := Lib.hid (show W2.heap.size = W1.heap.size + 1 by rw [hW2, size_alloc'])
    rw [← hW2] at HBS HBX HSV HA1 HA2 HZb HBb HAb
    have HSP := Lib.hid (fun (W : World) (hW : Below W2.heap.size W2 W) => searched_pairs bn hb2 hb4 0 n1 (nxN bn RR) (tmN OO) (OkN RR) HWK.out 47 48 #[.agg #[.int .i64 (bn : Int), .slice (some ⟨p, o, none⟩) RR.length cn5, .slice ao5 OO.length co5]] #[] #[] #[.pointer (some ⟨W1.heap.size, 0, none⟩)]
      (enters_of Try.func47 (by kernel_rfl) rfl) (enters_of Try.func48 (by kernel_rfl) rfl) W
      (fun W' hW' x y hok d hdd => by
        obtain ⟨x, rfl⟩ := Int.eq_ofNat_of_zero_le hok.1.1
        obtain ⟨y, rfl⟩ := Int.eq_ofNat_of_zero_le hok.2.1
        have hb := hW.trans (hW'.mono hW.size)
        have hc := shift_next (bn : Int) RR OO (some ⟨p, o, none⟩) ao5 cn5 co5 W' (HSV.out.below hb) HV.out x y d (by have := hok.1.2; omega) (by have := hok.2.2; omega) (by omega)
        rw [Int.toNat_natCast] at hc
        exact hc)
      (fun W' hW' x y hok => by
        obtain ⟨y, rfl⟩ := Int.eq_ofNat_of_zero_le hok.2.1
        have hb := hW.trans (hW'.mono hW.size)
        exact shift_term (bn : Int) RR OO (some ⟨p, o, none⟩) ao5 cn5 co5 W' _ (HSV.out.below hb) (HBX.out.below hb) HV.out x _ y rfl (by have := hok.2.2; omega)))
    rw [← HYP.out.1, ← HYP.out.2.1, ← HYP.out.2.2.1, ← HYP.out.2.2.2] at HSP
    have k0 := HBX.out.c0
    have k1 := HBX.out.c1
    have k2 := HBX.out.c2
    have s0 := HAb.out.c0
    have e1 := HA1.out
    have e2 := HA2.out
    have h2z : Below W2.heap.size W2 (W2.alloc (.cells #[.int .i64 0, .int .i64 0, .int .i64 0, .nilFunc, .nilFunc] 61)) := (Below.refl _ _).alloc (Nat.le_refl _) _
    have k0a := (HBX.out.below h2z).c0
    have k1a := (HBX.out.below h2z).c1
    have k2a := (HBX.out.below h2z).c2
    have s0a := (HAb.out.below h2z).c0
    have e1a := old_cellC h2z HA1.out
    have e2a := old_cellC h2z HA2.out
    have c5 := CellsN.new W2 61 [.int .i64 0, .int .i64 0, .int .i64 0, .nilFunc, .nilFunc]
    have hrl : (0 : Int) < (RR.length : Int) := by omega
    have hnl : (1 : Int) < (n : Int) := by omega
    have HTT := Lib.hid hW2
    go_upto_region 4 with fail
    rw [← hW2]
    clear hW2
    go_cut [6] (fun s wx => ∃ q : Nat, s = .pointer (some ⟨q, 0, none⟩) ∧ Hid (W2.heap.size ≤ q) ∧ Hid (Below W2.heap.size W2 wx) ∧ Hid (CellsN wx q 61 [.int .i64 (bn : Int), .int .i64 0, .int .i64 n1, .func (.func 47) #[.agg #[.int .i64 (bn : Int), .slice (some ⟨p, o, none⟩) RR.length cn5, .slice ao5 OO.length co5]] #[], .func (.func 48) #[] #[.pointer (some ⟨W1.heap.size, 0, none⟩)]]))
    case first =>
      go_region
      all_goals go_wp2_with fail
      all_goals go_meet
      have hz7 : Below W2.heap.size W2 (W2.alloc (.cells [.int .i64 (bn : Int), .int .i64 0, .int .i64 n1, .func (.func 47) #[.agg #[.int .i64 (bn : Int), .slice (some ⟨p, o, none⟩) RR.length cn5, .slice ao5 OO.length co5]] #[], .func (.func 48) #[] #[.pointer (some ⟨W1.heap.size, 0, none⟩)]].toArray 61)) := (Below.refl _ _).alloc (Nat.le_refl _) _
      exact ⟨_, rfl, Nat.le_refl _, hz7.trans ((below_drew' _).mono hz7.size), (CellsN.new W2 61 [.int .i64 (bn : Int), .int .i64 0, .int .i64 n1, .func (.func 47) #[.agg #[.int .i64 (bn : Int), .slice (some ⟨p, o, none⟩) RR.length cn5, .slice ao5 OO.length co5]] #[], .func (.func 48) #[] #[.pointer (some ⟨W1.heap.size, 0, none⟩)]]).drew⟩
    case rest =>
      obtain ⟨q, rfl, HQ, HBQ, HCQ⟩ := hcut
      obtain ⟨W5, rfl⟩ : ∃ W : World, W = wc := ⟨_, rfl⟩
      have HZc := Lib.hid (HZb.out.below HBQ.out)
      have HBc := Lib.hid (HBb.out.trans (HBQ.out.mono HBb.out.size))
      have f0 := HCQ.out.at_ (i := 0) rfl
      have f1 := HCQ.out.at_ (i := 1) rfl
      have f2 := HCQ.out.at_ (i := 2) rfl
      have f3 := HCQ.out.at_ (i := 3) rfl
      have f4 := HCQ.out.at_ (i := 4) rfl
      clear k0 k1 k2 s0 e1 e2 h2z k0a k1a k2a s0a e1a e2a c5 hrl hnl hn HBX HSV HA1 HA2 HAb HBb
      go_wp2_with fail
      refine (HSP.out _ HBQ.out).mono ?_
      rintro e W6 ⟨rv, rfl, hrv, b5⟩
      obtain ⟨an6, cn6, ao6, co6, rfl⟩ := hrv.form
      have HR5 := Lib.hid hrv
      have HZ5 := Lib.hid (HZc.out.below b5)
      have HB5 := Lib.hid (HBc.out.trans (b5.mono HBc.out.size))
      have HL5 := Lib.hid (show w.heap.size + 2 ≤ W5.heap.size by have h1 := HBQ.out.size; have h2 := HSZ.out; have h3 := HLO.out; omega)
      have z0 := HZ5.out.c0
      have z1 := HZ5.out.c1
      have z2 := HZ5.out.c2
      have z3 := HZ5.out.f
      have h55 := b5.size
      clear hrv b5
      go_wp2
      have hZ3 := (((HZ5.out.set0 (.int .i64 yb)).set1 (.slice an6 yr.length cn6)).set2 (.slice ao6 yo.length co6))
      have m0 := hZ3.c0
      have m1 := hZ3.c1
      have m2 := hZ3.c2
      refine bodyPost_ret (v := .tuple #[.agg #[.int .i64 yb, .slice an6 yr.length cn6, .slice ao6 yo.length co6], .bool yk]) (by simp [results, Try.results14, go_sem, m0, m1, m2]) rfl ⟨_, rfl, ?_, ?_⟩
      · have hT : ∀ (i : Nat) (u : Value) (W : World), Plain.Touch (w.heap.size + 1) (w.heap.size + 2) W (W.setCell ⟨w.heap.size + 1, i, none⟩ u) := fun i u W => Plain.Touch.of_set (a := ⟨w.heap.size + 1, i, none⟩) u (Nat.le_refl _) (Nat.lt_succ_self _)
        have T0 : Plain.Touch (w.heap.size + 1) (w.heap.size + 2) W6 (((W6.setCell ⟨w.heap.size + 1, 0, none⟩ (.int .i64 yb)).setCell ⟨w.heap.size + 1, 1, none⟩ (.slice an6 yr.length cn6)).setCell ⟨w.heap.size + 1, 2, none⟩ (.slice ao6 yo.length co6)) := ((hT 0 _ _).trans (hT 1 _ _)).trans (hT 2 _ _)
        have := (HR5.out.touch T0 (.inr HL5.out)).lower (show w.heap.size ≤ _ by have := HL5.out; omega)
        simpa only [size_setCell'] using this
      · exact ((HB5.out.setCell (by show _ ≤ _ + 1; omega) _).setCell (by show _ ≤ _ + 1; omega) _).setCell (by show _ ≤ _ + 1; omega) _
end Comb
end Go.Proofs.Ytodnkkofammhbaa
/- The terms of combined, shifted and digit sequences. No conditions beyond those that each fact states. -/
namespace Go.Proofs.Ytodnkkofammhbaa
open Go.ChangeShapes Go.WideShapes Go.ChangeAt Go.RowKit
open Go.PlainAid Plain
set_option linter.unusedVariables false
namespace Comb
open Seqs Mins Digits
/-- The pair behind a list of digits. -/
def runP (st : Pr) (nx : Pr → Nat → Pr) (ds : List Int) : Pr := ds.foldl (fun s d => nx s d.toNat) st
theorem runP_snoc (st : Pr) (nx : Pr → Nat → Pr) (ds : List Int) (d : Int) : runP st nx (ds ++ [d]) = nx (runP st nx ds) d.toNat := by simp [runP]
theorem nextS_nat (rows : List (List Int)) (s d : Int) : nextS rows s ((d.toNat : Nat) : Int) = nextS rows s d := by unfold nextS; rw [Int.toNat_natCast]
theorem st_found (st : Pr) (nx : Pr → Nat → Pr) (b : Nat) : st ∈ found st nx b ∧ ix (found st nx b) st = 0 := by
  have h0 : (found st nx b)[0]? = some st := by
    obtain ⟨r, hr⟩ := pairI_prefix (st := st) (nx := nx) (b := b) (show 0 ≤ 17 by omega)
    show (pairI st nx b 17)[0]? = some st
    rw [← hr]
    simp [pairI]
  exact ⟨List.mem_of_getElem? h0, idxOf_get found_nodup h0⟩
theorem next_found {st : Pr} {nx : Pr → Nat → Pr} {b : Nat} {s : Pr} (hs : s ∈ found st nx b) {d : Int} (h0 : 0 ≤ d) (h1 : d < (b : Int)) :
    nextS (pairRows st nx b (found st nx b).length) (ix (found st nx b) s : Int) d = (ix (found st nx b) (nx s d.toNat) : Int) := by
  unfold nextS
  rw [Int.toNat_natCast, List.getD_eq_getElem?_getD (l := pairRows st nx b (found st nx b).length), pairRows, List.take_length, List.getElem?_map, get_idxOf hs, Option.map_some, Option.getD_some, pairRow, List.getD_eq_getElem?_getD, List.getElem?_map, List.getElem?_range (by omega)]
  rfl
/-- The state that the sequence of the pairs comes to. -/
theorem run_found {st : Pr} {nx : Pr → Nat → Pr} {b : Nat} (hk : pairK st nx b = true) : ∀ ds : List Int, (∀ d ∈ ds, 0 ≤ d ∧ d < (b : Int)) →
    runP st nx ds ∈ found st nx b ∧ afterS (pairRows st nx b (found st nx b).length) ds = (ix (found st nx b) (runP st nx ds) : Int) := by
  have key : ∀ (ds : List Int) (s : Pr), s ∈ found st nx b → (∀ d ∈ ds, 0 ≤ d ∧ d < (b : Int)) →
      ds.foldl (fun s d => nx s d.toNat) s ∈ found st nx b ∧ ds.foldl (nextS (pairRows st nx b (found st nx b).length)) (ix (found st nx b) s : Int) = (ix (found st nx b) (ds.foldl (fun s d => nx s d.toNat) s) : Int) := by
    intro ds
    induction ds with
    | nil => intro s hs _; exact ⟨hs, rfl⟩
    | cons d ds ih =>
      intro s hs hd
      have h1 := hd d List.mem_cons_self
      have h2 := found_closed hk hs (d := d.toNat) (by omega)
      rw [List.foldl_cons, List.foldl_cons, next_found hs h1.1 h1.2]
      exact ih _ h2 fun x hx => hd x (List.mem_cons_of_mem _ hx)
  intro ds hd
  have h := key ds st (st_found st nx b).1 hd
  rw [(st_found st nx b).2] at h
  exact h
theorem run_term {st : Pr} {nx : Pr → Nat → Pr} {b : Nat} (tm : Pr → Int) (hk : pairK st nx b = true) (ds : List Int) (hd : ∀ d ∈ ds, 0 ≤ d ∧ d < (b : Int)) :
    (pairOuts st nx b tm (found st nx b).length).getD (afterS (pairRows st nx b (found st nx b).length) ds).toNat 0 = tm (runP st nx ds) := by
  obtain ⟨h1, h2⟩ := run_found hk ds hd
  rw [h2, Int.toNat_natCast, pairOuts, List.take_length, List.getD_eq_getElem?_getD, List.getElem?_map, get_idxOf h1]
  rfl
/-- Both sides of a pair of combined states. -/
theorem run_comb (ra rb : List (List Int)) (ds : List Int) : runP (0, 0) (nxC ra rb) ds = (afterS ra ds, afterS rb ds) := by
  have key : ∀ (ds : List Int) (s : Pr), ds.foldl (fun s d => nxC ra rb s d.toNat) s = (ds.foldl (nextS ra) s.1, ds.foldl (nextS rb) s.2) := by
    intro ds
    induction ds with
    | nil => intro s; rfl
    | cons d ds ih =>
      intro s
      rw [List.foldl_cons, ih, List.foldl_cons, List.foldl_cons, nxC]
      simp only [nextS_nat]
  exact key ds (0, 0)
theorem dig_lt {b : Nat} (n : Int) : ∀ d ∈ digV n (b : Int), 0 ≤ d ∧ d < (b : Int) := by
  intro d hd
  unfold digV at hd
  split at hd
  · rename_i h
    have := digs_mem n.toNat (b : Int).toNat (by omega) d hd
    omega
  · cases hd
/-- A term of combined sequences. -/
theorem comb_term_eq {b : Int} {ra rb : List (List Int)} {oa ob : List Int} {how : Int} (hok : combOK b b ra rb oa ob how = true) (hk : pairK (0, 0) (nxC ra rb) b.toNat = true) (n : Nat) :
    termG b (cmR b b ra rb oa ob how) (cmO b b ra rb oa ob how) n = combV (termG b ra oa n) (termG b rb ob n) how := by
  obtain ⟨_, e2, e3, _⟩ := cm_yes hok
  rw [combOK, Bool.and_eq_true, Bool.and_eq_true, Bool.and_eq_true, decide_eq_true_eq, decide_eq_true_eq] at hok
  obtain ⟨⟨h1, h2⟩, _, h4⟩ := hok
  have va := seqB_out h1
  have vb := seqB_out h2
  obtain ⟨bn, rfl⟩ : ∃ bn : Nat, b = (bn : Int) := ⟨b.toNat, by have := va.1; omega⟩
  rw [e2, e3, Int.toNat_natCast]
  rw [Int.toNat_natCast] at hk
  rw [(p_yes (tm := tmC oa ob how) hk).2.1, (p_yes (tm := tmC oa ob how) hk).2.2, termG, run_term _ hk _ (dig_lt (n : Int)), run_comb, tmC]
  have ba : ∀ (out : List Int) (k : Nat), (∀ x ∈ out, 0 ≤ x ∧ x ≤ 3) → 0 ≤ out.getD k 0 ∧ out.getD k 0 ≤ 3 := fun out k h => by
    rw [List.getD_eq_getElem?_getD]
    by_cases hn : k < out.length
    · rw [List.getElem?_eq_getElem hn]; exact h _ (List.getElem_mem _)
    · rw [List.getElem?_eq_none (by omega)]; decide
  rw [combV, combK, decide_eq_true ⟨ba oa _ va.2.2.2.2.2.2, ba ob _ vb.2.2.2.2.2.2, h4⟩, if_pos rfl]
  rfl
/-- The first side of a shifted pair. -/
theorem run_fst (b : Nat) (R : List (List Int)) (ds : List Int) : (runP (0, nextS R 0 1) (nxN b R) ds).1 = afterS R ds := by
  have key : ∀ (ds : List Int) (s : Pr), (ds.foldl (fun s d => nxN b R s d.toNat) s).1 = ds.foldl (nextS R) s.1 := by
    intro ds
    induction ds with
    | nil => intro s; rfl
    | cons d ds ih =>
      intro s
      rw [List.foldl_cons, ih, List.foldl_cons, nxN]
      simp only [nextS_nat]
  exact key ds _
/-- The second side: the state of the next number. -/
theorem run_snd {b : Nat} (hb : 2 ≤ b) {R : List (List Int)} (h0 : nextS R 0 0 = 0) : ∀ f n, n + 1 < b ^ f → (runP (0, nextS R 0 1) (nxN b R) (lows b f n).reverse).2 = afterS R (lows b f (n + 1)).reverse
  | 0, n, h => by simp at h
  | f + 1, n, h => by
    have hl1 : (n + 1) % b < b := Nat.mod_lt _ (by omega)
    rw [lows_succ b f (n + 1) (by omega), List.reverse_cons, afterS_snoc]
    rcases Nat.eq_zero_or_pos n with rfl | hn
    · rw [lows_zero, Nat.zero_add, Nat.mod_eq_of_lt (by omega : 1 < b), Nat.div_eq_of_lt (by omega : 1 < b), lows_zero]
      rfl
    · rw [lows_succ b f n hn, List.reverse_cons, runP_snoc, Int.toNat_natCast]
      have hdm := Nat.div_add_mod n b
      have hr : n % b < b := Nat.mod_lt _ (by omega)
      show (nxN b R _ (n % b)).2 = _
      rw [nxN]
      by_cases hlt : n % b + 1 < b
      · have e1 : (n + 1) / b = n / b := by
          rw [Nat.div_eq_iff (by omega)]
          have := Nat.mul_comm b (n / b)
          omega
        have e2 : (n + 1) % b = n % b + 1 := by
          have := Nat.div_add_mod (n + 1) b
          rw [e1] at this
          omega
        rw [if_pos hlt, e1, e2, run_fst]
      · have hmul : (n / b + 1) * b = n + 1 := by
          rw [Nat.add_mul, Nat.one_mul]
          have := Nat.mul_comm b (n / b)
          omega
        have e1 : (n + 1) / b = n / b + 1 := by rw [← hmul, Nat.mul_div_cancel _ (by omega)]
        have e2 : (n + 1) % b = 0 := by rw [← hmul, Nat.mul_mod_left]
        have hq : n / b + 1 < b ^ f := by
          rw [← hmul, Nat.pow_succ] at h
          exact Nat.lt_of_mul_lt_mul_right h
        rw [if_neg hlt, e1, e2, run_snd hb h0 f (n / b) hq]
        rfl
/-- The steady form has the terms of the sequence. -/
theorem form_term {b : Int} {rows : List (List Int)} {out : List Int} (hk : formK b rows out = true) (j : Nat) : termG b (formR b rows out) (formO b rows out) j = termG b rows out j := by
  have hv := form_valid hk
  have hB : formB b rows out = b := by rw [formB, if_pos hk]
  rw [hB] at hv
  have hd := (dig_ok hv (j : Int)).1
  have hd' : ∀ d ∈ digV (j : Int) b, 0 ≤ d ∧ d < ((b.toNat : Nat) : Int) := fun d h => by have := hd d h; omega
  rcases form_parts b rows out with ⟨_, _, _, h2, h3⟩ | ⟨h1, _⟩ | ⟨hq, _, _, _, _, h2, h3⟩
  · rw [h2, h3]
  · rw [hk] at h1; cases h1
  · rw [h2, h3, termG, termG]
    have hq' := (seqB_out hq).auto
    exact steady_out hq' hd' (digV_head _ _)
/-- A steady form leads from 0 to 0. -/
theorem form_zero {b : Int} {rows : List (List Int)} {out : List Int} (hk : formK b rows out = true) : nextS (formR b rows out) 0 0 = 0 := by
  rcases form_parts b rows out with ⟨hs, _, _, h2, _⟩ | ⟨h1, _⟩ | ⟨_, _, _, _, _, h2, _⟩
  · rw [h2]
    rw [steadyB, Bool.and_eq_true, decide_eq_true_eq] at hs
    exact hs.2
  · rw [hk] at h1; cases h1
  · rw [h2]; rfl
/-- A term of the shifted sequence. -/
theorem shift_term_eq {b : Int} {rows : List (List Int)} {out : List Int} (hk : formK b rows out = true) (hp : pairK (shStart (formR b rows out)) (nxN b.toNat (formR b rows out)) b.toNat = true) (n : Nat) (hn : n + 1 < b.toNat ^ 16) :
    termG b (shR b rows out) (shO b rows out) n = termG b rows out (n + 1) := by
  obtain ⟨_, e2, e3, _⟩ := sh_yes hk
  have hv := form_valid hk
  have hB : formB b rows out = b := by rw [formB, if_pos hk]
  rw [hB] at hv
  have hz := form_zero hk
  rw [e2, e3, ← form_term hk (n + 1)]
  obtain ⟨R, hR⟩ : ∃ R, R = formR b rows out := ⟨_, rfl⟩
  obtain ⟨O, hO⟩ : ∃ O, O = formO b rows out := ⟨_, rfl⟩
  rw [← hR] at hp hz hv
  rw [← hO] at hv
  rw [← hR, ← hO]
  obtain ⟨bn, rfl⟩ : ∃ bn : Nat, b = (bn : Int) := ⟨b.toNat, by have := hv.1; omega⟩
  rw [Int.toNat_natCast] at hn hp ⊢
  have h2 : 2 ≤ bn := by have := hv.1; omega
  have h4 : bn ≤ 4 := by have := hv.2.1; omega
  rw [(p_yes (tm := tmN O) hp).2.1, (p_yes (tm := tmN O) hp).2.2, termG, run_term _ hp _ (dig_lt (n : Int)), digV_in n bn h2 h4 (by omega), tmN, shStart, digs, run_snd h2 hz 16 n hn, termG, digV_in (n + 1) bn h2 h4 hn, digs]
theorem dg_next {b m : Nat} {s d : Int} (h0 : 0 ≤ s) (h1 : s < (m : Int)) (h2 : 0 ≤ d) (h3 : d < (b : Int)) : nextS (dgRows b m m) s d = (s + d) % (m : Int) := by
  unfold nextS
  rw [List.getD_eq_getElem?_getD (l := dgRows b m m), dgRows, List.getElem?_map, List.getElem?_range (by omega), Option.map_some, Option.getD_some, dgRow, dgPart, List.getD_eq_getElem?_getD, List.getElem?_map, List.getElem?_range (by omega), Option.map_some, Option.getD_some]
  rw [Int.natCast_emod, Int.natCast_add, Int.toNat_of_nonneg h0, Int.toNat_of_nonneg h2]
/-- The state of the digit sequence. -/
theorem dg_after {b m : Nat} (hm : 1 ≤ m) (ds : List Int) (hd : ∀ d ∈ ds, 0 ≤ d ∧ d < (b : Int)) : afterS (dgRows b m m) ds = sumD ds % (m : Int) := by
  have key : ∀ (ds : List Int) (s t : Int), s = t % (m : Int) → (∀ d ∈ ds, 0 ≤ d ∧ d < (b : Int)) → ds.foldl (nextS (dgRows b m m)) s = (ds.foldl (fun n d => n + d) t) % (m : Int) := by
    intro ds
    induction ds with
    | nil => intro s t h _; exact h
    | cons d ds ih =>
      intro s t h hd
      have h1 := hd d List.mem_cons_self
      have hs0 : 0 ≤ s := by rw [h]; exact Int.emod_nonneg _ (by omega)
      have hs1 : s < (m : Int) := by rw [h]; exact Int.emod_lt_of_pos _ (by omega)
      rw [List.foldl_cons, List.foldl_cons]
      refine ih _ _ ?_ fun x hx => hd x (List.mem_cons_of_mem _ hx)
      rw [dg_next hs0 hs1 h1.1 h1.2, h, Int.emod_add_emod]
  exact key ds 0 0 (by simp) hd
/-- A term of the digit sequence. -/
theorem dg_term_eq {b m : Int} (hk : dgK b m = true) (n : Nat) : termG b (dgR b m) (dgO b m) n = sumD (digV (n : Int) b) % m := by
  have h := of_decide_eq_true hk
  obtain ⟨bn, rfl⟩ : ∃ k : Nat, b = (k : Int) := ⟨b.toNat, by omega⟩
  obtain ⟨mn, rfl⟩ : ∃ k : Nat, m = (k : Int) := ⟨m.toNat, by omega⟩
  rw [termG, dgR, if_pos hk, dgO, if_pos hk, Int.toNat_natCast, Int.toNat_natCast, dg_after (by omega) _ (dig_lt (n : Int))]
  obtain ⟨y, hy⟩ : ∃ y, y = sumD (digV (n : Int) bn) % (mn : Int) := ⟨_, rfl⟩
  have hy0 : 0 ≤ y := by rw [hy]; exact Int.emod_nonneg _ (by omega)
  have hy1 : y < (mn : Int) := by rw [hy]; exact Int.emod_lt_of_pos _ (by omega)
  rw [← hy, dgOut, List.getD_eq_getElem?_getD, List.getElem?_map, List.getElem?_range (by omega), Option.map_some, Option.getD_some]
  omega
end Comb
end Go.Proofs.Ytodnkkofammhbaa
