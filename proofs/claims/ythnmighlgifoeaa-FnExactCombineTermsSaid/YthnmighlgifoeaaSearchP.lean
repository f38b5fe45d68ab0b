/- Contract of the search over pairs of the program, for whatever functions lead a pair on and give its term. Conditions: those that it states of the two functions. -/
import Derived.Test.YthnmighlgifoeaaPairSl
import Derived.Test.YthnmighlgifoeaaDigI
import Derived.Laws.EntriesVeiled
namespace Go.Proofs.Ythnmighlgifoeaa
open Go.ChangeShapes Go.WideShapes Go.ChangeAt Go.RowKit
open Go.PlainAid Plain
set_option linter.unusedVariables false
namespace Comb
open Seqs
theorem ne_of_types {w : World} {g k : Nat} {e e' : TypeId} {cur cur' : Array Value} (h : w.heap[g]? = some (.cells cur e (0, 0))) (h' : w.heap[k]? = some (.cells cur' e' (0, 0))) (hne : e ≠ e') : g ≠ k := fun he => by
  subst he
  rw [h] at h'
  injection h' with h'
  injection h' with _ h2 _
  exact hne h2
theorem has_block {α : Type} {enc : α → Value} {e : TypeId} {w : World} {base : Nat} {v : Value} {xs : List α} (h : Has enc e w base v xs) : ∀ k, v.ownBlock = some k → ∃ cur, w.heap[k]? = some (.cells cur e (0, 0)) := fun k hk => by
  rcases h.2 with ⟨rfl, _⟩ | ⟨g, cap, cur, rfl, _, hg, _⟩
  · cases hk
  · obtain rfl := Option.some.inj hk
    exact ⟨cur, hg⟩
theorem ownP_block {w : World} {base : Nat} {v : Value} {L : List Pr} (h : OwnP w base v L) : ∀ k, v.ownBlock = some k → base ≤ k ∧ ∃ cur, w.heap[k]? = some (.cells cur 57 (0, 0)) := fun k hk => by
  rcases h.2 with ⟨rfl, _⟩ | ⟨g, cap, cur, rfl, hb, hg, _⟩
  · cases hk
  · obtain rfl := Option.some.inj hk
    exact ⟨hb, cur, hg⟩
/-- What is built stays while another block is written. -/
theorem building_beside {w w' : World} {base hi p g : Nat} {b : Int} {vn vo : Value} {us : List Value} {rows : List (List Int)} {out : List Int} (h : Building w base hi p b vn vo us rows out) (hg : w.grownBy w' (some g))
    (h1 : ∀ k, vn.ownBlock = some k → k ≠ g) (h2 : p ≠ g) (h3 : ∀ (i : Nat) (u : Value), (vo :: us)[i]? = some u → ∀ k, u.ownBlock = some k → k ≠ g) : Building w' base hi p b vn vo us rows out := by
  refine ⟨h.top.grown hg ?_, ⟨h.rows.len, fun i u r hu hr => ?_, h.rows.apart⟩, h.cells.grown hg (fun e => h2 (Option.some.inj e).symm), h.lo, Nat.le_trans h.le hg.size⟩
  · cases hv : vn.ownBlock with
    | none => exact .inl rfl
    | some k => exact .inr fun e => h1 k hv (Option.some.inj e)
  · have hI := h.rows.row i u r hu hr
    refine ⟨hI.has.grown hg ?_, hI.lt, Nat.le_trans hI.le hg.size⟩
    cases hv : u.ownBlock with
    | none => exact .inl rfl
    | some k => exact .inr fun e => h3 i u hu k hv (Option.some.inj e)
theorem building_rows {w : World} {base hi p : Nat} {b : Int} {vn vo : Value} {us : List Value} {rows : List (List Int)} {out : List Int} (h : Building w base hi p b vn vo us rows out) {i : Nat} {u : Value} (hu : (vo :: us)[i]? = some u) {k : Nat} (hk : u.ownBlock = some k) :
    k < hi ∧ ∃ cur, w.heap[k]? = some (.cells cur 3 (0, 0)) := by
  have hl : i < (out :: rows).length := by rw [← h.rows.len]; exact (List.getElem?_eq_some_iff.1 hu).1
  have hI := h.rows.row i u _ hu (List.getElem?_eq_getElem hl)
  exact ⟨hI.lt k hk, has_block hI.has k hk⟩
/-- .. while the slice of pairs grows; .. while the row in the making is written. -/
theorem building_pairs {w w' : World} {base hi p B : Nat} {b : Int} {vn vo v : Value} {us : List Value} {rows : List (List Int)} {out : List Int} {L : List Pr} (h : Building w base hi p b vn vo us rows out) (hp : OwnP w B v L) (hlt : p < B) (hg : w.grownBy w' v.ownBlock) : Building w' base hi p b vn vo us rows out := by
  cases hv : v.ownBlock with
  | none =>
    rw [hv] at hg
    have hb : Below w.heap.size w w' := (Below.refl _ _).grown hg (Nat.le_refl _) (fun k hk => by cases hk)
    exact h.below hb
  | some g =>
    rw [hv] at hg
    obtain ⟨hBg, cur, hc⟩ := ownP_block hp g hv
    refine building_beside h hg (fun k hk => ?_) (by omega) (fun i u hu k hk => ?_)
    · obtain ⟨cur', hc'⟩ := has_block h.top k hk
      exact ne_of_types hc' hc (by decide)
    · obtain ⟨_, cur', hc'⟩ := building_rows h hu hk
      exact ne_of_types hc' hc (by decide)
theorem grown_cell (w : World) (g j : Nat) (v : Value) : w.grownBy (w.setCell ⟨g, j, none⟩ v) (some g) :=
  ⟨rfl, rfl, rfl, by rw [size_setCell']; exact Nat.le_refl _, fun k _ hk => by
    have : k ≠ g := fun e => hk (by rw [e])
    exact heap_setCell_other w ⟨g, j, none⟩ k v this⟩
theorem own_block {w : World} {base n m : Nat} {e : TypeId} {v : Value} {xs : List Value} (h : w.ownsRow base e m v n xs) : ∀ k, v.ownBlock = some k → ∃ cur, w.heap[k]? = some (.cells cur e (0, 0)) := fun k hk => by
  rcases h.2 with ⟨rfl, _⟩ | ⟨g, cap, cur, rfl, _, hg, _⟩
  · cases hk
  · obtain rfl := Option.some.inj hk
    exact ⟨cur, hg⟩
theorem own_below {w w' : World} {base n m : Nat} {e : TypeId} {v : Value} {xs : List Value} (h : w.ownsRow base e m v n xs) (hb : Below w.heap.size w w') : w'.ownsRow base e m v n xs :=
  h.kept (Plain.grown_of_below hb) (by
    cases hv : v.ownBlock with
    | none => exact .inl rfl
    | some k => exact .inr (by simp))
def pB (st : Pr) (nx : Pr → Nat → Pr) (b : Nat) : Int := if pairK st nx b = true then (b : Int) else 0
def pR (st : Pr) (nx : Pr → Nat → Pr) (b : Nat) : List (List Int) := if pairK st nx b = true then pairRows st nx b (found st nx b).length else []
def pO (st : Pr) (nx : Pr → Nat → Pr) (b : Nat) (tm : Pr → Int) : List Int := if pairK st nx b = true then pairOuts st nx b tm (found st nx b).length else []
theorem p_no {st : Pr} {nx : Pr → Nat → Pr} {b : Nat} {tm : Pr → Int} (h : pairK st nx b = false) : pB st nx b = 0 ∧ pR st nx b = [] ∧ pO st nx b tm = [] := by
  unfold pB pR pO
  rw [h]
  simp
theorem p_yes {st : Pr} {nx : Pr → Nat → Pr} {b : Nat} {tm : Pr → Int} (h : pairK st nx b = true) : pB st nx b = (b : Int) ∧ pR st nx b = pairRows st nx b (found st nx b).length ∧ pO st nx b tm = pairOuts st nx b tm (found st nx b).length := by
  unfold pB pR pO
  rw [h]
  simp
theorem fill_row {l : List Int} {n i : Nat} (c : Int) (hl : l.length = i) (h : i < n) : ((l ++ List.replicate (n - i) 0).map (Value.int .i64)).set i (.int .i64 c) = ((l ++ [c]) ++ List.replicate (n - (i + 1)) 0).map (Value.int .i64) := fill_dg c hl h
theorem infoP : (Try.prog.info? 57).map (fun i => (i.zero, i.size, i.bytes)) = some (some (.agg #[.int .i64 0, .int .i64 0]), 2, 16) := by kernel_rfl
set_option maxRecDepth 100000 in
set_option maxHeartbeats 4000000 in
theorem searched_pairs (bn : Nat) (hb2 : 2 ≤ bn) (hb4 : bn ≤ 4) (s1 s2 : Int) (nx : Pr → Nat → Pr) (tm : Pr → Int) (Ok : Pr → Prop) (HW : Walks (s1, s2) nx bn Ok)
    (gN gT : Nat) (fsN lbN fsT lbT : Array Value) (egN : ∀ args w, (callFunc gN args).run Try.prog w = .ok (.enter gN args) w) (egT : ∀ args w, (callFunc gT args).run Try.prog w = .ok (.enter gT args) w) (w : World)
    (HN : ∀ W : World, Below w.heap.size w W → ∀ x y : Int, Ok (x, y) → ∀ d : Nat, d < bn → Calls Try.prog gN (fsN ++ (#[.agg #[.int .i64 x, .int .i64 y], .int .i64 (d : Int)] ++ lbN)) W fun e w' => e = .returned (.agg #[.int .i64 (nx (x, y) d).1, .int .i64 (nx (x, y) d).2]) ∧ Below W.heap.size W w')
    (HT : ∀ W : World, Below w.heap.size w W → ∀ x y : Int, Ok (x, y) → Calls Try.prog gT (fsT.push (.agg #[.int .i64 x, .int .i64 y]) ++ lbT) W fun e w' => e = .returned (.int .i64 (tm (x, y))) ∧ Below W.heap.size W w') :
    Calls Try.prog 44 #[.agg #[.int .i64 (bn : Int), .int .i64 s1, .int .i64 s2, .func (.func gN) fsN lbN, .func (.func gT) fsT lbT]] w (GivesK (pB (s1, s2) nx bn) (pR (s1, s2) nx bn) (pO (s1, s2) nx bn tm) (pairK (s1, s2) nx bn) w) := by
  obtain ⟨i0, hi0, hz0, hz1, hz2⟩ := info_parts Ints.infoI
  obtain ⟨i2, hi2, hz20, hz21, hz22⟩ := info_parts infoR
  obtain ⟨yb, hyb⟩ : ∃ y, y = pB (s1, s2) nx bn := ⟨_, rfl⟩
  obtain ⟨yr, hyr⟩ : ∃ y, y = pR (s1, s2) nx bn := ⟨_, rfl⟩
  obtain ⟨yo, hyo⟩ : ∃ y, y = pO (s1, s2) nx bn tm := ⟨_, rfl⟩
  obtain ⟨yk, hyk⟩ : ∃ y, y = pairK (s1, s2) nx bn := ⟨_, rfl⟩
  have HYE := Lib.hid (show yb = pB (s1, s2) nx bn ∧ yr = pR (s1, s2) nx bn ∧ yo = pO (s1, s2) nx bn tm ∧ yk = pairK (s1, s2) nx bn from ⟨hyb, hyr, hyo, hyk⟩)
  rw [← hyb, ← hyr, ← hyo, ← hyk]
  clear hyb hyr hyo hyk
  have HNX := Lib.hid HN
  have HTM := Lib.hid HT
  have HWK := Lib.hid HW
  clear HN HT HW
  have c5 := ((CellsN.new w 61 [.int .i64 (bn : Int), .int .i64 s1, .int .i64 s2, .func (.func gN) fsN lbN, .func (.func gT) fsT lbT]).alloc (Obj.cells #[Value.int .i64 0, Value.slice none 0 0, Value.slice none 0 0] 27)).alloc (Obj.cells #[Value.int .i64 (bn : Int), Value.slice none 0 0, Value.slice none 0 0] 27)
  have hZ := ((Cells3.new (w.alloc (.cells #[.int .i64 (bn : Int), .int .i64 s1, .int .i64 s2, .func (.func gN) fsN lbN, .func (.func gT) fsT lbT] 61)) 27 (.int .i64 0) (.slice none 0 0) (.slice none 0 0)).alloc (Obj.cells #[Value.int .i64 (bn : Int), Value.slice none 0 0, Value.slice none 0 0] 27))
  have hP := Cells3.new ((w.alloc (.cells #[.int .i64 (bn : Int), .int .i64 s1, .int .i64 s2, .func (.func gN) fsN lbN, .func (.func gT) fsT lbT] 61)).alloc (Obj.cells #[Value.int .i64 0, Value.slice none 0 0, Value.slice none 0 0] 27)) 27 (.int .i64 (bn : Int)) (.slice none 0 0) (.slice none 0 0)
  rw [size_alloc'] at hZ
  rw [size_alloc', size_alloc'] at hP
  have HC5 := Lib.hid (c5.alloc (.cells #[.int .i64 s1, .int .i64 s2] 57))
  have HZ1 := Lib.hid (hZ.alloc (.cells #[.int .i64 s1, .int .i64 s2] 57))
  have HP1 := Lib.hid (hP.alloc (.cells #[.int .i64 s1, .int .i64 s2] 57))
  have hpl := World.ownsRow_lit (base := w.heap.size + 3) (e := 57) (size := 2) (((w.alloc (.cells #[.int .i64 (bn : Int), .int .i64 s1, .int .i64 s2, .func (.func gN) fsN lbN, .func (.func gT) fsT lbT] 61)).alloc (Obj.cells #[Value.int .i64 0, Value.slice none 0 0, Value.slice none 0 0] 27)).alloc (Obj.cells #[Value.int .i64 (bn : Int), Value.slice none 0 0, Value.slice none 0 0] 27)) #[.int .i64 s1, .int .i64 s2] 1 (by simp only [size_alloc'] <;> omega) (by decide) rfl
  have HPL := Lib.hid hpl
  have hB := ((((Below.refl w.heap.size w).alloc (Nat.le_refl _) (.cells #[.int .i64 (bn : Int), .int .i64 s1, .int .i64 s2, .func (.func gN) fsN lbN, .func (.func gT) fsT lbT] 61)).alloc (by simp only [size_alloc'] <;> omega) (Obj.cells #[Value.int .i64 0, Value.slice none 0 0, Value.slice none 0 0] 27)).alloc (by simp only [size_alloc'] <;> omega) (Obj.cells #[Value.int .i64 (bn : Int), Value.slice none 0 0, Value.slice none 0 0] 27)).alloc (by simp only [size_alloc'] <;> omega) (.cells #[.int .i64 s1, .int .i64 s2] 57)
  have HB1 := Lib.hid hB
  have HSZ := Lib.hid (show ((((w.alloc (.cells #[.int .i64 (bn : Int), .int .i64 s1, .int .i64 s2, .func (.func gN) fsN lbN, .func (.func gT) fsT lbT] 61)).alloc (Obj.cells #[Value.int .i64 0, Value.slice none 0 0, Value.slice none 0 0] 27)).alloc (Obj.cells #[Value.int .i64 (bn : Int), Value.slice none 0 0, Value.slice none 0 0] 27)).alloc (.cells #[.int .i64 s1, .int .i64 s2] 57)).heap.size = w.heap.size + 4 by simp only [size_alloc'])
  clear c5 hZ hP hpl hB
  go_enter Try.func44, Try.ntmps44
  go_wp2
  obtain ⟨W4, hW4⟩ : ∃ W, W = (((w.alloc (.cells #[.int .i64 (bn : Int), .int .i64 s1, .int .i64 s2, .func (.func gN) fsN lbN, .func (.func gT) fsT lbT] 61)).alloc (Obj.cells #[Value.int .i64 0, Value.slice none 0 0, Value.slice none 0 0] 27)).alloc (Obj.cells #[Value.int .i64 (bn : Int), Value.slice none 0 0, Value.slice none 0 0] 27)).alloc (.cells #[.int .i64 s1, .int .i64 s2] 57) := ⟨_, rfl⟩
  rw [← hW4] at HC5 HZ1 HP1 HPL HB1 HSZ ⊢
  clear hW4
  rw [size_alloc', size_alloc', size_alloc'] at HPL
  obtain ⟨BB, hBB⟩ : ∃ B, B = w.heap.size + 3 := ⟨_, rfl⟩
  obtain ⟨p, hp⟩ : ∃ p, p = w.heap.size + 1 + 1 := ⟨_, rfl⟩
  have HBB := Lib.hid (show w.heap.size + 1 < p ∧ p < BB ∧ w.heap.size + 3 ≤ BB from by omega)
  rw [← hBB] at HPL
  rw [← hp] at HP1 ⊢
  rw [show p + 1 = BB by omega] at ⊢
  have hPL : Hid (OwnP W4 BB (.slice (some ⟨BB, 0, none⟩) 1 1) (pairI (s1, s2) nx bn 0)) := HPL.out
  have hBL : Hid (Building W4 BB BB p (bn : Int) (.slice none 0 0) (.slice none 0 0) [] (pairRows (s1, s2) nx bn 0) (pairOuts (s1, s2) nx bn tm 0)) := by
    show Building W4 BB BB p (bn : Int) (.slice none 0 0) (.slice none 0 0) [] [] []
    exact Building.start HP1.out (by have := HSZ.out; omega)
  have h5 := HC5
  have hZ := HZ1
  have hB := HB1
  clear hBB hp HPL HP1 HC5 HZ1 HB1 HSZ
  go_loopw [5, 6] (fun pv i' wr => ∃ (i : Nat) (vn vo : Value) (us : List Value) (hi : Nat), i ≤ (pairI (s1, s2) nx bn i).length ∧ (pairI (s1, s2) nx bn i).length ≤ 16 ∧ i' = .int .i64 i ∧ Hid (OwnP wr BB pv (pairI (s1, s2) nx bn i)) ∧ Hid (Building wr BB hi p (bn : Int) vn vo us (pairRows (s1, s2) nx bn i) (pairOuts (s1, s2) nx bn tm i)) ∧ Hid (CellsN wr w.heap.size 61 [.int .i64 (bn : Int), .int .i64 s1, .int .i64 s2, .func (.func gN) fsN lbN, .func (.func gT) fsT lbT]) ∧ Hid (Cells3 wr (w.heap.size + 1) 27 (.int .i64 0) (.slice none 0 0) (.slice none 0 0)) ∧ Hid (Below w.heap.size w wr)) (fun _ i' _ => 17 - (intOf i').toNat)
  case atStart => exact ⟨0, _, _, [], BB, by simp, by simp [pairI], rfl, hPL, hBL, h5, hZ, hB⟩
  case round =>
    clear hPL hBL h5 hZ hB
    obtain ⟨i, vn, vo, us, hi, hil, hl16, rfl, hPL, hBL, h5, hZ, hB⟩ := hrel
    obtain ⟨W6, rfl⟩ : ∃ W : World, W = wr := ⟨_, rfl⟩
    obtain ⟨Lp, hLp⟩ : ∃ L, L = pairI (s1, s2) nx bn i := ⟨_, rfl⟩
    have HLP := Lib.hid hLp
    rw [← hLp] at hil hl16 hPL
    have hpos : 0 < Lp.length := by
      obtain ⟨r, hr⟩ := pairI_prefix (st := (s1, s2)) (nx := nx) (b := bn) (Nat.zero_le i)
      rw [hLp, ← hr]
      simp [pairI]
    obtain ⟨g, pc, cur, hpv, hgB, hgl, _⟩ := hPL.out.form hpos
    subst hpv
    clear hLp
    by_cases hlt : i < Lp.length
    case neg =>
      obtain rfl : i = Lp.length := by omega
      have hend := found_end (st := (s1, s2)) (nx := nx) (b := bn) hl16 (by rw [← HLP.out]; exact Nat.le_refl _)
      have hlen : (found (s1, s2) nx bn).length = Lp.length := by rw [hend, ← HLP.out]
      have hk : pairK (s1, s2) nx bn = true := decide_eq_true (by rw [hlen]; exact hl16)
      have HY := Lib.hid (p_yes (tm := tm) hk)
      have hy := HYE.out
      rw [HY.out.1, HY.out.2.1, HY.out.2.2, hk, hlen] at hy
      obtain ⟨rfl, rfl, rfl, rfl⟩ := hy
      have hfr := hBL.out.form
      rw [rows_len (by omega), outs_len (by omega)] at hfr
      obtain ⟨na, nc, oa, oc, hvn, hvo⟩ := hfr
      subst hvn; subst hvo
      have HW : Hid (OwnS W6 BB W6.heap.size (.agg #[.int .i64 (bn : Int), .slice na Lp.length nc, .slice oa Lp.length oc]) (bn : Int) (pairRows (s1, s2) nx bn Lp.length) (pairOuts (s1, s2) nx bn tm Lp.length)) := hBL.out.seq
      have hP := hBL.out.cells
      have m0 := hP.c0
      have m1 := hP.c1
      have m2 := hP.c2
      have z0 := hZ.out.c0
      have z1 := hZ.out.c1
      have z2 := hZ.out.c2
      have z3 := hZ.out.f
      clear hP hk hlen hend
      go_wp2
      have hZ3 := (((hZ.out.set0 (.int .i64 (bn : Int))).set1 (.slice na Lp.length nc)).set2 (.slice oa Lp.length oc))
      have n0 := hZ3.c0
      have n1 := hZ3.c1
      have n2 := hZ3.c2
      refine bodyPost_ret (v := .tuple #[.agg #[.int .i64 (bn : Int), .slice na Lp.length nc, .slice oa Lp.length oc], .bool true]) (by simp [results, Try.results44, go_sem, n0, n1, n2]) rfl ⟨_, rfl, ?_, ?_⟩
      · have hT : ∀ (i : Nat) (u : Value) (W : World), Plain.Touch (w.heap.size + 1) (w.heap.size + 2) W (W.setCell ⟨w.heap.size + 1, i, none⟩ u) := fun i u W => Plain.Touch.of_set (a := ⟨w.heap.size + 1, i, none⟩) u (Nat.le_refl _) (Nat.lt_succ_self _)
        have T0 : Plain.Touch (w.heap.size + 1) (w.heap.size + 2) W6 (((W6.setCell ⟨w.heap.size + 1, 0, none⟩ (.int .i64 (bn : Int))).setCell ⟨w.heap.size + 1, 1, none⟩ (.slice na Lp.length nc)).setCell ⟨w.heap.size + 1, 2, none⟩ (.slice oa Lp.length oc)) := ((hT 0 _ _).trans (hT 1 _ _)).trans (hT 2 _ _)
        have := (HW.out.touch T0 (.inr (by have := HBB.out; omega))).lower (show w.heap.size ≤ BB by have := HBB.out; omega)
        simpa only [size_setCell'] using this
      · exact ((hB.out.setCell (Nat.le_succ _) _).setCell (Nat.le_succ _) _).setCell (Nat.le_succ _) _
    case pos =>
      obtain ⟨⟨x1, x2⟩, hs⟩ : ∃ s, Lp[i]? = some s := ⟨_, List.getElem?_eq_getElem hlt⟩
      have hs' := hs
      rw [HLP.out] at hs'
      have HS := Lib.hid hs'
      have HSF := Lib.hid (found_at (st := (s1, s2)) (nx := nx) (b := bn) (by omega) hs')
      have HOK := Lib.hid (pairI_ok HWK.out i _ (List.mem_of_getElem? hs'))
      have hii0 : (0 : Int) ≤ (i : Int) := Int.natCast_nonneg _
      have k0 := h5.out.at_ (i := 0) rfl
      clear hs' hs
      go_wp2_with (at_make; refine wpList_make_full W6 rfl _ _ 23 rfl W6.heap.size 3 i0 (.int .i64 0) 1 Try.underlying23 hi0 hz0 hz1 .i64 .i64 _ _ bn rfl rfl rfl rfl (by rw [hz2]; omega) (by unfold maxLen; omega) (Nat.le_refl _) ?_; intro w1 hown hgrow; have hbw := below_of_grown hgrow)
      have hO : Hid (w1.ownsRow W6.heap.size 3 1 (.slice (some ⟨W6.heap.size, 0, none⟩) bn bn) bn ((pairPart (s1, s2) nx bn (x1, x2) 0 ++ List.replicate (bn - 0) (0 : Int)).map (Value.int .i64))) := by
        show w1.ownsRow _ _ _ _ _ _
        rw [Ints.zero_made] at hown
        simpa [pairPart] using hown
      have hPM : Hid (OwnP w1 BB (.slice (some ⟨g, 0, none⟩) Lp.length pc) (midP (s1, s2) nx bn i (x1, x2) 0)) := by
        rw [mid_zero, ← HLP.out]
        exact hPL.out.below hbw
      have hML : (midP (s1, s2) nx bn i (x1, x2) 0).length ≤ 16 := by rw [mid_zero, ← HLP.out]; exact hl16
      have hBM := Lib.hid (hBL.out.below hbw)
      have h5M := Lib.hid (h5.out.below hbw)
      have hZM := Lib.hid (hZ.out.below hbw)
      have hBW := Lib.hid (hB.out.trans (hbw.mono hB.out.size))
      obtain ⟨zb, hzb⟩ : ∃ z, z = W6.heap.size := ⟨_, rfl⟩
      have HZB := Lib.hid (show hi ≤ zb ∧ w.heap.size + 3 ≤ zb from by have := hBL.out.le; have := hBL.out.lo; have := HBB.out; omega)
      rw [← hzb] at hO ⊢
      clear hown hgrow hbw hzb hPL hBL h5 hZ hB k0
      go_loopw [5, 28] (fun pv k' wr => ∃ k : Nat, k ≤ bn ∧ (midP (s1, s2) nx bn i (x1, x2) k).length ≤ 16 ∧ k' = .int .i64 k ∧ Hid (OwnP wr BB pv (midP (s1, s2) nx bn i (x1, x2) k)) ∧ Hid (wr.ownsRow zb 3 1 (.slice (some ⟨zb, 0, none⟩) bn bn) bn ((pairPart (s1, s2) nx bn (x1, x2) k ++ List.replicate (bn - k) (0 : Int)).map (Value.int .i64))) ∧ Hid (Building wr BB hi p (bn : Int) vn vo us (pairRows (s1, s2) nx bn i) (pairOuts (s1, s2) nx bn tm i)) ∧ Hid (CellsN wr w.heap.size 61 [.int .i64 (bn : Int), .int .i64 s1, .int .i64 s2, .func (.func gN) fsN lbN, .func (.func gT) fsT lbT]) ∧ Hid (Cells3 wr (w.heap.size + 1) 27 (.int .i64 0) (.slice none 0 0) (.slice none 0 0)) ∧ Hid (Below w.heap.size w wr)) (fun _ k' _ => bn - (intOf k').toNat)
      case atStart => exact ⟨0, Nat.zero_le _, hML, rfl, hPM, hO, hBM, h5M, hZM, hBW⟩
      case round =>
        clear hML hPM hO hBM h5M hZM hBW
        obtain ⟨k, hkl, hml, rfl, hPM, hO, hBM, h5M, hZM, hBW⟩ := hrel
        obtain ⟨W7, rfl⟩ : ∃ W : World, W = wr := ⟨_, rfl⟩
        obtain ⟨M, hM⟩ : ∃ M, M = midP (s1, s2) nx bn i (x1, x2) k := ⟨_, rfl⟩
        have HM := Lib.hid hM
        have hMi : M[i]? = some (x1, x2) := by
          obtain ⟨r, hr⟩ := mid_prefix (st := (s1, s2)) (nx := nx) (b := bn) i (x1, x2) (Nat.zero_le k)
          rw [hM, ← hr, mid_zero, List.getElem?_append_left (List.getElem?_eq_some_iff.1 HS.out).1]
          exact HS.out
        rw [← hM] at hml hPM
        have hMl : i < M.length := (List.getElem?_eq_some_iff.1 hMi).1
        obtain ⟨g2, pc2, cur2, hpv2, hgB2, hgl2, _⟩ := hPM.out.form (by omega)
        subst hpv2
        have HMI := Lib.hid hMi
        clear hM hMi
        by_cases hlk : k < bn
        case pos =>
          obtain ⟨c1, c2⟩ := hPM.out.cells HMI.out
          simp only at c1 c2
          have f3 := h5M.out.at_ (i := 3) rfl
          have hiM : (i : Int) < (M.length : Int) := by omega
          have hk0 : (0 : Int) ≤ (k : Int) := Int.natCast_nonneg _
          have hkb : (k : Int) < (bn : Int) := by omega
          obtain ⟨n1, hn1⟩ : ∃ n, n = (nx (x1, x2) k).1 := ⟨_, rfl⟩
          obtain ⟨n2, hn2⟩ : ∃ n, n = (nx (x1, x2) k).2 := ⟨_, rfl⟩
          have HNE := Lib.hid (show nx (x1, x2) k = (n1, n2) by rw [hn1, hn2])
          have HC := Lib.hid (fun (W : World) (hW : Below w.heap.size w W) => HNX.out W hW x1 x2 HOK.out k hlk)
          rw [← hn1, ← hn2] at HC
          clear hn1 hn2
          have hD1 : Below w.heap.size w W7.drew := hBW.out.trans ((below_drew' W7).mono hBW.out.size)
          have hz7 : Below W7.heap.size W7 (W7.alloc (.cells #[.int .i64 0, .int .i64 0] 57)) := (Below.refl _ _).alloc (Nat.le_refl _) _
          have hz8 : Below W7.heap.size W7 (W7.alloc (.cells #[.int .i64 0, .int .i64 0] 57)).drew := hz7.trans ((below_drew' _).mono hz7.size)
          have hD2 : Below w.heap.size w (W7.alloc (.cells #[.int .i64 0, .int .i64 0] 57)).drew := hBW.out.trans (hz8.mono hBW.out.size)
          have f3a := (h5M.out.alloc (.cells #[.int .i64 0, .int .i64 0] 57)).at_ (i := 3) rfl
          have c1a := (hz7.cell (p := ⟨g2, i * 2, none⟩) hgl2).trans c1
          have c2a := (hz7.cell (p := ⟨g2, i * 2 + 1, none⟩) hgl2).trans c2
          have cz7 := (CellsN.new W7 57 [.int .i64 0, .int .i64 0]).drew
          go_wp2_with fail
          go_cut [9] (fun s wx => ∃ q : Nat, s = .pointer (some ⟨q, 0, none⟩) ∧ Hid (W7.heap.size ≤ q) ∧ Hid (Below W7.heap.size W7 wx) ∧ Hid (CellsN wx q 57 [.int .i64 n1, .int .i64 n2]))
          case first =>
            go_region_law (first | (go_simp; (with_reducible refine (HC.out _ hD1).mono ?_); rintro e W8 ⟨rfl, b8⟩; have bA : Below W7.heap.size W7 W8 := (below_drew' W7).trans (b8.mono (below_drew' W7).size)) | (go_simp; (with_reducible refine (HC.out _ hD2).mono ?_); rintro e W8 ⟨rfl, b8⟩; have bB : Below W7.heap.size W7 W8 := hz8.trans (b8.mono hz8.size); have cz8 := cz7.below b8; have e0 := cz8.at_ (i := 0) rfl; have e1 := cz8.at_ (i := 1) rfl; have ef := cz8.f))
            all_goals go_wp2_with fail
            all_goals go_meet
            all_goals first
              | exact ⟨_, rfl, bA.size, bA.alloc bA.size _, CellsN.new W8 57 [.int .i64 n1, .int .i64 n2]⟩
              | exact ⟨_, rfl, Nat.le_refl _, (bB.setCell (Nat.le_refl _) _).setCell (Nat.le_refl _) _, (cz8.set 0 (.int .i64 n1)).set 1 (.int .i64 n2)⟩
          case rest =>
            obtain ⟨q, rfl, HQ, HBQ, HCQ⟩ := hcut
            obtain ⟨W9, rfl⟩ : ∃ W : World, W = wc := ⟨_, rfl⟩
            have HP9 := Lib.hid (hPM.out.below HBQ.out)
            have HO9 := Lib.hid (own_below hO.out HBQ.out)
            have HM9 := Lib.hid (hBM.out.below HBQ.out)
            have H59 := Lib.hid (h5M.out.below HBQ.out)
            have HZ9 := Lib.hid (hZM.out.below HBQ.out)
            have HB9 := Lib.hid (hBW.out.trans (HBQ.out.mono hBW.out.size))
            clear hPM hO hBM h5M hZM hBW c1 c2 c1a c2a f3 f3a hD1 hD2 hz7 hz8 cz7 HBQ HC
            have HMN : Hid M.Nodup := by show M.Nodup; rw [HM.out]; exact mid_nodup _ _ _
            have HIX := Lib.hid (index_pair _ M n1 n2 W9 BB HP9.out (by omega) HMN.out (by omega))
            obtain ⟨pa, hpa⟩ : ∃ pa, pa = pairAt M (n1, n2) := ⟨_, rfl⟩
            rw [← hpa] at HIX
            have HPA := Lib.hid hpa
            have e0 := HCQ.out.at_ (i := 0) rfl
            have e1 := HCQ.out.at_ (i := 1) rfl
            clear hpa
            go_wp2_with fail
            refine HIX.out.mono ?_
            rintro e W10 ⟨rfl, b10⟩
            have HP10 := Lib.hid (HP9.out.below b10)
            have HO10 := Lib.hid (own_below HO9.out b10)
            have HM10 := Lib.hid (HM9.out.below b10)
            have H510 := Lib.hid (H59.out.below b10)
            have HZ10 := Lib.hid (HZ9.out.below b10)
            have HB10 := Lib.hid (HB9.out.trans (b10.mono HB9.out.size))
            have HQ10 := Lib.hid (HCQ.out.below b10)
            clear HP9 HO9 HM9 H59 HZ9 HB9 HCQ b10 e0 e1 HIX
            by_cases hx : (n1, n2) ∈ M
            case pos =>
              have hpl := place_old (st := (s1, s2)) (nx := nx) (b := bn) (by omega) hlk HS.out (by rw [HNE.out, ← HM.out]; exact hx)
              have hlt2 := idxOf_lt hx
              have hst0 := fill_row (n := bn) (ix (found (s1, s2) nx bn) (nx (x1, x2) k) : Int) (part_len (st := (s1, s2)) (nx := nx) (b := bn) (x1, x2) k) hlk
              rw [← part_succ, hpl.2, HNE.out, ← HM.out] at hst0
              obtain ⟨m, hm⟩ : ∃ m : Nat, m = ix M (n1, n2) := ⟨_, rfl⟩
              rw [← hm] at hst0 hlt2
              have hpm : pa = (m : Int) := by rw [HPA.out, pairAt, if_pos hx, hm]
              subst hpm
              have HM2 : Hid (midP (s1, s2) nx bn i (x1, x2) (k + 1) = M) := by show _ = _; rw [hpl.1, HM.out]
              have hd1 := decide_eq_false (show ¬ (m : Int) < 0 by omega)
              have hd2 : ((m : Int) == 16) = false := by simp; omega
              have q1 := HO10.out.cellAt k (by omega)
              have q2 := HO10.out.frozenAt k
              have hst := HO10.out.stored k (.int .i64 (m : Int))
              rw [hst0] at hst
              have HS3 := Lib.hid hst
              have hL := part_len (st := (s1, s2)) (nx := nx) (b := bn) (x1, x2) k
              rw [List.getElem?_map, List.getElem?_append_right (by rw [hL]; exact Nat.le_refl _), List.getElem?_replicate, if_pos (by rw [hL]; omega)] at q1
              have HG := Lib.hid (grown_cell W10 zb k (.int .i64 (m : Int)))
              obtain ⟨czb, hzbt⟩ := own_block HO10.out zb rfl
              obtain ⟨_, cg, hg2t⟩ := ownP_block HP10.out g2 rfl
              have HP11 := Lib.hid (HP10.out.kept HG.out (.inr (fun e => ne_of_types hg2t hzbt (by decide) (Option.some.inj e))))
              have HM11 := Lib.hid (building_beside HM10.out HG.out (fun k hk => by
                obtain ⟨_, hc⟩ := has_block HM10.out.top k hk
                exact ne_of_types hc hzbt (by decide)) (by have := HZB.out; have := HBB.out; have := HM10.out.lo; omega) (fun i u hu k hk => by have := (building_rows HM10.out hu hk).1; have := HZB.out; omega))
              have hn1 : w.heap.size ≠ zb := by have := HZB.out; omega
              have hn2 : w.heap.size + 1 ≠ zb := by have := HZB.out; omega
              have H511 := Lib.hid (H510.out.other (a := ⟨zb, k, none⟩) (Ne.symm hn1) (.int .i64 (m : Int)))
              have HZ11 := Lib.hid (HZ10.out.other (a := ⟨zb, k, none⟩) (Ne.symm hn2) (.int .i64 (m : Int)))
              have HB11 : Hid (Below w.heap.size w (W10.setCell ⟨zb, k, none⟩ (.int .i64 (m : Int)))) := HB10.out.setCell (by have := HZB.out; show _ ≤ zb; omega) _
              clear hst hst0 hL hpl hm hzbt hg2t HO10 HP10 HM10 H510 HZ10 HB10 HG hx
              go_wp2
              go_roundw
              case rel => exact ⟨k + 1, by omega, by rw [HM2.out]; exact hml, by go_num, by rw [HM2.out]; exact HP11, HS3.out.1, HM11, H511, HZ11, HB11⟩
              case measure => simp [intOf]; omega
            case neg =>
              have hpl := place_new (st := (s1, s2)) (nx := nx) (b := bn) (by omega) hlk HS.out (by rw [HNE.out, ← HM.out]; exact hx)
              have hst0 := fill_row (n := bn) (ix (found (s1, s2) nx bn) (nx (x1, x2) k) : Int) (part_len (st := (s1, s2)) (nx := nx) (b := bn) (x1, x2) k) hlk
              rw [← part_succ, hpl.2, ← HM.out] at hst0
              have hpm : pa = -1 := by rw [HPA.out, pairAt, if_neg hx]
              subst hpm
              have HM2 : Hid (midP (s1, s2) nx bn i (x1, x2) (k + 1) = M ++ [(n1, n2)]) := by show _ = _; rw [hpl.1, HNE.out, HM.out]
              have HST := Lib.hid hst0
              obtain ⟨ip, hip, hzp0, hzp1, hzp2⟩ := info_parts infoP
              have e0 := HQ10.out.at_ (i := 0) rfl
              have e1 := HQ10.out.at_ (i := 1) rfl
              have HPL := Lib.hid (World.ownsRow.alloc HP10.out (.cells #[.int .i64 n1, .int .i64 n2] 57))
              have hcl := CellsN.new W10 57 [.int .i64 n1, .int .i64 n2]
              have HNW : Hid (∀ (j : Nat) (u : Value), ([.int .i64 n1, .int .i64 n2] : List Value)[j]? = some u → (W10.alloc (.cells #[.int .i64 n1, .int .i64 n2] 57)).cell? ((⟨W10.heap.size, 0, none⟩ : Addr).add j) = some u) := fun j u hj => by
                rw [addr_plus, Nat.zero_add]
                exact hcl.at_ hj
              have HON : Hid (∀ u ∈ ([.int .i64 n1, .int .i64 n2] : List Value), u.oneCell' = true) := fun u hu => by
                simp at hu
                rcases hu with rfl | rfl <;> rfl
              have HBS := Lib.hid (show BB ≤ (W10.alloc (.cells #[.int .i64 n1, .int .i64 n2] 57)).heap.size from by
                have h1 := HM10.out.lo
                have h2 := HM10.out.le
                rw [size_alloc']
                omega)
              clear hst0 hcl hpl
              go_upto_region 15 with (at_builtin; refine wpList_append_own _ rfl _ _ 77 rfl BB 57 ip (.agg #[.int .i64 0, .int .i64 0]) 2 16 Try.underlying77 hip hzp0 hzp1 hzp2 rfl (by decide) (.slice (some ⟨g2, 0, none⟩) M.length pc2) M.length (flatP M) rfl HPL.out ⟨W10.heap.size, 0, none⟩ 1 1 [.int .i64 n1, .int .i64 n2] rfl rfl HNW.out HON.out (by unfold maxLen; omega) (by omega) HBS.out ?_; intro v' w2 ho' hg' _)
              have hP11 : OwnP w2 BB v' (M ++ [(n1, n2)]) := by
                show w2.ownsRow _ _ _ _ _ _
                rw [List.length_append, flatP_append]
                exact ho'
              obtain ⟨g3, pc3, _, hv3, hg3B, _, _⟩ := hP11.form (by simp)
              rw [List.length_append, List.length_singleton] at hv3
              subst hv3
              have hg3 : W10.grownBy w2 (some g2) := grown_alloc hg'
              have HP11 := Lib.hid hP11
              obtain ⟨czb, hzbt⟩ := own_block HO10.out zb rfl
              obtain ⟨_, cg, hg2t⟩ := ownP_block HP10.out g2 rfl
              have HO11 := Lib.hid (World.ownsRow.kept HO10.out hg3 (.inr (fun e => ne_of_types hg2t hzbt (by decide) (Option.some.inj e).symm)))
              have HM11 := Lib.hid (building_pairs HM10.out HP10.out HBB.out.2.1 hg3)
              have H511 := Lib.hid (H510.out.grown hg3 (by have := HBB.out; simp; omega))
              have HZ11 := Lib.hid (HZ10.out.grown hg3 (by have := HBB.out; simp; omega))
              have HB11 := Lib.hid (HB10.out.grown hg3 HB10.out.size (fun k hk => by have e := Option.some.inj hk; have := HBB.out; omega))
              have hlen : (M ++ [(n1, n2)]).length = M.length + 1 := by simp
              clear hP11 ho' hg' hg3 hzbt hg2t HO10 HP10 HM10 H510 HZ10 HB10 HPL HNW HON HBS e0 e1 HQ10 hzp0 hzp1 hzp2 hip
              by_cases hfull : M.length = 16
              case pos =>
                have hd2 : ((M.length : Int) == 16) = true := by simp; omega
                have hlen2 := (mid_found (st := (s1, s2)) (nx := nx) (b := bn) (show i ≤ 16 by omega) (show k + 1 ≤ bn by omega) HS.out).length_le
                rw [HM2.out, hlen] at hlen2
                have hk : pairK (s1, s2) nx bn = false := decide_eq_false (by omega)
                have HNN := Lib.hid (p_no (tm := tm) hk)
                have hy := HYE.out
                rw [HNN.out.1, HNN.out.2.1, HNN.out.2.2, hk] at hy
                obtain ⟨rfl, rfl, rfl, rfl⟩ := hy
                have z0 := HZ11.out.c0
                have z1 := HZ11.out.c1
                have z2 := HZ11.out.c2
                have z3 := HZ11.out.f
                clear hk hlen2 hlen
                go_wp2
                have hZ3 := (((HZ11.out.set0 (.int .i64 0)).set1 (.slice none 0 0)).set2 (.slice none 0 0))
                have n0 := hZ3.c0
                have n1 := hZ3.c1
                have n2 := hZ3.c2
                refine bodyPost_ret (v := .tuple #[.agg #[.int .i64 0, .slice none 0 0, .slice none 0 0], .bool false]) (by simp [results, Try.results44, go_sem, n0, n1, n2]) rfl ⟨_, rfl, OwnS.zero _, ?_⟩
                exact ((HB11.out.setCell (Nat.le_succ _) _).setCell (Nat.le_succ _) _).setCell (Nat.le_succ _) _
              case neg =>
                have hd2 : ((M.length : Int) == 16) = false := by simp; omega
                have q1 := HO11.out.cellAt k (by omega)
                have q2 := HO11.out.frozenAt k
                have hst := HO11.out.stored k (.int .i64 (M.length : Int))
                rw [HST.out] at hst
                have HS3 := Lib.hid hst
                have hL := part_len (st := (s1, s2)) (nx := nx) (b := bn) (x1, x2) k
                rw [List.getElem?_map, List.getElem?_append_right (by rw [hL]; exact Nat.le_refl _), List.getElem?_replicate, if_pos (by rw [hL]; omega)] at q1
                have HG := Lib.hid (grown_cell w2 zb k (.int .i64 (M.length : Int)))
                obtain ⟨czb, hzbt⟩ := own_block HO11.out zb rfl
                obtain ⟨_, cg, hg2t⟩ := ownP_block HP11.out g3 rfl
                have HP12 := Lib.hid (HP11.out.kept HG.out (.inr (fun e => ne_of_types hg2t hzbt (by decide) (Option.some.inj e))))
                have HM12 := Lib.hid (building_beside HM11.out HG.out (fun k hk => by
                  obtain ⟨_, hc⟩ := has_block HM11.out.top k hk
                  exact ne_of_types hc hzbt (by decide)) (by have := HZB.out; have := HBB.out; have := HM11.out.lo; omega) (fun i u hu k hk => by have := (building_rows HM11.out hu hk).1; have := HZB.out; omega))
                have hn1 : w.heap.size ≠ zb := by have := HZB.out; omega
                have hn2 : w.heap.size + 1 ≠ zb := by have := HZB.out; omega
                have H512 := Lib.hid (H511.out.other (a := ⟨zb, k, none⟩) (Ne.symm hn1) (.int .i64 (M.length : Int)))
                have HZ12 := Lib.hid (HZ11.out.other (a := ⟨zb, k, none⟩) (Ne.symm hn2) (.int .i64 (M.length : Int)))
                have HB12 : Hid (Below w.heap.size w (w2.setCell ⟨zb, k, none⟩ (.int .i64 (M.length : Int)))) := HB11.out.setCell (by have := HZB.out; show _ ≤ zb; omega) _
                have HML2 : Hid ((M ++ [(n1, n2)]).length ≤ 16) := by show _ ≤ _; rw [hlen]; omega
                rw [show M.length + 1 = (M ++ [(n1, n2)]).length from hlen.symm] at HP12 ⊢
                clear hst hL hzbt hg2t HO11 HP11 HM11 H511 HZ11 HB11 HG hx HST hlen
                go_wp2
                go_roundw
                case rel => exact ⟨k + 1, by omega, by rw [HM2.out]; exact HML2.out, by go_num, by rw [HM2.out]; exact HP12, HS3.out.1, HM12, H512, HZ12, HB12⟩
                case measure => simp [intOf]; omega
        case neg =>
          obtain rfl : k = bn := by omega
          have hMe : M = pairI (s1, s2) nx k (i + 1) := by rw [HM.out]; exact mid_end HS.out
          have HME := Lib.hid hMe
          clear hMe
          have hil2 : i ≤ (found (s1, s2) nx k).length := Nat.le_of_lt (List.getElem?_eq_some_iff.1 HSF.out).1
          have HRL := Lib.hid (rows_len (st := (s1, s2)) (nx := nx) (b := k) hil2)
          have HOL := Lib.hid (outs_len (st := (s1, s2)) (nx := nx) (b := k) (tm := tm) hil2)
          have hfr := hBM.out.form
          rw [HRL.out, HOL.out] at hfr
          obtain ⟨na, nc, oa, oc, hvn, hvo⟩ := hfr
          subst hvn; subst hvo
          have HUSL : Hid (us.length = i) := by show _ = _; rw [hBM.out.len, HRL.out]
          have HU : Hid (Has (Value.int .i64) 3 W7 hi (.slice (some ⟨zb, 0, none⟩) k k) (pairRow (s1, s2) nx k (x1, x2))) := by
            have h1 := hO.out
            rw [Nat.sub_self, List.replicate_zero, List.append_nil] at h1
            have h2 : Has (Value.int .i64) 3 W7 zb (.slice (some ⟨zb, 0, none⟩) k k) (pairRow (s1, s2) nx k (x1, x2)) := by
              show W7.ownsRow _ _ _ _ _ _
              rw [show (pairRow (s1, s2) nx k (x1, x2)).length = k from part_len (x1, x2) k]
              exact h1
            exact h2.mono HZB.out.1
          have d1 := hBM.out.cells.c1
          have d2 := (hBM.out.cells.alloc (.cells #[Value.slice (some ⟨zb, 0, none⟩) k k] 23)).c1
          have hpl := hBM.out.cells.lt
          have HNP := Lib.hid (has_ne_c3 hBM.out.top hBM.out.cells (by decide))
          have HNZ := Lib.hid (has_ne_c3 hBM.out.top hZM.out (by decide))
          have HN5 := Lib.hid (h5M.out.ne_has hBM.out.top (by decide))
          have HLO := Lib.hid (show BB ≤ W7.heap.size from Nat.le_trans hBM.out.lo hBM.out.le)
          have HNPV : Hid (∀ q, (Value.slice na i nc).ownBlock = some q → g2 ≠ q) := fun q hq => by
            obtain ⟨_, c1, h1⟩ := ownP_block hPM.out g2 rfl
            obtain ⟨c2, h2⟩ := has_block hBM.out.top q hq
            exact ne_of_types h1 h2 (by decide)
          go_upto_region 20 with (at_builtin; refine wpList_append_list (enc := id) (e := 23) rfl _ _ 22 rfl BB i2 (.slice none 0 0) 24 Try.underlying22 hi2 hz20 hz21 hz22 rfl (.slice na i nc) us rfl (has_alloc hBM.out.top _) (.slice (some ⟨W7.heap.size, 0, none⟩) 1 1) [.slice (some ⟨zb, 0, none⟩) k k] rfl (lies_lit1v _ rfl) (fun y hy => by simp at hy; subst hy; rfl) (by rw [HUSL.out]; simp; omega) (by rw [HUSL.out]; simp; omega) (by have := HLO.out; simp; omega) ?_; intro v' w2 hv' hg2 _; obtain ⟨a2, c2, hvf, _⟩ := hv'.form; rw [show (us ++ [Value.slice (some ⟨zb, 0, none⟩) k k]).length = i + 1 from by rw [List.length_append, HUSL.out]; rfl] at hvf; subst hvf; have hg3 := grown_alloc hg2; have hc2 := hBM.out.cells.grown hg3 HNP.out; have d3 := hc2.c1; have df := hc2.f)
          have HBL5 := Lib.hid (hBM.out.row HU.out hv' hg3)
          have HG5 : Hid (BB ≤ w2.heap.size) := Nat.le_trans HLO.out hg3.size
          have hne1 : (p : Nat) ≠ w.heap.size := by have := HBB.out; omega
          have hne2 : (p : Nat) ≠ w.heap.size + 1 := by have := HBB.out; omega
          have hne3 : w.heap.size ≤ p := by have := HBB.out; omega
          have HZ5 := Lib.hid ((hZM.out.grown hg3 HNZ.out).other (a := ⟨p, 1, none⟩) hne2 (.slice a2 (i + 1) c2))
          have H55 := Lib.hid ((h5M.out.grown hg3 HN5.out).other (a := ⟨p, 1, none⟩) hne1 (.slice a2 (i + 1) c2))
          have HB5 : Hid (Below w.heap.size w (w2.setCell ⟨p, 1, none⟩ (.slice a2 (i + 1) c2))) := (hBM.out.top.frame hBW.out (by have := HBB.out; omega) hg3).setCell hne3 _
          have HP5a := Lib.hid (hPM.out.kept hg3 (.inr (fun e => HNPV.out g2 e.symm rfl)))
          have HP5 := Lib.hid (HP5a.out.kept (grown_cell w2 p 1 (.slice a2 (i + 1) c2)) (.inr (fun e => by have e2 : g2 = p := Option.some.inj e; have := HBB.out; omega)))
          have HG6 : Hid (BB ≤ (w2.setCell ⟨p, 1, none⟩ (.slice a2 (i + 1) c2)).heap.size) := by show _ ≤ _; rw [size_setCell']; exact HG5.out
          obtain ⟨W5, hW5⟩ : ∃ W, W = w2.setCell ⟨p, 1, none⟩ (.slice a2 (i + 1) c2) := ⟨_, rfl⟩
          rw [← hW5] at HBL5 HZ5 H55 HB5 HP5 HG6 ⊢
          have HW5 := Lib.hid (show w2.heap.size = W5.heap.size by rw [hW5, size_setCell'])
          rw [HW5.out] at HBL5
          clear hv' hg2 hg3 hc2 d1 d2 d3 df hpl hW5 HNP HNZ HN5 HLO HG5 HP5a hPM hO hBM h5M hZM hBW HU HNPV
          have HVO := Lib.hid HBL5.out.terms
          have c3 := HBL5.out.cells.c2
          have hpl := HBL5.out.cells.lt
          obtain ⟨p1, p2⟩ := HP5.out.cells HMI.out
          simp only at p1 p2
          have f4 := H55.out.at_ (i := 4) rfl
          have hiM : (i : Int) < (M.length : Int) := by omega
          obtain ⟨o, ho⟩ : ∃ o, o = tm (x1, x2) := ⟨_, rfl⟩
          have HC := Lib.hid (fun (W : World) (hW : Below w.heap.size w W) => HTM.out W hW x1 x2 HOK.out)
          rw [← ho] at HC
          have HOE := Lib.hid ho
          have hD : Below w.heap.size w W5.drew := HB5.out.trans ((below_drew' W5).mono HB5.out.size)
          clear ho
          go_region_law (first | (go_simp; (with_reducible refine (HC.out _ hD).mono ?_); rintro e W8 ⟨rfl, b8⟩; have bA : Below W5.heap.size W5 W8 := (below_drew' W5).trans (b8.mono (below_drew' W5).size); have HV8 := Lib.hid (HVO.out.below bA); have HB8 := Lib.hid (HBL5.out.below bA); have c8 := HB8.out.cells.c2; have c8a := (HB8.out.cells.alloc (.cells #[Value.int .i64 o] 3)).c2; have HN8 := Lib.hid (has_ne_c3 HV8.out.has HB8.out.cells (by decide)); have HGB : Hid (BB ≤ W8.heap.size) := Nat.le_trans HG6.out bA.size) | (refine step_append_at_list (enc := Value.int .i64) (e := 3) rfl (.tmp 65) (.tmp 73) 23 rfl BB i0 (.int .i64 0) 8 Try.underlying23 hi0 hz0 hz1 hz2 rfl (.slice oa i oc) (pairOuts (s1, s2) nx k tm i) rfl (by repeat (first | with_reducible exact HV8.out.has | with_reducible apply has_alloc)) (Value.slice (some ⟨_, 0, none⟩) 1 1) [o] rfl (by repeat (first | (with_reducible refine lies_lit1 (enc := Value.int .i64) _ rfl) | with_reducible apply lies_alloc)) (fun _ _ => rfl) (by rw [HOL.out]; simp; omega) (by rw [HOL.out]; simp; omega) (by have := HGB.out; simp; omega) ?_; intro vt w6 ho6 hg6 hb6; obtain ⟨a6, c6, hvf, _⟩ := ho6.form; rw [show (pairOuts (s1, s2) nx k tm i ++ [o]).length = i + 1 from by rw [List.length_append, HOL.out]; rfl] at hvf; subst hvf; refine with_fact (T := W8.grownBy w6 (Value.slice oa i oc).ownBlock) ?_ ?_; (focus (exact grown_alloc hg6)); intro hg7; have hc7 := HB8.out.cells.grown hg7 HN8.out; have r1 := hc7.c2; have r3 := hc7.f))
          all_goals
            have HBL7 := Lib.hid (HB8.out.term ho6 hg7 (fun k hk => (hb6 k hk).imp id (fun h => by simp at h; omega)))
            have H58 := Lib.hid (H55.out.below bA)
            have HZ8 := Lib.hid (HZ5.out.below bA)
            have HP8 := Lib.hid (HP5.out.below bA)
            have HBW8 := Lib.hid (HB5.out.trans (bA.mono HB5.out.size))
            have HNV : Hid (∀ q, (Value.slice oa i oc).ownBlock = some q → g2 ≠ q) := fun q hq => by
              obtain ⟨_, c1, h1⟩ := ownP_block HP8.out g2 rfl
              obtain ⟨c2, h2⟩ := has_block HV8.out.has q hq
              exact ne_of_types h1 h2 (by decide)
            have H57 := Lib.hid ((H58.out.grown hg7 (H58.out.ne_has HV8.out.has (by decide))).other (a := ⟨p, 2, none⟩) hne1 (.slice a6 (i + 1) c6))
            have HZ7 := Lib.hid ((HZ8.out.grown hg7 (has_ne_c3 HV8.out.has HZ8.out (by decide))).other (a := ⟨p, 2, none⟩) hne2 (.slice a6 (i + 1) c6))
            have HB7 : Hid (Below w.heap.size w (w6.setCell ⟨p, 2, none⟩ (.slice a6 (i + 1) c6))) := (HV8.out.has.frame HBW8.out (by have := HBB.out; omega) hg7).setCell hne3 _
            have HP7a := Lib.hid (HP8.out.kept hg7 (.inr (fun e => HNV.out g2 e.symm rfl)))
            have HP7 := Lib.hid (HP7a.out.kept (grown_cell w6 p 2 (.slice a6 (i + 1) c6)) (.inr (fun e => by have e2 : g2 = p := Option.some.inj e; have := HBB.out; omega)))
            have HP9 : Hid (OwnP (w6.setCell ⟨p, 2, none⟩ (.slice a6 (i + 1) c6)) BB (.slice (some ⟨g2, 0, none⟩) M.length pc2) (pairI (s1, s2) nx k (i + 1))) := by rw [← HME.out]; exact HP7.out
            have HBL8 : Hid (Building (w6.setCell ⟨p, 2, none⟩ (.slice a6 (i + 1) c6)) BB w6.heap.size p (k : Int) (.slice a2 (i + 1) c2) (.slice a6 (i + 1) c6) (us ++ [.slice (some ⟨zb, 0, none⟩) k k]) (pairRows (s1, s2) nx k (i + 1)) (pairOuts (s1, s2) nx k tm (i + 1))) := by
              have h1 := HBL7.out
              rw [HOE.out] at h1
              rw [rows_succ HSF.out, outs_succ HSF.out]
              exact h1
            have HLL : Hid (i + 1 ≤ (pairI (s1, s2) nx k (i + 1)).length ∧ (pairI (s1, s2) nx k (i + 1)).length ≤ 16) := by
              show _ ∧ _
              rw [← HME.out]
              omega
            clear ho6 hb6 hg6 hg7 hc7 r1 r3 c8 c8a HB8 HV8 HN8 HGB bA b8 HBL7 H58 HZ8 HP8 HBW8 HNV HP7a HP7
            go_wp2
            go_roundw
            case rel => exact ⟨i + 1, _, _, _, w6.heap.size, HLL.out.1, HLL.out.2, by go_num, HP9, HBL8, H57, HZ7, HB7⟩
            case measure => simp [intOf]; omega
end Comb
end Go.Proofs.Ythnmighlgifoeaa
