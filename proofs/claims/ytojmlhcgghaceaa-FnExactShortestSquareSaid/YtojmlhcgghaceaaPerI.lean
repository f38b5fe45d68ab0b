/- Contracts of the program's PeriodsOf and LeastPeriod: a range over slices.Backward. No conditions beyond those that each states. -/
import Derived.RangeFuncNested
import Derived.RangeFuncBound
import Derived.RangeFuncCalls
import Derived.RangeFuncBox
import Derived.RangeFuncLeaves
import Derived.Shelf.Abstract
import Derived.Shelf.RegionOpen
import Derived.WalkKit
import Derived.OwnWalkIn
import Derived.TacticsInMore
import Derived.LoopNIn
import Derived.LoopIn
import Derived.Maps.AppendAt
import Derived.Test.YtojmlhcgghaceaaBorI
namespace Go.Proofs.Ytojmlhcgghaceaa
open Go.ChangeShapes Go.WideShapes Go.ChangeAt Go.RowKit Go.Shelf
open Go.PlainAid Plain
attribute [local go_sem] Oper.semAt_some
set_option linter.unusedVariables false
namespace Fac
/-- The blocks from lo up to hi lie as they lay. -/
def Span (lo hi : Nat) (W W' : World) : Prop := W.heap.size ≤ W'.heap.size ∧ ∀ k, lo ≤ k → k < hi → W'.heap[k]? = W.heap[k]?
theorem Span.refl (lo hi : Nat) (W : World) : Span lo hi W W := ⟨Nat.le_refl _, fun _ _ _ => rfl⟩
theorem Span.trans {lo hi : Nat} {A B C : World} (h : Span lo hi A B) (k : Span lo hi B C) : Span lo hi A C := ⟨Nat.le_trans h.1 k.1, fun i h1 h2 => (k.2 i h1 h2).trans (h.2 i h1 h2)⟩
theorem span_b {lo hi : Nat} {w : World} (hn : hi ≤ w.heap.size) (W : World) (l : Nat) (o o' : Obj) (hl : w.heap.size ≤ l) (h : W.heap[l]? = some o) (_ : o.isCells = false) (_ : o.isWalk = false) : Span lo hi W (W.putObj l o') :=
  ⟨(grownBy_putObj' W l o').size, fun k h1 h2 => by
    have hlt := (Array.getElem?_eq_some_iff.1 h).1
    exact (grownBy_putObj' W l o').block k (by omega) (fun e => by cases e; omega)⟩
/-- What comes out of a list from its end on: index and element. -/
def upB (zs : List Int) (k : Nat) : List (Nat × Int) := (List.range k).map fun j => (zs.length - 1 - j, zs[zs.length - 1 - j]?.getD 0)
theorem upB_succ (zs : List Int) {j : Nat} {x : Int} (hx : zs[j]? = some x) : upB zs (zs.length - j) = upB zs (zs.length - (j + 1)) ++ [(j, x)] := by
  have hj : j < zs.length := (List.getElem?_eq_some_iff.1 hx).1
  unfold upB
  rw [show zs.length - j = (zs.length - (j + 1)) + 1 from by omega, List.range_succ, List.map_append, List.map_cons, List.map_nil, show zs.length - 1 - (zs.length - (j + 1)) = j from by omega, hx]
  rfl
theorem upB_len (zs : List Int) (k : Nat) : (upB zs k).length = k := by simp [upB]
theorem upB_all (zs : List Int) : (upB zs zs.length).map (·.2) = zs.reverse := by
  refine List.ext_getElem (by simp [upB]) fun i h1 h2 => ?_
  have hi : i < zs.length := by simpa [upB] using h1
  simp [upB, show zs.length - 1 - i < zs.length from by omega]
set_option maxRecDepth 100000 in
set_option maxHeartbeats 2000000 in
/-- slices.Backward's closure, for every loop body that keeps the slice and the variable that it has captured. -/
theorem back1_in (F : Fence) (n : Nat) (hf : F.fn 69) (hro : F.round = none) (hn : 1 ≤ n) (l Bs lo hi : Nat) (a : Option Addr) (cap : Nat) (zs : List Int) (hz : zs.length ≤ 4194304) (J Jx : List (Nat × Int) → World → Prop)
    (hY : ∀ pre x W, J pre W → pre.length < zs.length → YieldAt F (n - 1) Try.prog l #[.int .i64 (x.1 : Int), .int .i64 x.2] W fun e W' =>
      (e = .returned (.bool true) ∧ J (pre ++ [x]) W' ∧ Span lo hi W W') ∨ (e = .returned (.bool false) ∧ Jx (pre ++ [x]) W'))
    (W : World) (hS : ∀ W', Span lo hi W W' → W'.cell? ⟨Bs, 0, none⟩ = some (.slice a zs.length cap) ∧ Lies (Value.int .i64) W' (.slice a zs.length cap) zs) (h0 : J [] W) :
    CallsIn F n Try.prog 69 #[.func (.yield l) #[] #[], .pointer (some ⟨Bs, 0, none⟩)] W fun e W' => (∃ v, e = .returned v) ∧
      ((∃ ys, ys = upB zs zs.length ∧ J ys W') ∨ (∃ pre, (∃ k, k ≤ zs.length ∧ pre = upB zs k) ∧ Jx pre W')) := by
  have hc0 := (hS W (Span.refl _ _ _)).1
  refine callsIn_of_wp Try.func69 rfl hf ?_ hro
  simp only [Try.ntmps69, List.size_toArray, List.length_cons, List.length_nil, Nat.reduceAdd, Nat.reduceSub, Array.replicate_succ, Array.replicate_zero, List.push_toArray, List.append_toArray, List.nil_append, List.cons_append]
  gi_wp2
  gi_loopw [3] (fun i wr => ∃ m : Nat, m ≤ zs.length ∧ i = .int .i64 ((m : Int) - 1) ∧ J (upB zs (zs.length - m)) wr ∧ Span lo hi W wr)
    (fun i _ => (intOf i + 1).toNat)
  case atStart => exact ⟨zs.length, Nat.le_refl _, by go_num, by rw [Nat.sub_self]; exact h0, Span.refl _ _ _⟩
  case round =>
    obtain ⟨m, hm, rfl, hJs, hsp⟩ := hrel
    by_cases hlt : 0 < m
    · obtain ⟨j, rfl⟩ : ∃ j, m = j + 1 := ⟨m - 1, by omega⟩
      obtain ⟨x, hx⟩ : ∃ x, zs[j]? = some x := ⟨_, List.getElem?_eq_getElem (by omega)⟩
      obtain ⟨hcb, hli⟩ := hS wr hsp
      obtain ⟨b, o, rfl, hcx⟩ := lies_cell hli hx
      obtain ⟨fn, tmps, assign, body, hy, hR⟩ := hY _ (j, x) wr hJs (by rw [upB_len]; omega)
      dsimp only at hy
      rw [← upB_succ zs hx] at hR
      clear hx hli
      have hjl : j < zs.length := by omega
      gi_wp2
      refine hR.mono ?_
      rintro e W3 (⟨rfl, hJ3, hk3⟩ | ⟨rfl, hJx3⟩)
      · gi_wp2
        go_roundw
        case rel => exact ⟨j, by omega, by go_num, hJ3, hsp.trans hk3⟩
        case measure => simp [intOf] <;> omega
      · gi_wp2
        refine bodyPost_ret (results_none rfl _ _ _) rfl ?_
        exact ⟨⟨_, rfl⟩, .inr ⟨_, ⟨zs.length - j, by omega, rfl⟩, hJx3⟩⟩
    · obtain rfl : m = 0 := by omega
      gi_wp2
      go_end0
      exact ⟨⟨_, rfl⟩, .inl ⟨_, rfl, hJs⟩⟩
set_option maxHeartbeats 1000000 in
theorem back_in (F : Fence) (n : Nat) (hf : F.fn 63) (hro : F.round = none) (a : Option Addr) (len cap : Nat) (w : World) :
    CallsIn F n Try.prog 63 #[.slice a len cap] w fun e w' => e = .returned (.func (.func 69) #[] #[.pointer (some ⟨w.heap.size, 0, none⟩)]) ∧ w' = w.alloc (.cells #[.slice a len cap] 22) := by
  refine callsIn_of_wp Try.func63 rfl hf ?_ hro
  simp only [Try.ntmps63, List.size_toArray, List.length_cons, List.length_nil, Nat.reduceAdd, Nat.reduceSub, Array.replicate_succ, Array.replicate_zero, List.push_toArray, List.append_toArray, List.nil_append, List.cons_append]
  gi_wp2
  go_ret
  exact ⟨rfl, rfl⟩
theorem back_stops (F : Fence) (n : Nat) (hf : F.fn 69) (hro : F.round = none) (hn : 1 ≤ n) (Bs lo hi : Nat) (a : Option Addr) (cap : Nat) (zs : List Int) (hz : zs.length ≤ 4194304) (w : World) (hhi : hi ≤ w.heap.size) (hS : ∀ W', Span lo hi w W' → W'.cell? ⟨Bs, 0, none⟩ = some (.slice a zs.length cap) ∧ Lies (Value.int .i64) W' (.slice a zs.length cap) zs) :
    SeqStopsK F n Try.prog 69 #[.pointer (some ⟨Bs, 0, none⟩)] (fun x : Nat × Int => #[Value.int .i64 (x.1 : Int), Value.int .i64 x.2]) (Span lo hi) (fun ys => ys = upB zs zs.length)
      (fun pre => ∃ k, k ≤ zs.length ∧ pre = upB zs k) zs.length w := fun l J Jx W hW _ _ hY h0 =>
  back1_in F n hf hro hn l Bs lo hi a cap zs hz J Jx hY W (fun W' h => hS W' (Span.trans ⟨hW.size, fun k _ h2 => hW.block k (by omega)⟩ h)) h0
/-- What the periods are when some borders have come. -/
def prB (n : Nat) (pre : List (Nat × Int)) : List Int := pre.map fun p => wrap64 ((n : Int) - p.2)
theorem prB_snoc (n : Nat) (pre : List (Nat × Int)) (x : Nat × Int) : prB n (pre ++ [x]) = prB n pre ++ [wrap64 ((n : Int) - x.2)] := by simp [prB]
theorem prB_len (n : Nat) (pre : List (Nat × Int)) : (prB n pre).length = pre.length := by simp [prB]
theorem prB_all {u : List Int} (hs : u.length ≤ 4194304) : prB u.length (upB (brV u) (brV u).length) = prV u := by
  have h := upB_all (brV u)
  unfold prV prB
  rw [← h, List.map_map]
  refine List.map_congr_left fun p hp => ?_
  have hm : p.2 ∈ brV u := by
    have : p.2 ∈ (upB (brV u) (brV u).length).map (·.2) := List.mem_map_of_mem hp
    rw [h] at this
    simpa using this
  have := brs_range u _ p.2 hm
  show wrap64 ((u.length : Int) - p.2) = (u.length : Int) - p.2
  unfold wrap64
  omega
/-- A box holds a slice of the call's own, others lie as they lay: one more element. -/
theorem box_grown {W w1 : World} {H B lo : Nat} {v v' : Value} {xs ys : List Int} {tmp : Obj} (hv : Boxed W B 22 v) (hrow : Has (Value.int .i64) 3 W H v xs) (hH : H ≤ W.heap.size) (hB : B < lo) (hown' : Has (Value.int .i64) 3 w1 H v' ys) (hgrow : (W.alloc tmp).grownBy w1 v.ownBlock) :
    Boxed w1 B 22 v ∧ Boxed (w1.setCell ⟨B, 0, none⟩ v') B 22 v' ∧ Has (Value.int .i64) 3 (w1.setCell ⟨B, 0, none⟩ v') H v' ys ∧ KeepsOthers W (w1.setCell ⟨B, 0, none⟩ v') ∧ Span lo H W (w1.setCell ⟨B, 0, none⟩ v') ∧
      (∀ (b0 : Nat) (u : Value), Boxed W b0 22 u → b0 ≠ B → Boxed (w1.setCell ⟨B, 0, none⟩ v') b0 22 u) ∧ (∀ w0 : World, Below w0.heap.size w0 W → w0.heap.size ≤ B → w0.heap.size ≤ H → Below w0.heap.size w0 (w1.setCell ⟨B, 0, none⟩ v')) := by
  have hte : (22 : TypeId) ≠ 3 := by decide
  have h0 := hv.appended hte (hrow.mono (Nat.zero_le _)) (Nat.zero_le _) (Nat.zero_le _) (hown'.mono (Nat.zero_le _)) hgrow
  have hk : ∀ k, v.ownBlock = some k → H ≤ k := fun k e => (hrow.lt k e).1
  have hsz : W.heap.size ≤ w1.heap.size := Nat.le_trans (by simp) hgrow.size
  refine ⟨h0.1, h0.2.1, World.ownsRow.kept hown' (grownBy_setCell' w1 B v') (.inr (h0.1.not_row hte hown').symm), h0.2.2.2.1, ⟨Nat.le_trans hsz (grownBy_setCell' w1 B v').size, fun k h1 h2 => ?_⟩, fun b0 u hb hne => ?_, fun w0 hb h1 h2 => ?_⟩
  · have e1 := (grownBy_setCell' w1 B v').block k (by omega) (fun e => by cases e; omega)
    have e2 := hgrow.block k (by simp; omega) (fun e => by have := hk k e.symm; omega)
    rw [e1, e2]
    exact heap_alloc_old W tmp k (by omega)
  · refine Boxed.kept ?_ (grownBy_setCell' w1 B v') (fun e => hne (by cases e; rfl))
    exact (hb.alloc tmp).kept hgrow ((hb.alloc tmp).not_row hte (World.ownsRow.alloc hrow tmp))
  · exact ((hb.alloc hb.size tmp).grown hgrow (Nat.le_trans hb.size (by simp)) (fun k e => Nat.le_trans h2 (hk k e))).setCell h1 v'
theorem holds_own {β : Type} (H B : Nat) (f : β → List Int) : Own (fun s W => ∃ v, Boxed W B 22 v ∧ Has (Value.int .i64) 3 W H v (f s)) := by
  rintro s X Y row ⟨v, hv, hr⟩ hg hrow
  obtain ⟨v2, h1, h2, _⟩ := holdsRow_own H B 22 3 1 (fun s => (f s).length) (fun s => (f s).map (Value.int .i64)) (fun _ _ => True) s X Y row ⟨v, hv, hr, trivial⟩ hg hrow
  exact ⟨v2, h1, h2⟩
theorem boxed_own' {β : Type} (B : Nat) (u : Value) : Own (fun (_ : β) W => Boxed W B 22 u) := fun s X Y row hv hg hrow => by
  refine Boxed.kept hv hg fun e' => ?_
  obtain ⟨o, ho, hc⟩ := hrow B e'.symm
  rw [show X.heap[B]? = _ from hv] at ho; cases ho; cases hc
set_option maxRecDepth 100000 in
set_option maxHeartbeats 4000000 in
theorem impl_per (v : Value) (u : List Int) (w : World) (h : Lies (Value.int .i64) w v u) (hs : u.length ≤ 4194303) :
    Calls Try.prog 55 #[v] w (Gives (Value.int .i64) 3 (prV u) w) := by
  obtain ⟨i0, hi, hz0, hz1, hz2⟩ := info_parts Ints.infoI
  obtain ⟨pa, pc, rfl⟩ := lies_form h
  refine (callsIn_wide (n := 6)).1 ?_
  refine callsIn_of_wp_marks Try.func55 rfl trivial ?_ rfl
  simp only [Try.ntmps55, List.size_toArray, List.length_cons, List.length_nil, Nat.reduceAdd, Nat.reduceSub, Array.replicate_succ, Array.replicate_zero, List.push_toArray, List.append_toArray, List.nil_append, List.cons_append]
  have b0 := Boxed.new w 22 (.slice pa u.length pc)
  have b1 := Boxed.new (w.alloc (.cells #[.slice pa u.length pc] 22)) 22 (.slice none 0 0)
  have b0' := b0.alloc (.cells #[.slice none 0 0] 22)
  rw [World.size_alloc] at b1
  have hB0 : Below w.heap.size w ((w.alloc (.cells #[.slice pa u.length pc] 22)).alloc (.cells #[.slice none 0 0] 22)) := ((Below.refl _ w).alloc (Nat.le_refl _) _).alloc (by simp) _
  obtain ⟨W2, hW2⟩ : ∃ W2, (w.alloc (.cells #[.slice pa u.length pc] 22)).alloc (.cells #[.slice none 0 0] 22) = W2 := ⟨_, rfl⟩
  have hsz2 : W2.heap.size = w.heap.size + 2 := by rw [← hW2]; simp
  rw [hW2] at b0' b1 hB0
  have hBC := Lib.hid (impl_bor _ u W2 (h.below hB0) hs)
  have hc1 := b0'.cell
  gi_wp2_with (first | (refine ⟨trivial, ?_⟩; gi_at_call 64; refine (callsIn_wide.2 hBC.out).mono ?_; rintro e W3 ⟨vb, rfl, hv, bb3⟩; obtain ⟨ba, bc, rfl, _⟩ := hv.form) | (refine ⟨trivial, ?_⟩; gi_at_call 63; refine (back_in Fence.wide _ trivial rfl _ _ _ _).mono ?_; rintro e w' ⟨rfl, rfl⟩))
  have hbl : (brV u).length ≤ 4194304 := by have := brV_len u; omega
  obtain ⟨L, hL⟩ : ∃ L, L = brV u := ⟨_, rfl⟩
  have HPA : Hid (prB u.length (upB L L.length) = prV u) := by show _ = _; rw [hL]; exact prB_all (by omega)
  rw [← hL] at hv hbl ⊢
  clear hL hBC
  have hs3 := bb3.size
  have hB4 : Below w.heap.size w (W3.alloc (.cells #[.slice ba L.length bc] 22)) := (hB0.trans (bb3.mono hB0.size)).alloc (Nat.le_trans hB0.size hs3) _
  have h4b := Boxed.new W3 22 (.slice ba L.length bc)
  have hB34 : Below W3.heap.size W3 (W3.alloc (.cells #[.slice ba L.length bc] 22)) := (Below.refl _ _).alloc (Nat.le_refl _) _
  have b04 : Boxed (W3.alloc (.cells #[.slice ba L.length bc] 22)) w.heap.size 22 (.slice pa u.length pc) := Boxed.alloc ((bb3.block _ b0'.lt).trans b0') _
  have b14 : Boxed (W3.alloc (.cells #[.slice ba L.length bc] 22)) (w.heap.size + 1) 22 (.slice none 0 0) := Boxed.alloc ((bb3.block _ b1.lt).trans b1) _
  have hli := hv.lies.below hB34
  have hlo : ∀ k, (Value.slice ba L.length bc).ownBlock = some k → W2.heap.size ≤ k := fun k e => (hv.lt k e).1
  obtain ⟨H, hH⟩ : ∃ H, H = (W3.alloc (.cells #[.slice ba L.length bc] 22)).heap.size := ⟨_, rfl⟩
  have hH3 : H = W3.heap.size + 1 := by rw [hH]; simp
  obtain ⟨W4, hW4⟩ : ∃ W4, W3.alloc (.cells #[.slice ba L.length bc] 22) = W4 := ⟨_, rfl⟩
  rw [hW4] at hB4 h4b b04 b14 hli hH ⊢
  clear hW4 hc1 hB34
  have hS : ∀ W', Span W2.heap.size H W4 W' → W'.cell? ⟨W3.heap.size, 0, none⟩ = some (.slice ba L.length bc) ∧ Lies (Value.int .i64) W' (.slice ba L.length bc) L := fun W' h => by
    refine ⟨?_, hli.keep fun k hk hlt => h.2 k (hlo k hk) (by omega)⟩
    rw [← h4b.cell]
    exact World.cell?_of_block (h.2 W3.heap.size hs3 (by omega))
  refine wpIn_rangeFunc_ownG rfl (by omega) (gf := 69) (lb := #[.pointer (some ⟨W3.heap.size, 0, none⟩)]) rfl trivial (enters_of Try.func69 (by kernel_rfl) rfl)
    (back_stops Fence.wide _ trivial rfl (by omega) W3.heap.size W2.heap.size H ba bc L hbl _ (by omega) hS) Span.trans (span_b (by omega)) (Below.refl _ _) (fun _ => rfl)
    (fun pre W => (((∃ v, Boxed W (w.heap.size + 1) 22 v ∧ Has (Value.int .i64) 3 W H v (prB u.length pre)) ∧ Boxed W w.heap.size 22 (.slice pa u.length pc)) ∧ H ≤ W.heap.size) ∧ Below w.heap.size w W)
    (fun _ _ _ => False)
    (OwnFrom.and (OwnFrom.and (OwnFrom.and (Own.from (holds_own H (w.heap.size + 1) (prB u.length)) _) (Own.from (boxed_own' _ _) _)) (fun s X Y row h hg _ => Nat.le_trans h hg.size)) (ownFrom_below (Nat.le_refl _) (by omega)))
    (fun _ _ _ _ _ hs _ _ => hs)
    ⟨⟨⟨⟨_, b14, World.ownsRow_nil _ _ _ _⟩, b04⟩, by omega⟩, hB4⟩
    (fun x => { tmps := #[.slice pa u.length pc, .pointer (some ⟨w.heap.size, 0, none⟩), .slice none 0 0, .pointer (some ⟨w.heap.size + 1, 0, none⟩), undef, .int .i64 x.2, .slice pa u.length pc, .slice ba L.length bc, .func (.func 69) #[] #[.pointer (some ⟨W3.heap.size, 0, none⟩)], .int .i64 (x.1 : Int), .int .i64 x.2, undef, undef, undef, undef, undef, undef, undef, undef], defers := [] }) ?assign ?body ?done ?stop
  case assign =>
    intro l x W K hK
    gi_wp2
    exact hK
  case body =>
    rintro l pre x W ⟨⟨⟨⟨v, hv, hrow⟩, hb⟩, hsz⟩, hB⟩ hlt
    obtain ⟨va, vc, rfl, _⟩ := hrow.form
    have hc := hv.cell
    have hcb := hb.cell
    have HPL := Lib.hid (prB_len u.length pre)
    gi_wp2_with (gi_at_builtin; refine wpListIn_append_own _ rfl _ _ 22 rfl H 3 i0 (.int .i64 0) 1 8 Try.underlying22 hi hz0 hz1 hz2 rfl (by decide) _ _ _ rfl (World.ownsRow.alloc hrow _) ⟨W.heap.size, 0, none⟩ 1 1 [.int .i64 (wrap64 ((u.length : Int) - x.2))] rfl rfl (cell_one_new _ _ _) (by simp [Value.oneCell']) (by have := HPL.out; unfold maxLen; omega) (by have := HPL.out; omega) (by simp; omega) ?_; intro v' w1 hown' hgrow _; have hown2 : Has (Value.int .i64) 3 w1 H v' (prB u.length (pre ++ [x])) := by { rw [prB_snoc]; show World.ownsRow _ _ _ _ _ _ _; rw [List.length_append, List.map_append]; exact hown' }; obtain ⟨hv1, hv2, hr2, hk2, hsp2, hoth, hbl2⟩ := box_grown hv hrow hsz (show w.heap.size + 1 < W2.heap.size by omega) hown2 hgrow; have hc1 := hv1.cell; have hf1 := hv1.frozen; obtain ⟨g', cap', rfl⟩ := ownsRow_succ hown')
    exact ⟨hk2.from _, hsp2, ⟨⟨⟨_, hv2, hr2⟩, hoth _ _ hb (by omega)⟩, Nat.le_trans hsz hsp2.1⟩, hbl2 w hB (by omega) (by omega)⟩
  case done =>
    rintro D ys W hD rfl ⟨⟨⟨⟨v, hv, hrow⟩, hb⟩, hsz⟩, hB⟩ hK
    rw [HPA.out] at hrow
    have hc := hv.cell
    gi_wp2
    refine ⟨by simp, .inl ⟨_, _, rfl, run_takeDeferred hK, ?_⟩⟩
    refine ⟨_, results_tmp rfl _ _ _, v, rfl, ?_, hB.trans (belowK_b (w := w) (Nat.le_refl _) W D _ _ (by omega) hK rfl rfl)⟩
    exact Has.mono (ownsRow_putObj hrow _ hK rfl) (by omega)
  case stop =>
    rintro D c pre W _ _ h _
    exact h.elim
end Fac
end Go.Proofs.Ytojmlhcgghaceaa
