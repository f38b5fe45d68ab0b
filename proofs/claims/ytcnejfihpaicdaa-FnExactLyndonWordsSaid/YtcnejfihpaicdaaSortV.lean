/- A slice of parts of words of the call's own: what sorting it, cutting it off and clearing the rest leave of it. No conditions beyond those that each states. -/
import Derived.Test.YtcnejfihpaicdaaRowsV
import Derived.Test.YtcnejfihpaicdaaSort
import Derived.Laws.OwnMore
import Derived.Lib.SliceRun
namespace Go.Proofs.Ytcnejfihpaicdaa
open Go.ChangeShapes Go.WideShapes Go.ChangeAt Go.RowKit
open Go.PlainAid Plain
set_option linter.unusedVariables false
namespace Fac
open Seqs
/-- A slice that reads as a word in the world w0. -/
def Part (w0 : World) : Type := { p : Value × List Int // Lies (Value.int .i64) w0 p.1 p.2 }
def Part.v {w0 : World} (x : Part w0) : Value := x.1.1
def Part.k {w0 : World} (x : Part w0) : List Int := x.1.2
theorem Part.lies {w0 : World} (x : Part w0) : Lies (Value.int .i64) w0 x.v x.k := x.2
def Part.mk {w0 : World} {v : Value} {xs : List Int} (h : Lies (Value.int .i64) w0 v xs) : Part w0 := ⟨(v, xs), h⟩
theorem Part.one {w0 : World} (x : Part w0) : x.v.oneCell' = true := by
  obtain ⟨_, a, c, h, _⟩ := x.lies
  rw [h]
  rfl
theorem lies_none (w : World) : Lies (Value.int .i64) w (.slice none 0 0) [] := ⟨by simp, none, 0, rfl, fun _ => rfl, fun i x h => by simp at h⟩
instance (w0 : World) : Inhabited (Part w0) := ⟨⟨(.slice none 0 0, []), lies_none w0⟩⟩
section
variable {α : Type} {enc : α → Value} {e : TypeId} {w : World} {base : Nat} {xs : List α}
/-- What is behind the first kk elements may turn. -/
theorem own_tail {n cap g kk : Nat} : ∀ (vs : List Value) (o : Nat) (w : World) (X : List Value), kk ≤ o → w.ownsRow base e 1 (.slice (some ⟨g, 0, none⟩) n cap) n X → o + vs.length ≤ n → ∃ X', X'.take kk = X.take kk ∧ (w.setCells g o vs).ownsRow base e 1 (.slice (some ⟨g, 0, none⟩) n cap) n X' ∧ w.grownBy (w.setCells g o vs) (some g)
  | [], o, w, X, _, h, _ => ⟨X, rfl, h, World.grownBy.refl _ _⟩
  | u :: vs, o, w, X, hk, h, hl => by
    have hl' : o + 1 + vs.length ≤ n := by simp at hl; omega
    have h1 := h.stored o u
    obtain ⟨X', h2, h3, h4⟩ := own_tail (kk := kk) vs (o + 1) _ _ (by omega) h1.1 hl'
    refine ⟨X', ?_, h3, grown_trans' h1.2 h4⟩
    rw [h2, List.take_set, List.set_eq_of_length_le (by rw [List.length_take]; omega)]
/-- The slice cut off behind its first kk elements. -/
theorem own_cut {n cap g kk : Nat} {w : World} {X : List Value} (h : w.ownsRow base e 1 (.slice (some ⟨g, 0, none⟩) n cap) n X) (hk : kk ≤ n) : w.ownsRow base e 1 (.slice (some ⟨g, 0, none⟩) kk cap) kk (X.take kk) := by
  obtain ⟨hl, h⟩ := h
  rcases h with ⟨hv, _⟩ | ⟨g', cap', cur, hv, h1, h2, h3, h4, h5, h6⟩
  · cases hv
  · injection hv with e1 e2 e3
    injection e1 with e1
    injection e1 with e1
    subst e1; subst e3
    rw [Nat.mul_one] at hl h5 h6
    refine ⟨by rw [List.length_take]; omega, .inr ⟨g, cap, cur, rfl, h1, h2, by omega, h4, by omega, ?_⟩⟩
    rw [Nat.mul_one, ← h6, List.take_take, Nat.min_eq_left hk]
theorem has_cut {n cap g kk : Nat} {ys : List α} (h : Has enc e w base (.slice (some ⟨g, 0, none⟩) n cap) xs) (hn : n = xs.length) (hk : kk ≤ n) (hy : xs.take kk = ys) (vs : List Value) (hv : vs = [] ∨ kk + vs.length ≤ n) :
    Has enc e (w.setCells g kk vs) base (.slice (some ⟨g, 0, none⟩) kk cap) ys ∧ w.grownBy (w.setCells g kk vs) (some g) := by
  subst hn
  have h' : w.ownsRow base e 1 (.slice (some ⟨g, 0, none⟩) xs.length cap) xs.length (xs.map enc) := h
  obtain ⟨X', h1, h2, h3⟩ : ∃ X', X'.take kk = (xs.map enc).take kk ∧ (w.setCells g kk vs).ownsRow base e 1 (.slice (some ⟨g, 0, none⟩) xs.length cap) xs.length X' ∧ w.grownBy (w.setCells g kk vs) (some g) := by
    rcases hv with rfl | hv
    · exact ⟨_, rfl, h', World.grownBy.refl _ _⟩
    · exact own_tail vs kk w _ (Nat.le_refl _) h' hv
  refine ⟨?_, h3⟩
  have h4 := own_cut h2 hk
  rw [h1, ← List.map_take, hy] at h4
  show World.ownsRow _ _ _ _ _ _ _
  have : ys.length = kk := by rw [← hy, List.length_take]; omega
  rw [this]
  exact h4
/-- One element stored. -/
theorem has_store {n cap g : Nat} (h : Has enc e w base (.slice (some ⟨g, 0, none⟩) n cap) xs) (hn : n = xs.length) (j : Nat) (x : α) : Has enc e (w.setCell ⟨g, j, none⟩ (enc x)) base (.slice (some ⟨g, 0, none⟩) n cap) (xs.set j x) ∧ w.grownBy (w.setCell ⟨g, j, none⟩ (enc x)) (some g) := by
  subst hn
  have h' : w.ownsRow base e 1 (.slice (some ⟨g, 0, none⟩) xs.length cap) xs.length (xs.map enc) := h
  have h1 := h'.stored j (enc x)
  refine ⟨?_, h1.2⟩
  show World.ownsRow _ _ _ _ _ _ _
  rw [List.length_set, List.map_set]
  exact h1.1
end
open Go.Sort in
theorem holds_block {α : Type} [Inhabited α] {enc : α → Value} {w : World} {g : Nat} {cur : Array Value} {e : TypeId} {ss : List α} (hb : w.heap[g]? = some (.cells cur e (0, 0))) (ht : cur.toList.take ss.length = ss.map enc) : Holds enc w g 0 ss.toArray := by
  intro j hj
  have hj' : j < ss.length := by simpa using hj
  refine ⟨?_, by simp [World.frozen?, hb]⟩
  have h1 : (cur.toList.take ss.length)[j]? = (ss.map enc)[j]? := by rw [ht]
  rw [List.getElem?_take_of_lt hj'] at h1
  simp only [World.cell?, hb, Nat.zero_add]
  simp only [Option.isSome_none, Bool.false_eq_true, if_false]
  rw [← Array.getElem?_toList, h1]
  simp [hj']
open Go.Sort in
theorem heap_sorted {α : Type} [Inhabited α] {enc : α → Value} {w : World} {g n : Nat} {os : Array Obj} {cur : Array Value} {e : TypeId} {fr : Nat × Nat} (d : Array α) (hb : w.heap[g]? = some (.cells cur e fr)) :
    (grow (putRow enc (Sort.ahead w n) g 0 d) os).heap[g]? = some (.cells (putCells enc 0 d cur) e fr) := by
  have hg : g < w.heap.size := (Array.getElem?_eq_some_iff.1 hb).1
  rw [heap_grow_old _ _ (by simpa using hg)]
  simp [putRow, mapBlock, Sort.ahead, Array.getElem?_modify, hb, onCells]
open Go.Sort in
theorem grown_sorted {α : Type} [Inhabited α] {enc : α → Value} {w : World} {g n : Nat} {os : Array Obj} (d : Array α) : w.grownBy (grow (putRow enc (Sort.ahead w n) g 0 d) os) (some g) := by
  refine ⟨rfl, rfl, rfl, by simp, fun k hk hne => ?_⟩
  rw [heap_grow_old _ _ (by simpa using hk)]
  have : g ≠ k := fun e => hne (by rw [e])
  simp [putRow, mapBlock, Sort.ahead, Array.getElem?_modify, this]
open Go.Sort in
theorem take_put {α : Type} [Inhabited α] {enc : α → Value} (cur : Array Value) (ts : List α) (h : ts.length ≤ cur.size) : (putCells enc 0 ts.toArray cur).toList.take ts.length = ts.map enc := by
  apply List.ext_getElem?
  intro j
  by_cases hj : j < ts.length
  · rw [List.getElem?_take_of_lt hj, Array.getElem?_toList]
    simp [putCells, hj, show j < cur.size by omega]
  · rw [List.getElem?_take_eq_none (by omega), List.getElem?_eq_none (by simp; omega)]
open Go.Sort in
theorem own_sorted {α : Type} [Inhabited α] {enc : α → Value} {w : World} {base g cap n : Nat} {e : TypeId} {os : Array Obj} {cur : Array Value} {ss ts : List α} (hl : ts.length = ss.length) (hbase : base ≤ g) (hb : w.heap[g]? = some (.cells cur e (0, 0)))
    (h1 : ss.length ≤ cap) (h2 : cap ≤ maxLen) (h3 : cur.size = cap * 1) :
    (grow (putRow enc (Sort.ahead w n) g 0 ts.toArray) os).ownsRow base e 1 (.slice (some ⟨g, 0, none⟩) ss.length cap) ss.length (ts.map enc) :=
  ⟨by simp [hl], .inr ⟨g, cap, _, rfl, hbase, heap_sorted _ hb, h1, h2, by simp [putCells, h3], by rw [Nat.mul_one, ← hl]; exact take_put cur ts (by omega)⟩⟩
/-- The order that the comparison gives. -/
def cfP {w0 : World} (x y : Part w0) : Int := cmpW x.k y.k
theorem lt_yes {w0 : World} {x y : Part w0} : ltOf (cfP (w0 := w0)) x y = true ↔ cmpW x.k y.k < 0 := decide_eq_true_iff
theorem lt_no {w0 : World} {x y : Part w0} : ltOf (cfP (w0 := w0)) x y = false ↔ ¬ cmpW x.k y.k < 0 := decide_eq_false_iff_not
theorem cmpW_ntrans {u v t : List Int} (h1 : ¬ cmpW u v < 0) (h2 : ¬ cmpW v t < 0) : ¬ cmpW u t < 0 := fun h => by
  rcases cmpW_three u v with a | a | a
  · omega
  · have e := cmpW_zero _ _ a
    subst e
    exact h2 h
  · have a' : cmpW v u < 0 := by rw [cmpW_neg]; omega
    exact h2 (cmpW_trans _ _ _ a' h)
theorem swoP (w0 : World) : Sort.SWO (ltOf (cfP (w0 := w0))) where
  irrefl x := lt_no.2 (by rw [cmpW_self]; omega)
  trans x y z h1 h2 := lt_yes.2 (cmpW_trans _ _ _ (lt_yes.1 h1) (lt_yes.1 h2))
  ntrans x y z h1 h2 := lt_no.2 (cmpW_ntrans (lt_no.1 h1) (lt_no.1 h2))
/-- slices.SortFunc(words, CompareWords). -/
theorem sorted (v : Value) (w0 w : World) (L : List (Part w0)) (hb : Below w0.heap.size w0 w) (hv : Has Part.v 22 w w0.heap.size v L) (hn : L.length ≤ 100000) (h0 : 0 < L.length) :
    Calls Try.prog 57 #[v, .func (.func 58) #[] #[]] w fun e w' => e = .returned (.tuple #[]) ∧ ∃ L' : List (Part w0), L'.Perm L ∧ (L'.Pairwise fun x y => cmpW x.k y.k ≤ 0) ∧ Has Part.v 22 w' w0.heap.size v L' ∧ Below w0.heap.size w0 w' := by
  have eg : ∀ args w, (callFunc 58 args).run Try.prog w = .ok (.enter 58 args) w := enters_of Try.func58 (by kernel_rfl) rfl
  rcases hv.2 with ⟨_, hz⟩ | ⟨g, cap, cur, rfl, hg, hcur, h1, h2, h3, h4⟩
  · omega
  rw [Nat.mul_one] at h4
  have hH := holds_block (enc := Part.v) hcur h4
  have hglt : g < w.heap.size := (Array.getElem?_eq_some_iff.1 hcur).1
  have hcmp : Go.Proofs.CmpReads Try.prog 58 #[] Part.v (cfP (w0 := w0)) g 0 L.toArray.size w := fun m os dk hs x y => by
    have hgr : w.grownBy (Go.Proofs.sortWorld Part.v w g 0 m dk os) (some g) := grown_sorted dk
    have hb' : Below w0.heap.size w0 (Go.Proofs.sortWorld Part.v w g 0 m dk os) := hb.grown hgr hb.size (fun k hk => by cases hk; exact hg)
    refine (impl_cmp x.v y.v x.k y.k _ (x.lies.below hb') (y.lies.below hb')).mono fun e w' h => ⟨h.1, 0, ?_⟩
    rw [← h.2]
    rfl
  have hS := Go.Proofs.Any.slices_SortFunc Try.sortL Part.v (fun x => x.one) cfP (swoP w0) 58 #[] g 0 cap L.toArray w eg hcmp.lays hH hglt (by simp; omega)
  have hsz : L.toArray.size = L.length := by simp
  rw [hsz] at hS
  refine Calls.mono (show Calls Try.prog 57 #[.slice (some ⟨g, 0, none⟩) L.length cap, .func (.func 58) #[] #[]] w _ from hS) fun e w' ⟨he, d', n, os, hp, hs, hw⟩ => ⟨he, d'.toList, ?_, ?_, ?_, ?_⟩
  · have := hp.2.2
    rw [show d'.extract 0 L.length = d' from by rw [← hsz, ← hp.1]; simp, show L.toArray.extract 0 L.length = L.toArray from by simp] at this
    exact this
  · refine List.pairwise_iff_getElem.2 fun i j hi hj hij => ?_
    have hd : d'.size = L.length := by rw [hp.1, hsz]
    have h5 := lt_no.1 (hs i j (Nat.zero_le _) hij (by simpa [hd] using hj))
    rw [getElem!_pos d' j (by simpa using hj), getElem!_pos d' i (by simpa using hi)] at h5
    have h6 := cmpW_neg (d'.toList[i]).k (d'.toList[j]).k
    have h7 : ¬ cmpW (d'.toList[j]).k (d'.toList[i]).k < 0 := h5
    omega
  · have hd : d'.toList.length = L.length := by rw [Array.length_toList, hp.1, hsz]
    rw [hw]
    have h5 := own_sorted (enc := Part.v) (w := w) (base := w0.heap.size) (n := n) (os := os) (ss := L) (ts := d'.toList) hd hg hcur h1 h2 h3
    rw [show d'.toList.toArray = d' from by simp] at h5
    show World.ownsRow _ _ _ _ _ _ _
    rw [hd]
    exact h5
  · rw [hw]
    exact hb.grown (grown_sorted d') hb.size (fun k hk => by cases hk; exact hg)
theorem size_tr : Try.prog.elem 26 = 22 := by kernel_rfl
/-- 's[l:]' and 's[:h]' of a slice of rows of the call's own. -/
theorem slice_from (g n c l : Nat) (L : Int) (hl : l < n) (hc : n ≤ c) (hL : L = l) (W : World) : (Instr.slice 26 (.slice (some ⟨g, 0, none⟩) n c) (some (.int .i64 L)) none none).run Try.prog W = .ok (.slice (some ⟨g, l, none⟩) (n - l) (c - l)) W := by
  subst hL
  have := run_slice_l (P := Try.prog) (w := W) (t := 26) (a := some ⟨g, 0, none⟩) (len := n) (cap := c) (by rw [size_tr]; exact Try.underlying26) .i64 (l : Int) (by omega) (by omega)
  rw [this, size_tr]
  simp [go_sem, Result.andThen, show ¬ c = l from by omega, addr_plus]
theorem slice_to (g n c h : Nat) (hh : h ≤ c) (h0 : 0 < c) (W : World) : (Instr.slice 26 (.slice (some ⟨g, 0, none⟩) n c) none (some (.int .i64 (h : Int))) none).run Try.prog W = .ok (.slice (some ⟨g, 0, none⟩) h c) W := by
  have := run_slice_h (P := Try.prog) (w := W) (t := 26) (a := some ⟨g, 0, none⟩) (len := n) (cap := c) (by rw [size_tr]; exact Try.underlying26) .i64 (h : Int) (by omega) (by omega)
  rw [this, size_tr]
  simp [go_sem, Result.andThen, show ¬ c = 0 from by omega]
theorem zero_tr (w : World) : (zeroValue 22).run Try.prog w = .ok (.slice none 0 0) w := by kernel_rfl
/-- 'clear(s)', s a part of a slice of the call's own up to its end. -/
theorem run_clear {α : Type} {enc : α → Value} {e : TypeId} {w : World} {base g n c kk : Nat} {xs : List α} (h : Has enc e w base (.slice (some ⟨g, 0, none⟩) n c) xs) (hn : n = xs.length) (hk : kk < n) (ty : TypeId) (c' : Nat) :
    (Builtin.clear_ #[26] ty #[.slice (some ⟨g, kk, none⟩) (n - kk) c']).run Try.prog w = .ok (.tuple #[]) (w.setCells g kk (List.replicate (n - kk) (.slice none 0 0))) := by
  have h' : w.ownsRow base e 1 (.slice (some ⟨g, 0, none⟩) xs.length c) xs.length (xs.map enc) := by rw [hn] at h; exact h
  refine Lib.run_clear_slice w 26 22 ty (.slice none 0 0) Try.underlying26 zero_tr rfl rfl g kk (n - kk) c' (by omega) (fun j hj => ?_) fun j _ => h'.frozenAt (kk + j)
  rw [h'.cellAt (kk + j) (by omega)]
  simp [show kk + j < xs.length from by omega]
theorem has_cap {α : Type} {enc : α → Value} {e : TypeId} {w : World} {base n c : Nat} {a : Option Addr} {xs : List α} (h : Has enc e w base (.slice a n c) xs) : n = xs.length ∧ n ≤ c := by
  rcases h.2 with ⟨hv, hn⟩ | ⟨g, cap, cur, hv, _, _, hc, _⟩
  · injection hv with e1 e2 e3; omega
  · injection hv with e1 e2 e3; omega
end Fac
end Go.Proofs.Ytcnejfihpaicdaa
