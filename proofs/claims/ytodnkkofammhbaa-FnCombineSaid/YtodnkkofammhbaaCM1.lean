/- Several texts of this proof, one behind the other: each says ahead of it what it shows and under which conditions. -/
import Derived.WalkKit
import Derived.OwnWalk
import Derived.Lib.Hide
import Derived.Deep.RegionLaw
import Derived.Deep.QuietTactic
import Derived.Lib.OthersKept
import Derived.WalkSmall
import Derived.Below
import Derived.Laws.CopyOwn
import Derived.Laws.AppendOwnNone
import Derived.OneCell
import Derived.PlainAid
import Derived.Laws.BitsLemmas
import Derived.Laws.BytesArg
import Derived.Lib.Bytes
import Derived.Test.YtodnkkofammhbaaRows
import Derived.ProofKit
import Derived.OpenShut
import Derived.ShutString
import Derived.BigQuiet
import Derived.Laws.Bits128
/- Small laws for walks: append of new values onto a slice that the call owns, told with what stays below; a slice that the call owns as a list. No conditions beyond those that each states. -/
namespace Go.Proofs.Ytodnkkofammhbaa.Plain
open Go.RowKit

theorem addr_add (g j : Nat) : (⟨g, 0, none⟩ : Addr).add j = ⟨g, j, none⟩ := by unfold Addr.add; split <;> simp_all

/-- 'out = append(out, x, ..)' of values that lie in a block which the statement has just laid. -/
theorem append_new {P : Program} (w0 wr : World) {ops : Array Oper} {rest : List Oper} {o : Oper} {a : Act} {Q : Exit → Act → World → Prop} (hgd : o.guard = none) (s x : Operand) (t : TypeId)
    (ho : o.op = .call { callee := .builtin .append, args := #[s, x], argTypes := #[t, t] })
    (base : Nat) (e : TypeId) (i : TypeInfo) (z : Value) (bytes : Nat) (ht : P.underlying t = some (.slice e)) (hi : P.info? e = some i) (hz : i.zero = some z)
    (hsize : i.size = 1) (hby : i.bytes = bytes) (hzs : z.cells.size = 1)
    (v : Value) (n : Nat) (xs : List Value) (hs : a.eval s = v) (hown : wr.ownsRow base e 1 v n xs)
    (news : List Value) (c : Nat) (hx : a.eval x = .slice (some ⟨wr.heap.size, 0, none⟩) news.length c) (h1 : ∀ u ∈ news, u.oneCell' = true)
    (hbytes : (n + news.length) * bytes ≤ 140737488355328) (h63 : n + news.length ≤ 9223372036854775807) (hbel : Below w0.heap.size w0 wr) (hbase : w0.heap.size ≤ base) (hb2 : base ≤ wr.heap.size)
    (h : ∀ v' w', w'.ownsRow base e 1 v' (n + news.length) (xs ++ news) → Below w0.heap.size w0 w' → wpList P ops Q rest (a.put o.dst v') w') :
    wpList P ops Q (o :: rest) a (wr.alloc (.cells news.toArray e)) := by
  refine wpList_append_own _ hgd s x t ho base e i z 1 bytes ht hi hz hsize hby hzs (by decide) v n xs hs (hown.alloc _) ⟨wr.heap.size, 0, none⟩ news.length c news hx (by omega) ?_ h1 (by unfold maxLen; omega) hbytes (by simp; omega) ?_
  · intro j u hj
    rw [addr_add, cell_of_row _ wr.heap.size j news.toArray e (0, 0) (heap_alloc_new wr _)]
    simpa using hj
  · intro v' w' hown' hgrow _
    have hsz := hbel.size
    refine h v' w' hown' ((hbel.alloc hsz _).grown hgrow (by simp; omega) ?_)
    intro k hk
    have := (hown.alloc (.cells news.toArray e)).lt k hk
    omega

/-- The same, told with what may have changed: new blocks, and the slice's own block. -/
theorem append_grown {P : Program} (wr : World) {ops : Array Oper} {rest : List Oper} {o : Oper} {a : Act} {Q : Exit → Act → World → Prop} (hgd : o.guard = none) (s x : Operand) (t : TypeId)
    (ho : o.op = .call { callee := .builtin .append, args := #[s, x], argTypes := #[t, t] })
    (base : Nat) (e : TypeId) (i : TypeInfo) (z : Value) (bytes : Nat) (ht : P.underlying t = some (.slice e)) (hi : P.info? e = some i) (hz : i.zero = some z)
    (hsize : i.size = 1) (hby : i.bytes = bytes) (hzs : z.cells.size = 1)
    (v : Value) (n : Nat) (xs : List Value) (hs : a.eval s = v) (hown : wr.ownsRow base e 1 v n xs)
    (news : List Value) (c : Nat) (hx : a.eval x = .slice (some ⟨wr.heap.size, 0, none⟩) news.length c) (h1 : ∀ u ∈ news, u.oneCell' = true)
    (hbytes : (n + news.length) * bytes ≤ 140737488355328) (h63 : n + news.length ≤ 9223372036854775807) (hb2 : base ≤ wr.heap.size)
    (h : ∀ v' w', w'.ownsRow base e 1 v' (n + news.length) (xs ++ news) → wr.grownBy w' v.ownBlock → wpList P ops Q rest (a.put o.dst v') w') :
    wpList P ops Q (o :: rest) a (wr.alloc (.cells news.toArray e)) := by
  refine wpList_append_own _ hgd s x t ho base e i z 1 bytes ht hi hz hsize hby hzs (by decide) v n xs hs (hown.alloc _) ⟨wr.heap.size, 0, none⟩ news.length c news hx (by omega) ?_ h1 (by unfold maxLen; omega) hbytes (by simp; omega) ?_
  · intro j u hj
    rw [addr_add, cell_of_row _ wr.heap.size j news.toArray e (0, 0) (heap_alloc_new wr _)]
    simpa using hj
  · intro v' w' hown' hgrow _
    have hg0 := World.grownBy_alloc wr (.cells news.toArray e) v.ownBlock
    exact h v' w' hown' ⟨hgrow.os.trans hg0.os, hgrow.tape.trans hg0.tape, hgrow.output.trans hg0.output, Nat.le_trans hg0.size hgrow.size, fun k hk hne => (hgrow.block k (Nat.lt_of_lt_of_le hk hg0.size) hne).trans (hg0.block k hk hne)⟩

/-- The same inside a region that draws its order: the world is whatever it is; the new values lie in block g. -/
theorem step_append_at {P : Program} (w0 : World) {ops : Array Oper} {o : Oper} {a : Act} {wx : World} {K : Act → World → Prop} {Q : Exit → Act → World → Prop} {E : Prop}
    (hgd : o.guard = none) (s x : Operand) (t : TypeId) (hop : o.op = Op.call { callee := Callee.builtin Builtin.append, args := #[s, x], argTypes := #[t, t] })
    (base : Nat) (e : TypeId) (i : TypeInfo) (z : Value) (bytes : Nat) (ht : P.underlying t = some (.slice e)) (hi : P.info? e = some i) (hz : i.zero = some z)
    (hsize : i.size = 1) (hby : i.bytes = bytes) (hzs : z.cells.size = 1)
    (v : Value) (n : Nat) (xs : List Value) (hs : a.eval s = v) (hown : wx.ownsRow base e 1 v n xs)
    (news : List Value) (g c : Nat) (hx : a.eval x = .slice (some ⟨g, 0, none⟩) news.length c) (hnews : ∀ j u, news[j]? = some u → wx.cell? ⟨g, j, none⟩ = some u) (h1 : ∀ u ∈ news, u.oneCell' = true)
    (hbytes : (n + news.length) * bytes ≤ 140737488355328) (h63 : n + news.length ≤ 9223372036854775807) (hbel : Below w0.heap.size w0 wx) (hbase : w0.heap.size ≤ base) (hb2 : base ≤ wx.heap.size)
    (hK : ∀ v' w', w'.ownsRow base e 1 v' (n + news.length) (xs ++ news) → Below w0.heap.size w0 w' → K (a.put o.dst v') w') :
    if Region.wanted o (yielded ops a.tmps) = true then Oper.wp P o a wx K Q else E := by
  have hw : Region.wanted o (yielded ops a.tmps) = true := by simp [Region.wanted, hgd]
  rw [if_pos hw]
  refine wp_append_own _ s x t hop base e i z 1 bytes ht hi hz hsize hby hzs (by decide) v n xs hs hown ⟨g, 0, none⟩ news.length c news hx (by omega) ?_ h1 (by unfold maxLen; omega) hbytes hb2 ?_
  · intro j u hj
    rw [addr_add]
    exact hnews j u hj
  · intro v' w' hown' hgrow _
    have hsz := hbel.size
    refine hK v' w' hown' (hbel.grown hgrow hsz ?_)
    intro k hk
    have := hown.lt k hk
    omega
/-- A callee that leaves the world alone, called in a quiet region that stands behind another one. -/
theorem still_again {P : Program} {f : FuncId} {args : Array Value} {w : World} {i j : Nat} {v : Value} (c : ∀ W : World, Calls P f args W fun e w' => e = .returned v ∧ w' = W) :
    Calls P f args (w.drewN (i + j)) fun e w'' => e = .returned v ∧ ∃ m, w'' = w.drewN (i + m) :=
  (c _).mono fun _ _ ⟨he, hw⟩ => ⟨he, j, hw⟩
/-- A step of a string's iterator leaves every owned row owned. -/
theorem owns_iterAt {w : World} {base : Nat} {e : TypeId} {size : Nat} {v : Value} {n : Nat} {xs : List Value} (h : w.ownsRow base e size v n xs) {k : Nat} {s : ByteArray} {p0 : Nat} (hk : w.heap[k]? = some (.stringIter s p0)) (p : Nat) : (w.iterAt k s p).ownsRow base e size v n xs := by
  obtain ⟨h1, h2⟩ := h
  refine ⟨h1, ?_⟩
  rcases h2 with h2 | ⟨g, cap, cur, a, b, c, d⟩
  · exact .inl h2
  · have hne : g ≠ k := fun e => by rw [e, hk] at c; cases c
    exact .inr ⟨g, cap, cur, a, b, by rw [Lib.iterAt_other _ _ _ _ _ hne]; exact c, d⟩
/-- Two new values in a block that was just laid. -/
theorem two_cells (w : World) (e : TypeId) (a b : Value) : ∀ j u, [a, b][j]? = some u → (w.alloc (.cells #[a, b] e)).cell? ⟨w.heap.size, j, none⟩ = some u := by
  intro j u hj
  rw [cell_of_row _ w.heap.size j #[a, b] e (0, 0) (heap_alloc_new w _)]
  simpa using hj
theorem one_cell (w : World) (e : TypeId) (a : Value) : ∀ j u, [a][j]? = some u → (w.alloc (.cells #[a] e)).cell? ⟨w.heap.size, j, none⟩ = some u := by
  intro j u hj
  rw [cell_of_row _ w.heap.size j #[a] e (0, 0) (heap_alloc_new w _)]
  simpa using hj
end Go.Proofs.Ytodnkkofammhbaa.Plain
/- Slices as lists: what it is that a slice value reads as a list, and that the call owns one; what stays of both from world to world. No conditions beyond those that each fact states. -/
namespace Go.Proofs.Ytodnkkofammhbaa.Plain
open Go.RowKit

theorem addr_plus (b o j : Nat) : (⟨b, o, none⟩ : Addr).add j = ⟨b, o + j, none⟩ := by unfold Addr.add; split <;> simp_all
theorem set_mid {α : Type} (A C : List α) (b x : α) (n : Nat) (h : A.length = n) : (A ++ b :: C).set n x = A ++ x :: C := by subst h; simp
section
variable {α : Type} {enc : α → Value} {e : TypeId} {w w' : World} {base : Nat} {v : Value} {xs : List α}

/-- In w the slice v holds the list xs, an element a cell. -/
def Lies (enc : α → Value) (w : World) (v : Value) (xs : List α) : Prop :=
  xs.length ≤ 9223372036854775807 ∧ ∃ a cap, v = .slice a xs.length cap ∧ (a = none → cap = 0) ∧ ∀ i x, xs[i]? = some x → ∃ b off, a = some ⟨b, off, none⟩ ∧ w.cell? ⟨b, off + i, none⟩ = some (enc x)
/-- The slice v is the call's own, its block one from base on, and holds the list xs. -/
def Has (enc : α → Value) (e : TypeId) (w : World) (base : Nat) (v : Value) (xs : List α) : Prop := w.ownsRow base e 1 v xs.length (xs.map enc)
/-- A call that hands back a new slice with the list xs. -/
def Gives (enc : α → Value) (e : TypeId) (xs : List α) (w : World) (en : Ending) (w' : World) : Prop := ∃ v, en = .returned v ∧ Has enc e w' w.heap.size v xs ∧ Below w.heap.size w w'

theorem Has.form (h : Has enc e w base v xs) : ∃ a cap, v = .slice a xs.length cap ∧ (0 < xs.length → ∃ g, a = some ⟨g, 0, none⟩) := by
  rcases h.2 with ⟨rfl, hn⟩ | ⟨g, cap, cur, rfl, _⟩
  · exact ⟨none, 0, by rw [hn], fun h => by omega⟩
  · exact ⟨_, cap, rfl, fun _ => ⟨g, rfl⟩⟩
theorem Has.small (h : Has enc e w base v xs) : xs.length ≤ 9223372036854775807 := by
  rcases h.2 with ⟨rfl, hn⟩ | ⟨g, cap, cur, rfl, _, _, hc, hm, _⟩
  · omega
  · unfold maxLen at hm; omega
theorem Has.lies (h : Has enc e w base v xs) : Lies enc w v xs := by
  refine ⟨h.small, ?_⟩
  rcases h.2 with ⟨rfl, hn⟩ | ⟨g, cap, cur, rfl, hb, hg, hc, hm, hs, ht⟩
  · refine ⟨none, 0, by rw [hn], fun _ => rfl, fun i x hx => ?_⟩
    rw [List.eq_nil_of_length_eq_zero hn] at hx
    cases hx
  · refine ⟨_, cap, rfl, fun h => (by cases h), fun i x hx => ⟨g, 0, rfl, ?_⟩⟩
    have hi : i < xs.length := (List.getElem?_eq_some_iff.1 hx).1
    have h2 : w.ownsRow base e 1 (.slice (some ⟨g, 0, none⟩) xs.length cap) xs.length (xs.map enc) := h
    rw [Nat.zero_add, h2.cellAt i (by omega)]
    simp [hx]
theorem Lies.keep (h : Lies enc w v xs) (hk : ∀ k, v.ownBlock = some k → k < w.heap.size → w'.heap[k]? = w.heap[k]?) : Lies enc w' v xs := by
  obtain ⟨hl, a, cap, rfl, hn, hc⟩ := h
  refine ⟨hl, a, cap, rfl, hn, fun i x hx => ?_⟩
  obtain ⟨b, off, rfl, hcell⟩ := hc i x hx
  have hb : b < w.heap.size := World.block_lt_of_cell? w _ hcell
  exact ⟨b, off, rfl, by rw [← hcell]; exact World.cell?_of_block (hk b rfl hb)⟩
/-- What was there when the call began is there still. -/
theorem Lies.below (h : Lies enc w v xs) (hb : Below w.heap.size w w') : Lies enc w' v xs := h.keep fun k _ hk => hb.block k hk
theorem Lies.grown {row : Option Nat} (h : Lies enc w v xs) (hg : w.grownBy w' row) (hr : v.ownBlock = none ∨ v.ownBlock ≠ row) : Lies enc w' v xs :=
  h.keep fun k hk hlt => hg.block k hlt (by rintro rfl; simp [hk] at hr)
theorem Has.mono {base' : Nat} (h : Has enc e w base v xs) (hb : base' ≤ base) : Has enc e w base' v xs := ⟨h.1, h.2.imp id fun ⟨g, cap, cur, h1, h2, r⟩ => ⟨g, cap, cur, h1, Nat.le_trans hb h2, r⟩⟩
theorem Has.lt (h : Has enc e w base v xs) : ∀ k, v.ownBlock = some k → base ≤ k ∧ k < w.heap.size := World.ownsRow.lt h
theorem grown_of_below (hb : Below w.heap.size w w') : w.grownBy w' none := ⟨hb.os, hb.tape, hb.output, hb.size, fun k hk _ => hb.block k hk⟩
theorem below_of_grown (hb : w.grownBy w' none) : Below w.heap.size w w' := ⟨hb.os, hb.tape, hb.output, hb.size, fun k hk => hb.block k hk (by simp)⟩
theorem Has.below (h : Has enc e w base v xs) (hb : Below w.heap.size w w') : Has enc e w' base v xs := World.ownsRow.kept h (grown_of_below hb) (by cases v.ownBlock <;> simp)
theorem Has.grown {row : Option Nat} (h : Has enc e w base v xs) (hg : w.grownBy w' row) (hr : v.ownBlock = none ∨ v.ownBlock ≠ row) : Has enc e w' base v xs := World.ownsRow.kept h hg hr
/-- Two slices of the call's own that were made one behind the other share no block. -/
theorem Has.apart {β : Type} {enc' : β → Value} {e' : TypeId} {u : Value} {ys : List β} {b' : Nat} {w1 : World} (h : Has enc e w base v xs) (h' : Has enc' e' w1 b' u ys) (hb : w.heap.size ≤ b') :
    (u.ownBlock = none ∨ u.ownBlock ≠ v.ownBlock) ∧ (v.ownBlock = none ∨ v.ownBlock ≠ u.ownBlock) := by
  have h1 := h.lt
  have h2 := h'.lt
  cases hv : v.ownBlock with
  | none => exact ⟨by cases hu : u.ownBlock <;> simp, .inl rfl⟩
  | some p =>
    cases hu : u.ownBlock with
    | none => exact ⟨.inl rfl, .inr (by simp)⟩
    | some q =>
      have := h1 p hv
      have := h2 q hu
      exact ⟨.inr (by simp; omega), .inr (by simp; omega)⟩
theorem grown_trans' {w2 : World} {r : Option Nat} (h : w.grownBy w' r) (k : w'.grownBy w2 r) : w.grownBy w2 r :=
  ⟨k.os.trans h.os, k.tape.trans h.tape, k.output.trans h.output, Nat.le_trans h.size k.size, fun i hi hne => (k.block i (Nat.lt_of_lt_of_le hi h.size) hne).trans (h.block i hi hne)⟩
/-- What is written into a slice of the call's own touches nothing below. -/
theorem Has.frame {w0 : World} (h : Has enc e w base v xs) (hb : Below w0.heap.size w0 w) (hB : w0.heap.size ≤ base) (hg : w.grownBy w' v.ownBlock) : Below w0.heap.size w0 w' :=
  hb.grown hg hb.size (fun k hk => Nat.le_trans hB (h.lt k hk).1)
/-- 'append(v, u...)', v a slice of the call's own, u any slice. -/
theorem append_lies {P : Program} (w : World) {ops : Array Oper} {rest : List Oper} {o : Oper} {a : Act} {Q : Exit → Act → World → Prop} (hgd : o.guard = none) (s x : Operand) (t : TypeId)
    (ho : o.op = .call { callee := .builtin .append, args := #[s, x], argTypes := #[t, t] })
    (base : Nat) (i : TypeInfo) (z : Value) (bytes : Nat) (ht : P.underlying t = some (.slice e)) (hi : P.info? e = some i) (hz : i.zero = some z)
    (hsize : i.size = 1) (hby : i.bytes = bytes) (hzs : z.cells.size = 1)
    (v : Value) (xs : List α) (hs : a.eval s = v) (hown : Has enc e w base v xs) (u : Value) (ys : List α) (hx : a.eval x = u) (hu : Lies enc w u ys)
    (h1 : ∀ y : α, (enc y).oneCell' = true) (hbytes : (xs.length + ys.length) * bytes ≤ 140737488355328) (h63 : xs.length + ys.length ≤ 9223372036854775807) (hb2 : base ≤ w.heap.size)
    (h : ∀ v' w', Has enc e w' base v' (xs ++ ys) → w.grownBy w' v.ownBlock → wpList P ops Q rest (a.put o.dst v') w') :
    wpList P ops Q (o :: rest) a w := by
  obtain ⟨hl, A, cap, rfl, hnone, hc⟩ := hu
  have hh : ∀ v' w', w'.ownsRow base e 1 v' (xs.length + ys.length) (xs.map enc ++ ys.map enc) → w.grownBy w' v.ownBlock → wpList P ops Q rest (a.put o.dst v') w' := by
    intro v' w' ho' hg'
    refine h v' w' ?_ hg'
    show w'.ownsRow base e 1 v' _ _
    rw [List.length_append, List.map_append]
    exact ho'
  cases A with
  | none =>
    obtain rfl := hnone rfl
    have hy : ys = [] := by
      cases ys with
      | nil => rfl
      | cons y l => obtain ⟨_, _, h', _⟩ := hc 0 y rfl; cases h'
    subst hy
    exact wpList_append_own_none hgd s x t ho base e i 1 ht hi v xs.length (xs.map enc) hs hown hx (hh v w (by simpa [Has] using hown) (World.grownBy.refl w _))
  | some ad =>
    refine wpList_append_own w hgd s x t ho base e i z 1 bytes ht hi hz hsize hby hzs (by decide) v xs.length (xs.map enc) hs hown ad ys.length cap (ys.map enc) hx (by simp) ?_ ?_ (by unfold maxLen; omega) hbytes hb2 (fun v' w' h1 h2 _ => hh v' w' h1 h2)
    · intro j y hj
      rw [List.getElem?_map, Option.map_eq_some_iff] at hj
      obtain ⟨x', hx', rfl⟩ := hj
      obtain ⟨b, off, he, hcell⟩ := hc j x' hx'
      obtain rfl := Option.some.inj he
      rw [addr_plus]
      exact hcell
    · intro y hy
      obtain ⟨x', _, rfl⟩ := List.mem_map.1 hy
      exact h1 x'
/-- A slice literal that has just been laid. -/
theorem Has.lit (w : World) (cs : List α) (hb : base ≤ w.heap.size) (hm : cs.length ≤ 9223372036854775807) : Has enc e (w.alloc (.cells (cs.map enc).toArray e)) base (.slice (some ⟨w.heap.size, 0, none⟩) cs.length cs.length) cs := by
  have := World.ownsRow_lit (base := base) (e := e) (size := 1) w (cs.map enc).toArray cs.length hb (by unfold maxLen; omega) (by simp)
  simpa [Has] using this
/-- 'v = append(v, x)', v a slice of the call's own; the new value lies in a block that the statement has just laid. -/
theorem append_one {P : Program} (wr : World) {ops : Array Oper} {rest : List Oper} {o : Oper} {a : Act} {Q : Exit → Act → World → Prop} (hgd : o.guard = none) (s x : Operand) (t : TypeId)
    (ho : o.op = .call { callee := .builtin .append, args := #[s, x], argTypes := #[t, t] })
    (base : Nat) (i : TypeInfo) (z : Value) (bytes : Nat) (ht : P.underlying t = some (.slice e)) (hi : P.info? e = some i) (hz : i.zero = some z)
    (hsize : i.size = 1) (hby : i.bytes = bytes) (hzs : z.cells.size = 1)
    (v : Value) (xs : List α) (hs : a.eval s = v) (hown : Has enc e wr base v xs) (y : α) (hx : a.eval x = .slice (some ⟨wr.heap.size, 0, none⟩) 1 1)
    (h1 : ∀ y : α, (enc y).oneCell' = true) (hbytes : (xs.length + 1) * bytes ≤ 140737488355328) (h63 : xs.length + 1 ≤ 9223372036854775807) (hb2 : base ≤ wr.heap.size)
    (h : ∀ v' w', Has enc e w' base v' (xs ++ [y]) → wr.grownBy w' v.ownBlock → wpList P ops Q rest (a.put o.dst v') w') :
    wpList P ops Q (o :: rest) a (wr.alloc (.cells #[enc y] e)) := by
  have hlit : Has enc e (wr.alloc (.cells #[enc y] e)) wr.heap.size (.slice (some ⟨wr.heap.size, 0, none⟩) 1 1) [y] := Has.lit (enc := enc) (e := e) wr [y] (Nat.le_refl _) (by simp)
  refine append_lies (enc := enc) (e := e) _ hgd s x t ho base i z bytes ht hi hz hsize hby hzs v xs hs (hown.below ((Below.refl _ _).alloc (Nat.le_refl _) _)) _ [y] hx hlit.lies h1 hbytes h63 (by simp; omega) ?_
  intro v' w' ho' hg
  have hg0 := World.grownBy_alloc wr (.cells #[enc y] e) v.ownBlock
  exact h v' w' ho' (grown_trans' hg0 hg)
theorem take_mid {β : Type} (X R cs : List β) (off k : Nat) (hk : cs.length = k) (hf : off + k ≤ X.length) : ((X ++ R).take off ++ (cs ++ (X ++ R).drop (off + k))).take X.length = X.take off ++ (cs ++ X.drop (off + k)) := by
  have e1 : (X ++ R).take off = X.take off := List.take_append_of_le_length (by omega)
  have e2 : (X ++ R).drop (off + k) = X.drop (off + k) ++ R := List.drop_append_of_le_length hf
  rw [e1, e2]
  have h : X.length = (X.take off ++ (cs ++ X.drop (off + k))).length := by simp; omega
  rw [← List.append_assoc cs, ← List.append_assoc (X.take off), h]
  exact List.take_left
/-- 'copy(d, u)', d a part of a slice of the call's own, u any slice: k elements are laid over it from place off on. -/
theorem copy_has {P : Program} {w : World} {ops : Array Oper} {rest : List Oper} {o : Oper} {a : Act} {Q : Exit → Act → World → Prop} (hgd : o.guard = none) (d s : Operand) (dT sT : TypeId)
    (ho : o.op = .call { callee := .builtin .copy, args := #[d, s], argTypes := #[dT, sT] }) (hu : P.underlying dT = some (.slice e)) (hsz : (P.info? e).map (·.size) = some 1)
    (g n cap : Nat) (xs : List α) (hown : Has enc e w base (.slice (some ⟨g, 0, none⟩) n cap) xs)
    (dp : Option Addr) (dLen dCap : Nat) (hd : a.eval d = .slice dp dLen dCap) (u : Value) (ys : List α) (hs : a.eval s = u) (hl : Lies enc w u ys) (h1 : ∀ y : α, (enc y).oneCell' = true)
    (off k : Nat) (hk : k = min ys.length dLen) (hdp : 0 < k → dp = some ⟨g, off, none⟩) (hfit : off + k ≤ xs.length)
    (h : ∀ w', Has enc e w' base (.slice (some ⟨g, 0, none⟩) n cap) (xs.take off ++ (ys.take k ++ xs.drop (off + k))) → w.grownBy w' (some g) → wpList P ops Q rest (a.put o.dst (goInt k)) w') :
    wpList P ops Q (o :: rest) a w := by
  obtain ⟨_, A, c2, rfl, hnone, hc⟩ := hl
  rcases Nat.eq_zero_or_pos k with h0 | h0
  · subst h0
    refine wpList_copy_nothing hgd d s dT sT ho e hu hsz dp A dLen dCap ys.length c2 hd hs hk.symm ?_
    exact h w (by simpa [List.take_append_drop] using hown) (World.grownBy.refl _ _)
  · obtain rfl := hdp h0
    obtain ⟨y0, hy0⟩ : ∃ y, ys[0]? = some y := ⟨ys[0]'(by omega), List.getElem?_eq_getElem (by omega)⟩
    obtain ⟨b, o2, rfl, _⟩ := hc 0 y0 hy0
    have hown2 := hown
    rcases hown.2 with ⟨hv, _⟩ | ⟨g', cap', cur, hv, hbase, hg, hnc, hcm, hcs, htake⟩
    · cases hv
    · injection hv with e1 e2 e3
      injection e1 with e1
      injection e1 with e1
      subst e1; subst e3
      have hcs' : ((ys.take k).map enc).length = k := by simp; omega
      have hX : (xs.map enc).length = xs.length := by simp
      have hcur : cur.toList = xs.map enc ++ cur.toList.drop xs.length := by
        rw [Nat.mul_one] at htake
        rw [← htake, List.take_append_drop]
      have hlen : cur.toList.length = cap := by rw [Array.length_toList]; omega
      refine wpList_copy_own hgd d s dT sT ho e hu hsz g off dLen dCap ⟨b, o2, none⟩ ys.length c2 hd hs cur e hg ((ys.take k).map enc) (by rw [hcs', hk]) ?_ (by rw [hcs']; omega) ?_ ?_
      · intro j y hj
        rw [List.getElem?_map, List.getElem?_take] at hj
        split at hj
        · rw [Option.map_eq_some_iff] at hj
          obtain ⟨x', hx', rfl⟩ := hj
          obtain ⟨b', o', he, hcell⟩ := hc j x' hx'
          injection he with he
          injection he with he1 he2
          subst he1; subst he2
          rw [addr_plus]
          exact hcell
        · cases hj
      · intro y hy
        obtain ⟨x', _, rfl⟩ := List.mem_map.1 hy
        exact h1 x'
      · rw [hcs']
        subst e2
        have hl2 : (xs.take off ++ (ys.take k ++ xs.drop (off + k))).length = xs.length := by
          rw [List.length_append, List.length_append, List.length_take, List.length_take, List.length_drop]; omega
        have hsz2 : (cur.toList.take off ++ ((ys.take k).map enc ++ cur.toList.drop (off + k))).length = cap := by
          rw [List.length_append, List.length_append, hcs', List.length_take, List.length_drop, hlen]; omega
        refine h _ ?_ ⟨rfl, rfl, rfl, Nat.le_of_eq (size_setRow w g _).symm, fun i _ hi => setRow_other w g i _ (fun he => hi (by rw [he]))⟩
        show World.ownsRow _ base e 1 _ _ _
        rw [hl2]
        refine ⟨by rw [List.length_map, hl2, Nat.mul_one], .inr ⟨g, cap, _, rfl, hbase, setRow_heap w g cur _ e _ hg, by omega, hcm, by rw [List.size_toArray, hsz2, Nat.mul_one], ?_⟩⟩
        rw [Nat.mul_one]
        show (cur.toList.take off ++ ((ys.take k).map enc ++ cur.toList.drop (off + k))).take xs.length = _
        rw [hcur, ← hX, take_mid (xs.map enc) _ ((ys.take k).map enc) off k hcs' (by omega)]
        simp [List.map_take, List.map_drop]
end
end Go.Proofs.Ytodnkkofammhbaa.Plain
/- Slices of slices of ints and sequences as lists: what it is that such a value reads as lists, and that the call owns all of it in an interval of blocks; what stays of both from world to world. No conditions beyond those that each fact states. -/
namespace Go.Proofs.Ytodnkkofammhbaa.Plain
open Go.RowKit

/-- Only new blocks, and writes into blocks of the listed slices. -/
structure Wrote (us : List Value) (w w' : World) : Prop where
  os : w'.os = w.os
  tape : w'.tape = w.tape
  output : w'.output = w.output
  size : w.heap.size ≤ w'.heap.size
  block : ∀ k, k < w.heap.size → (∀ u ∈ us, u.ownBlock ≠ some k) → w'.heap[k]? = w.heap[k]?
theorem Wrote.refl (us : List Value) (w : World) : Wrote us w w := ⟨rfl, rfl, rfl, Nat.le_refl _, fun _ _ _ => rfl⟩
theorem Wrote.trans {us : List Value} {a b c : World} (h : Wrote us a b) (k : Wrote us b c) : Wrote us a c :=
  ⟨k.os.trans h.os, k.tape.trans h.tape, k.output.trans h.output, Nat.le_trans h.size k.size, fun i hi hn => (k.block i (Nat.lt_of_lt_of_le hi h.size) hn).trans (h.block i hi hn)⟩
theorem Wrote.mono {us us' : List Value} {w w' : World} (h : Wrote us w w') (hs : ∀ u ∈ us, u ∈ us') : Wrote us' w w' := ⟨h.os, h.tape, h.output, h.size, fun k hk hn => h.block k hk fun u hu => hn u (hs u hu)⟩
theorem Wrote.of_grown {w w' : World} {v : Value} (h : w.grownBy w' v.ownBlock) : Wrote [v] w w' := ⟨h.os, h.tape, h.output, h.size, fun k hk hn => h.block k hk fun e => hn v (by simp) e.symm⟩
theorem Wrote.of_below {us : List Value} {w w' : World} (h : Below w.heap.size w w') : Wrote us w w' := ⟨h.os, h.tape, h.output, h.size, fun k hk _ => h.block k hk⟩

/-- Only new blocks, and writes into the blocks from lo to hi. -/
structure Touch (lo hi : Nat) (w w' : World) : Prop where
  os : w'.os = w.os
  tape : w'.tape = w.tape
  output : w'.output = w.output
  size : w.heap.size ≤ w'.heap.size
  block : ∀ k, k < w.heap.size → (k < lo ∨ hi ≤ k) → w'.heap[k]? = w.heap[k]?
theorem Touch.trans {lo hi : Nat} {a b c : World} (h : Touch lo hi a b) (k : Touch lo hi b c) : Touch lo hi a c :=
  ⟨k.os.trans h.os, k.tape.trans h.tape, k.output.trans h.output, Nat.le_trans h.size k.size, fun i hi hn => (k.block i (Nat.lt_of_lt_of_le hi h.size) hn).trans (h.block i hi hn)⟩
theorem Touch.of_wrote {us : List Value} {lo hi : Nat} {w w' : World} (h : Wrote us w w') (hu : ∀ u ∈ us, ∀ k, u.ownBlock = some k → lo ≤ k ∧ k < hi) : Touch lo hi w w' :=
  ⟨h.os, h.tape, h.output, h.size, fun k hk hn => h.block k hk fun u hu' e => by have := hu u hu' k e; omega⟩
theorem Touch.below {lo hi : Nat} {w0 w w' : World} (h : Touch lo hi w w') (hb : Below w0.heap.size w0 w) (hlo : w0.heap.size ≤ lo) : Below w0.heap.size w0 w' :=
  ⟨h.os.trans hb.os, h.tape.trans hb.tape, h.output.trans hb.output, Nat.le_trans hb.size h.size, fun k hk => (h.block k (Nat.lt_of_lt_of_le hk hb.size) (.inl (by omega))).trans (hb.block k hk)⟩

theorem Touch.of_set {lo hi : Nat} {w : World} {a : Addr} (v : Value) (h1 : lo ≤ a.block) (h2 : a.block < hi) : Touch lo hi w (w.setCell a v) :=
  ⟨rfl, rfl, rfl, by simp [World.setCell], fun k _ hn => by
    have : a.block ≠ k := by omega
    simp [World.setCell, Array.getElem?_modify, this]⟩
/-- A slice of ints of the call's own, its block from lo to hi. -/
structure OwnI (w : World) (lo hi : Nat) (v : Value) (xs : List Int) : Prop where
  has : Has (Value.int .i64) 3 w lo v xs
  lt : ∀ k, v.ownBlock = some k → k < hi
  le : hi ≤ w.heap.size
theorem Has.of_same {α : Type} {enc : α → Value} {e : TypeId} {w w' : World} {base : Nat} {v : Value} {xs : List α} (h : Has enc e w base v xs) (hk : ∀ k, v.ownBlock = some k → w'.heap[k]? = w.heap[k]?) : Has enc e w' base v xs :=
  ⟨h.1, h.2.imp id fun ⟨g, cap, cur, h1, h2, h3, r⟩ => ⟨g, cap, cur, h1, h2, (hk g (by rw [h1]; rfl)).trans h3, r⟩⟩
theorem OwnI.lies {w : World} {lo hi : Nat} {v : Value} {xs : List Int} (h : OwnI w lo hi v xs) : Lies (Value.int .i64) w v xs := h.has.lies
theorem OwnI.range {w : World} {lo hi : Nat} {v : Value} {xs : List Int} (h : OwnI w lo hi v xs) : ∀ k, v.ownBlock = some k → lo ≤ k ∧ k < hi := fun k hk => ⟨(h.has.lt k hk).1, h.lt k hk⟩
theorem OwnI.below {w w' : World} {lo hi : Nat} {v : Value} {xs : List Int} (h : OwnI w lo hi v xs) (hb : Below w.heap.size w w') : OwnI w' lo hi v xs := ⟨h.has.below hb, h.lt, Nat.le_trans h.le hb.size⟩
theorem OwnI.touch {w w' : World} {lo hi lo' hi' : Nat} {v : Value} {xs : List Int} (h : OwnI w lo hi v xs) (ht : Touch lo' hi' w w') (hd : hi ≤ lo' ∨ hi' ≤ lo) : OwnI w' lo hi v xs :=
  ⟨h.has.of_same fun k hk => ht.block k (h.has.lt k hk).2 (by have := h.range k hk; omega), h.lt, Nat.le_trans h.le ht.size⟩
theorem OwnI.wrote {w w' : World} {lo hi : Nat} {v : Value} {xs : List Int} {us : List Value} (h : OwnI w lo hi v xs) (hw : Wrote us w w') (hn : ∀ u ∈ us, v.ownBlock = none ∨ v.ownBlock ≠ u.ownBlock) : OwnI w' lo hi v xs :=
  ⟨h.has.of_same fun k hk => hw.block k (h.has.lt k hk).2 (fun u hu e => by rcases hn u hu with h1 | h1 <;> simp_all), h.lt, Nat.le_trans h.le hw.size⟩
theorem OwnI.mono {w : World} {lo hi lo' hi' : Nat} {v : Value} {xs : List Int} (h : OwnI w lo hi v xs) (h1 : lo' ≤ lo) (h2 : hi ≤ hi') (h3 : hi' ≤ w.heap.size) : OwnI w lo' hi' v xs := ⟨h.has.mono h1, fun k hk => Nat.lt_of_lt_of_le (h.lt k hk) h2, h3⟩
theorem OwnI.of_gives {w w' : World} {v : Value} {xs : List Int} (h : Has (Value.int .i64) 3 w' w.heap.size v xs) : OwnI w' w.heap.size w'.heap.size v xs := ⟨h, fun k hk => (h.lt k hk).2, Nat.le_refl _⟩

/-- Rows of ints of the call's own, no two in one block. -/
structure OwnRows (w : World) (lo hi : Nat) (us : List Value) (rows : List (List Int)) : Prop where
  len : us.length = rows.length
  row : ∀ (i : Nat) (u : Value) (r : List Int), us[i]? = some u → rows[i]? = some r → OwnI w lo hi u r
  apart : ∀ (i j : Nat) (u u' : Value), us[i]? = some u → us[j]? = some u' → i ≠ j → u.ownBlock = none ∨ u.ownBlock ≠ u'.ownBlock
/-- In w the slice v holds the rows. -/
def LiesR (w : World) (v : Value) (rows : List (List Int)) : Prop := ∃ us : List Value, Lies id w v us ∧ us.length = rows.length ∧ ∀ (i : Nat) (u : Value) (r : List Int), us[i]? = some u → rows[i]? = some r → Lies (Value.int .i64) w u r
/-- In w the value v is the sequence with base b, the next states rows and the terms out. -/
def LiesS (w : World) (v : Value) (b : Int) (rows : List (List Int)) (out : List Int) : Prop := ∃ vn vo, v = .agg #[.int .i64 b, vn, vo] ∧ LiesR w vn rows ∧ Lies (Value.int .i64) w vo out
/-- The slice v of rows is the call's own, whole, in the blocks from lo to hi; us are the rows' values. -/
structure OwnR (w : World) (lo hi : Nat) (v : Value) (us : List Value) (rows : List (List Int)) : Prop where
  top : Has id 25 w lo v us
  lt : ∀ k, v.ownBlock = some k → k < hi
  le : hi ≤ w.heap.size
  rows : OwnRows w lo hi us rows
/-- The sequence v is the call's own, whole, in the blocks from lo to hi. -/
def OwnS (w : World) (lo hi : Nat) (v : Value) (b : Int) (rows : List (List Int)) (out : List Int) : Prop :=
  ∃ vn vo us, v = .agg #[.int .i64 b, vn, vo] ∧ OwnR w lo hi vn us rows ∧ OwnRows w lo hi (us ++ [vo]) (rows ++ [out])

theorem LiesR.below {w w' : World} {v : Value} {rows : List (List Int)} (h : LiesR w v rows) (hb : Below w.heap.size w w') : LiesR w' v rows := by
  obtain ⟨us, h1, h2, h3⟩ := h
  exact ⟨us, h1.below hb, h2, fun i u r hu hr => (h3 i u r hu hr).below hb⟩
theorem LiesS.below {w w' : World} {v : Value} {b : Int} {rows : List (List Int)} {out : List Int} (h : LiesS w v b rows out) (hb : Below w.heap.size w w') : LiesS w' v b rows out := by
  obtain ⟨vn, vo, h1, h2, h3⟩ := h
  exact ⟨vn, vo, h1, h2.below hb, h3.below hb⟩
theorem OwnRows.lies {w : World} {lo hi : Nat} {v : Value} {us : List Value} {rows : List (List Int)} (h : OwnRows w lo hi us rows) (ht : Lies id w v us) : LiesR w v rows := ⟨us, ht, h.len, fun i u r hu hr => (h.row i u r hu hr).lies⟩
theorem OwnR.lies {w : World} {lo hi : Nat} {v : Value} {us : List Value} {rows : List (List Int)} (h : OwnR w lo hi v us rows) : LiesR w v rows := h.rows.lies h.top.lies
theorem OwnRows.last {w : World} {lo hi : Nat} {us : List Value} {rows : List (List Int)} {vo : Value} {out : List Int} (h : OwnRows w lo hi (us ++ [vo]) (rows ++ [out])) : OwnI w lo hi vo out := by
  have hl : us.length = rows.length := by have := h.len; simpa using this
  exact h.row us.length vo out (by simp) (by rw [hl]; simp)
theorem OwnS.lies {w : World} {lo hi : Nat} {v : Value} {b : Int} {rows : List (List Int)} {out : List Int} (h : OwnS w lo hi v b rows out) : LiesS w v b rows out := by
  obtain ⟨vn, vo, us, h1, h2, h3⟩ := h
  exact ⟨vn, vo, h1, h2.lies, h3.last.lies⟩
theorem OwnRows.below {w w' : World} {lo hi : Nat} {us : List Value} {rows : List (List Int)} (h : OwnRows w lo hi us rows) (hb : Below w.heap.size w w') : OwnRows w' lo hi us rows := ⟨h.len, fun i u r hu hr => (h.row i u r hu hr).below hb, h.apart⟩
theorem OwnRows.touch {w w' : World} {lo hi lo' hi' : Nat} {us : List Value} {rows : List (List Int)} (h : OwnRows w lo hi us rows) (ht : Touch lo' hi' w w') (hd : hi ≤ lo' ∨ hi' ≤ lo) : OwnRows w' lo hi us rows := ⟨h.len, fun i u r hu hr => (h.row i u r hu hr).touch ht hd, h.apart⟩
theorem OwnR.below {w w' : World} {lo hi : Nat} {v : Value} {us : List Value} {rows : List (List Int)} (h : OwnR w lo hi v us rows) (hb : Below w.heap.size w w') : OwnR w' lo hi v us rows := ⟨h.top.below hb, h.lt, Nat.le_trans h.le hb.size, h.rows.below hb⟩
theorem OwnR.touch {w w' : World} {lo hi lo' hi' : Nat} {v : Value} {us : List Value} {rows : List (List Int)} (h : OwnR w lo hi v us rows) (ht : Touch lo' hi' w w') (hd : hi ≤ lo' ∨ hi' ≤ lo) : OwnR w' lo hi v us rows :=
  ⟨h.top.of_same fun k hk => ht.block k (h.top.lt k hk).2 (by have := (h.top.lt k hk).1; have := h.lt k hk; omega), h.lt, Nat.le_trans h.le ht.size, h.rows.touch ht hd⟩
theorem OwnS.below {w w' : World} {lo hi : Nat} {v : Value} {b : Int} {rows : List (List Int)} {out : List Int} (h : OwnS w lo hi v b rows out) (hb : Below w.heap.size w w') : OwnS w' lo hi v b rows out := by
  obtain ⟨vn, vo, us, h1, h2, h3⟩ := h
  exact ⟨vn, vo, us, h1, h2.below hb, h3.below hb⟩
theorem OwnS.touch {w w' : World} {lo hi lo' hi' : Nat} {v : Value} {b : Int} {rows : List (List Int)} {out : List Int} (h : OwnS w lo hi v b rows out) (ht : Touch lo' hi' w w') (hd : hi ≤ lo' ∨ hi' ≤ lo) : OwnS w' lo hi v b rows out := by
  obtain ⟨vn, vo, us, h1, h2, h3⟩ := h
  exact ⟨vn, vo, us, h1, h2.touch ht hd, h3.touch ht hd⟩
theorem OwnS.le {w : World} {lo hi : Nat} {v : Value} {b : Int} {rows : List (List Int)} {out : List Int} (h : OwnS w lo hi v b rows out) : hi ≤ w.heap.size := by
  obtain ⟨vn, vo, us, h1, h2, h3⟩ := h
  exact h2.le
/-- A row that the rows do not hold yet. -/
theorem OwnRows.snoc {w : World} {lo hi hi' : Nat} {us : List Value} {rows : List (List Int)} {u : Value} {r : List Int} (h : OwnRows w lo hi us rows) (hu : OwnI w hi hi' u r) (hlo : lo ≤ hi) (hle : hi ≤ hi') : OwnRows w lo hi' (us ++ [u]) (rows ++ [r]) := by
  refine ⟨by simp [h.len], fun i x y hx hy => ?_, fun i j x x' hx hx' hij => ?_⟩
  · by_cases hi' : i < us.length
    · rw [List.getElem?_append_left hi'] at hx
      rw [List.getElem?_append_left (by rw [← h.len]; exact hi')] at hy
      exact (h.row i x y hx hy).mono (Nat.le_refl _) hle hu.le
    · have e1 : i = us.length := by have := (List.getElem?_eq_some_iff.1 hx).1; simp at this; omega
      subst e1
      rw [List.getElem?_append_right (Nat.le_refl _)] at hx
      rw [h.len, List.getElem?_append_right (Nat.le_refl _)] at hy
      simp at hx hy
      subst hx; subst hy
      exact hu.mono hlo (Nat.le_refl _) hu.le
  · have old : ∀ (i : Nat) (x : Value), us[i]? = some x → ∀ k, x.ownBlock = some k → k < hi := fun i x hx k hk => by
      obtain ⟨r', hr'⟩ : ∃ r', rows[i]? = some r' := ⟨_, List.getElem?_eq_getElem (by rw [← h.len]; exact (List.getElem?_eq_some_iff.1 hx).1)⟩
      exact (h.row i x r' hx hr').lt k hk
    have new : ∀ k, u.ownBlock = some k → hi ≤ k := fun k hk => (hu.range k hk).1
    have at_ : ∀ (i : Nat) (x : Value), (us ++ [u])[i]? = some x → (i < us.length ∧ us[i]? = some x) ∨ (i = us.length ∧ x = u) := fun i x hx => by
      by_cases hi' : i < us.length
      · rw [List.getElem?_append_left hi'] at hx
        exact .inl ⟨hi', hx⟩
      · have e1 : i = us.length := by have := (List.getElem?_eq_some_iff.1 hx).1; simp at this; omega
        subst e1
        rw [List.getElem?_append_right (Nat.le_refl _)] at hx
        simp at hx
        exact .inr ⟨rfl, hx.symm⟩
    rcases at_ i x hx with ⟨h1, h2⟩ | ⟨h1, rfl⟩ <;> rcases at_ j x' hx' with ⟨h3, h4⟩ | ⟨h3, rfl⟩
    · exact h.apart i j x x' h2 h4 hij
    · cases hb : x.ownBlock with
      | none => exact .inl rfl
      | some k =>
        refine .inr fun e => ?_
        have := old i x h2 k hb
        have := new k e.symm
        omega
    · cases hb : x.ownBlock with
      | none => exact .inl rfl
      | some k =>
        refine .inr fun e => ?_
        have := old j x' h4 k e.symm
        have := new k hb
        omega
    · omega
theorem OwnRows.nil (w : World) (lo hi : Nat) : OwnRows w lo hi [] [] := ⟨rfl, fun i u r h => by simp at h, fun i j u u' h => by simp at h⟩
/-- The outer slice's block is no row's. -/
theorem Has.ne_top {w : World} {lo lo' : Nat} {v u : Value} {us : List Value} {xs : List Int} (ht : Has id 25 w lo v us) (h : Has (Value.int .i64) 3 w lo' u xs) : v.ownBlock = none ∨ v.ownBlock ≠ u.ownBlock := by
  rcases ht.2 with ⟨rfl, _⟩ | ⟨g, cap, cur, rfl, _, hg, _⟩
  · exact .inl rfl
  · rcases h.2 with ⟨rfl, _⟩ | ⟨g', cap', cur', rfl, _, hg', _⟩
    · exact .inr (by simp [Value.ownBlock])
    · refine .inr fun e => ?_
      have e1 : g = g' := by simpa [Value.ownBlock] using e
      subst e1
      rw [hg] at hg'
      simp at hg'
theorem Has.ne_row {w : World} {lo lo' : Nat} {v u : Value} {us : List Value} {xs : List Int} (ht : Has id 25 w lo v us) (h : Has (Value.int .i64) 3 w lo' u xs) : u.ownBlock = none ∨ u.ownBlock ≠ v.ownBlock := by
  rcases ht.ne_top h with h1 | h1
  · cases hu : u.ownBlock with
    | none => exact .inl rfl
    | some k => exact .inr (by rw [h1]; simp)
  · exact .inr (Ne.symm h1)
/-- How many numbers the rows hold. -/
def tot (rows : List (List Int)) : Nat := (rows.map List.length).sum
theorem tot_snoc (rows : List (List Int)) (r : List Int) : tot (rows ++ [r]) = tot rows + r.length := by simp [tot]
theorem tot_take (rows : List (List Int)) (i : Nat) (r : List Int) (h : rows[i]? = some r) : tot (rows.take (i + 1)) = tot (rows.take i) + r.length := by
  obtain ⟨hi, rfl⟩ := List.getElem?_eq_some_iff.1 h
  rw [List.take_succ_eq_append_getElem hi, tot_snoc]
theorem tot_take_le (rows : List (List Int)) (i : Nat) : tot (rows.take i) ≤ tot rows := by
  have : tot rows = tot (rows.take i) + tot (rows.drop i) := by
    simp only [tot, List.map_take, List.map_drop]
    rw [← List.sum_append, List.take_append_drop]
  omega
theorem row_le (rows : List (List Int)) (i : Nat) (r : List Int) (h : rows[i]? = some r) : r.length ≤ tot rows := by
  have := tot_take rows i r h
  have := tot_take_le rows (i + 1)
  omega
/-- A row's value, its cell in the outer slice, its own cells. -/
theorem LiesR.row {w : World} {v : Value} {rows : List (List Int)} (h : LiesR w v rows) : ∃ a cap, v = .slice a rows.length cap ∧ rows.length ≤ 9223372036854775807 ∧
    ∀ (i : Nat) (r : List Int), rows[i]? = some r → ∃ b off u, a = some ⟨b, off, none⟩ ∧ w.cell? ⟨b, off + i, none⟩ = some u ∧ Lies (Value.int .i64) w u r := by
  obtain ⟨us, ⟨hl, a, cap, rfl, hn, hc⟩, hlen, hrow⟩ := h
  refine ⟨a, cap, by rw [hlen], by omega, fun i r hr => ?_⟩
  have hi : i < us.length := by rw [hlen]; exact (List.getElem?_eq_some_iff.1 hr).1
  obtain ⟨b, off, rfl, hcell⟩ := hc i _ (List.getElem?_eq_getElem hi)
  exact ⟨b, off, _, rfl, hcell, hrow i _ r (List.getElem?_eq_getElem hi) hr⟩
/-- A write into the outer slice's block leaves the rows. -/
theorem OwnRows.top_grown {w w' : World} {lo lo' hi : Nat} {v : Value} {us xs : List Value} {rows : List (List Int)} (h : OwnRows w lo hi us rows) (ht : Has id 25 w lo' v xs) (hg : w.grownBy w' v.ownBlock) : OwnRows w' lo hi us rows :=
  ⟨h.len, fun i u r hu hr => (h.row i u r hu hr).wrote (Wrote.of_grown hg) (fun x hx => by
    obtain rfl : x = v := by simpa using hx
    exact ht.ne_row (h.row i u r hu hr).has), h.apart⟩
theorem OwnRows.mono {w : World} {lo hi hi' : Nat} {us : List Value} {rows : List (List Int)} (h : OwnRows w lo hi us rows) (h1 : hi ≤ hi') (h2 : hi' ≤ w.heap.size) : OwnRows w lo hi' us rows :=
  ⟨h.len, fun i u r hu hr => (h.row i u r hu hr).mono (Nat.le_refl _) h1 h2, h.apart⟩
theorem OwnRows.lower {w : World} {lo lo' hi : Nat} {us : List Value} {rows : List (List Int)} (h : OwnRows w lo hi us rows) (h1 : lo' ≤ lo) : OwnRows w lo' hi us rows :=
  ⟨h.len, fun i u r hu hr => (h.row i u r hu hr).mono h1 (Nat.le_refl _) (h.row i u r hu hr).le, h.apart⟩
theorem OwnS.make {w : World} {base lo mid hi : Nat} {vn vo : Value} {us : List Value} {b : Int} {rows : List (List Int)} {out : List Int} (h : OwnR w lo mid vn us rows) (ho : OwnI w mid hi vo out) (h0 : base ≤ lo) (h1 : lo ≤ mid) (h2 : mid ≤ hi) :
    OwnS w base hi (.agg #[.int .i64 b, vn, vo]) b rows out :=
  ⟨vn, vo, us, rfl, ⟨h.top.mono h0, fun k hk => Nat.lt_of_lt_of_le (h.lt k hk) h2, ho.le, (h.rows.lower h0).mono h2 ho.le⟩, (h.rows.snoc ho h1 h2).lower h0⟩
theorem LiesS.form {w : World} {v : Value} {b : Int} {rows : List (List Int)} {out : List Int} (h : LiesS w v b rows out) : ∃ an cn ao co, v = .agg #[.int .i64 b, .slice an rows.length cn, .slice ao out.length co] := by
  obtain ⟨vn, vo, rfl, ⟨us, ⟨_, an, cn, rfl, _⟩, hl, _⟩, ⟨_, ao, co, rfl, _⟩⟩ := h
  exact ⟨an, cn, ao, co, by rw [hl]⟩
/-- All of a sequence's cells, by their numbers. -/
theorem LiesS.parts {w : World} {v : Value} {b : Int} {rows : List (List Int)} {out : List Int} (h : LiesS w v b rows out) : ∃ an cn ao co, v = .agg #[.int .i64 b, .slice an rows.length cn, .slice ao out.length co] ∧
    (∀ (i : Nat) (r : List Int), rows[i]? = some r → ∃ p o a' c', an = some ⟨p, o, none⟩ ∧ w.cell? ⟨p, o + i, none⟩ = some (.slice a' r.length c') ∧ ∀ (k : Nat) (x : Int), r[k]? = some x → ∃ q s, a' = some ⟨q, s, none⟩ ∧ w.cell? ⟨q, s + k, none⟩ = some (.int .i64 x)) ∧
    ∀ (k : Nat) (x : Int), out[k]? = some x → ∃ q s, ao = some ⟨q, s, none⟩ ∧ w.cell? ⟨q, s + k, none⟩ = some (.int .i64 x) := by
  obtain ⟨vn, vo, rfl, hn, ⟨_, ao, co, rfl, _, hco⟩⟩ := h
  obtain ⟨an, cn, rfl, _, hc⟩ := hn.row
  refine ⟨an, cn, ao, co, rfl, fun i r hr => ?_, fun k x hx => ?_⟩
  · obtain ⟨p, o, u, h1, h2, ⟨_, a', c', rfl, _, h3⟩⟩ := hc i r hr
    refine ⟨p, o, a', c', h1, h2, fun k x hx => ?_⟩
    obtain ⟨q, s, h4, h5⟩ := h3 k x hx
    exact ⟨q, s, h4, h5⟩
  · obtain ⟨q, s, h4, h5⟩ := hco k x hx
    exact ⟨q, s, h4, h5⟩
/-- The same of a sequence whose slices are known by name. -/
theorem LiesS.cells {w : World} {b : Int} {rows : List (List Int)} {out : List Int} {an ao : Option Addr} {cn co : Nat} (h : LiesS w (.agg #[.int .i64 b, .slice an rows.length cn, .slice ao out.length co]) b rows out) :
    (∀ (i : Nat) (r : List Int), rows[i]? = some r → ∃ p o a' c', an = some ⟨p, o, none⟩ ∧ w.cell? ⟨p, o + i, none⟩ = some (.slice a' r.length c') ∧ ∀ (k : Nat) (x : Int), r[k]? = some x → ∃ q s, a' = some ⟨q, s, none⟩ ∧ w.cell? ⟨q, s + k, none⟩ = some (.int .i64 x)) ∧
    ∀ (k : Nat) (x : Int), out[k]? = some x → ∃ q s, ao = some ⟨q, s, none⟩ ∧ w.cell? ⟨q, s + k, none⟩ = some (.int .i64 x) := by
  obtain ⟨an', cn', ao', co', hv, h1, h2⟩ := h.parts
  injection hv with hv
  simp only [Array.mk.injEq, List.cons.injEq, Value.slice.injEq, true_and, and_true] at hv
  obtain ⟨⟨rfl, rfl⟩, rfl, rfl⟩ := hv
  exact ⟨h1, h2⟩
theorem OwnS.form {w : World} {lo hi : Nat} {v : Value} {b : Int} {rows : List (List Int)} {out : List Int} (h : OwnS w lo hi v b rows out) : ∃ an cn ao co, v = .agg #[.int .i64 b, .slice an rows.length cn, .slice ao out.length co] := h.lies.form
theorem OwnI.form {w : World} {lo hi : Nat} {v : Value} {xs : List Int} (h : OwnI w lo hi v xs) : ∃ a c, v = .slice a xs.length c := by
  obtain ⟨a, c, h1, _⟩ := h.has.form
  exact ⟨a, c, h1⟩
theorem below_drew' (w : World) : Below w.heap.size w w.drew := ⟨rfl, rfl, rfl, Nat.le_refl _, fun _ _ => rfl⟩
/-- A call that hands back a new slice of rows, a new sequence. -/
def GivesR (rows : List (List Int)) (w : World) (en : Ending) (w' : World) : Prop := ∃ v us, en = .returned v ∧ OwnR w' w.heap.size w'.heap.size v us rows ∧ Below w.heap.size w w'
def GivesS (b : Int) (rows : List (List Int)) (out : List Int) (w : World) (en : Ending) (w' : World) : Prop := ∃ v, en = .returned v ∧ OwnS w' w.heap.size w'.heap.size v b rows out ∧ Below w.heap.size w w'
theorem set_next (us : List Value) (n : Nat) (z x : Value) (h : us.length < n) : ((us ++ List.replicate (n - us.length) z).map id).set us.length (id x) = ((us ++ [x]) ++ List.replicate (n - (us.length + 1)) z).map id := by
  rw [show n - us.length = (n - (us.length + 1)) + 1 from by omega, List.replicate_succ, List.map_append, List.map_cons, set_mid _ _ _ _ us.length (by simp), List.append_assoc, List.map_append]
  rfl
theorem made_rows {w1 : World} {base n : Nat} {v : Value} (h : w1.ownsRow base 25 1 v n (madeCells (Value.slice none 0 0).cells (n * 1)).toList) : Has id 25 w1 base v (List.replicate n (.slice none 0 0)) := by
  rw [show (Value.slice none 0 0).cells = #[Value.slice none 0 0] from rfl, toList_madeCells_one] at h
  show w1.ownsRow _ _ _ _ _ _
  rw [List.length_replicate]
  simpa using h
end Go.Proofs.Ytodnkkofammhbaa.Plain
/- A struct of three cells that lies in a block of its own: what it holds, and what stays of it. No conditions beyond those that each fact states. -/
namespace Go.Proofs.Ytodnkkofammhbaa.Plain
open Go.RowKit
/-- Block b holds three cells. -/
structure Cells3 (w : World) (b : Nat) (t : TypeId) (x y z : Value) : Prop where
  row : w.heap[b]? = some (.cells #[x, y, z] t (0, 0))
section
variable {w w' : World} {b : Nat} {t : TypeId} {x y z : Value}
theorem Cells3.c0 (h : Cells3 w b t x y z) : w.cell? ⟨b, 0, none⟩ = some x := by simp [World.cell?, h.row]
theorem Cells3.c1 (h : Cells3 w b t x y z) : w.cell? ⟨b, 1, none⟩ = some y := by simp [World.cell?, h.row]
theorem Cells3.c2 (h : Cells3 w b t x y z) : w.cell? ⟨b, 2, none⟩ = some z := by simp [World.cell?, h.row]
theorem Cells3.f (h : Cells3 w b t x y z) (o : Nat) : w.frozen? ⟨b, o, none⟩ = false := frozen_of_row w b o _ t h.row
theorem Cells3.lt (h : Cells3 w b t x y z) : b < w.heap.size := by
  have h1 := h.row
  rw [Array.getElem?_eq_some_iff] at h1
  exact h1.1
theorem Cells3.new (w : World) (t : TypeId) (x y z : Value) : Cells3 (w.alloc (.cells #[x, y, z] t)) w.heap.size t x y z := ⟨heap_alloc_new w _⟩
theorem Cells3.below (h : Cells3 w b t x y z) (hb : Below w.heap.size w w') : Cells3 w' b t x y z := ⟨(hb.block b h.lt).trans h.row⟩
theorem Cells3.alloc (h : Cells3 w b t x y z) (o : Obj) : Cells3 (w.alloc o) b t x y z := h.below ((Below.refl _ _).alloc (Nat.le_refl _) _)
theorem Cells3.set0 (h : Cells3 w b t x y z) (v : Value) : Cells3 (w.setCell ⟨b, 0, none⟩ v) b t v y z := by
  have hlt := h.lt
  have h' : w.heap[b] = .cells #[x, y, z] t (0, 0) := by simpa [Array.getElem?_eq_getElem hlt] using h.row
  refine ⟨?_⟩
  show (w.heap.modify b _)[b]? = _
  rw [Array.getElem?_eq_getElem (by simpa using hlt), Array.getElem_modify_self, h']
  rfl
theorem Cells3.set1 (h : Cells3 w b t x y z) (v : Value) : Cells3 (w.setCell ⟨b, 1, none⟩ v) b t x v z := by
  have hlt := h.lt
  have h' : w.heap[b] = .cells #[x, y, z] t (0, 0) := by simpa [Array.getElem?_eq_getElem hlt] using h.row
  refine ⟨?_⟩
  show (w.heap.modify b _)[b]? = _
  rw [Array.getElem?_eq_getElem (by simpa using hlt), Array.getElem_modify_self, h']
  rfl
theorem Cells3.set2 (h : Cells3 w b t x y z) (v : Value) : Cells3 (w.setCell ⟨b, 2, none⟩ v) b t x y v := by
  have hlt := h.lt
  have h' : w.heap[b] = .cells #[x, y, z] t (0, 0) := by simpa [Array.getElem?_eq_getElem hlt] using h.row
  refine ⟨?_⟩
  show (w.heap.modify b _)[b]? = _
  rw [Array.getElem?_eq_getElem (by simpa using hlt), Array.getElem_modify_self, h']
  rfl
theorem Cells3.other (h : Cells3 w b t x y z) {a : Addr} (ha : a.block ≠ b) (v : Value) : Cells3 (w.setCell a v) b t x y z := by
  refine ⟨?_⟩
  rw [← h.row]
  simp [World.setCell, Array.getElem?_modify, ha]
theorem Cells3.touch {lo hi : Nat} (h : Cells3 w b t x y z) (ht : Plain.Touch lo hi w w') (hn : b < lo ∨ hi ≤ b) : Cells3 w' b t x y z := ⟨(ht.block b h.lt hn).trans h.row⟩
theorem Cells3.grown {row : Option Nat} (h : Cells3 w b t x y z) (hg : w.grownBy w' row) (hn : row ≠ some b) : Cells3 w' b t x y z := ⟨(hg.block b h.lt (Ne.symm hn)).trans h.row⟩
end
theorem size_alloc' (w : World) (o : Obj) : (w.alloc o).heap.size = w.heap.size + 1 := by simp
theorem size_setCell' (w : World) (a : Addr) (v : Value) : (w.setCell a v).heap.size = w.heap.size := by simp [World.setCell]
end Go.Proofs.Ytodnkkofammhbaa.Plain
/- Append and slice literals inside a statement whose order is drawn, told of slices as lists. No conditions beyond those that each fact states. -/
namespace Go.Proofs.Ytodnkkofammhbaa.Plain
open Go.RowKit
section
variable {α : Type} {enc : α → Value} {e : TypeId}
/-- Append inside a drawn region: onto a slice of the call's own, of any slice that reads as a list. -/
theorem step_append_list {P : Program} {ops : Array Oper} {o : Oper} {a : Act} {wx : World} {K : Act → World → Prop} {Q : Exit → Act → World → Prop} {E : Prop}
    (hgd : o.guard = none) (s x : Operand) (t : TypeId) (hop : o.op = Op.call { callee := Callee.builtin Builtin.append, args := #[s, x], argTypes := #[t, t] })
    (base : Nat) (i : TypeInfo) (z : Value) (bytes : Nat) (ht : P.underlying t = some (.slice e)) (hi : P.info? e = some i) (hz : i.zero = some z)
    (hsize : i.size = 1) (hby : i.bytes = bytes) (hzs : z.cells.size = 1)
    (v : Value) (xs : List α) (hs : a.eval s = v) (hown : Has enc e wx base v xs) (u : Value) (ys : List α) (hx : a.eval x = u) (hu : Lies enc wx u ys)
    (h1 : ∀ y ∈ ys, (enc y).oneCell' = true) (hbytes : (xs.length + ys.length) * bytes ≤ 140737488355328) (h63 : xs.length + ys.length ≤ 9223372036854775807) (hb2 : base ≤ wx.heap.size)
    (hK : ∀ v' w', Has enc e w' base v' (xs ++ ys) → wx.grownBy w' v.ownBlock → K (a.put o.dst v') w') :
    if Region.wanted o (yielded ops a.tmps) = true then Oper.wp P o a wx K Q else E := by
  have hw : Region.wanted o (yielded ops a.tmps) = true := by simp [Region.wanted, hgd]
  rw [if_pos hw]
  obtain ⟨hl, A, cap, rfl, hnone, hc⟩ := hu
  have hh : ∀ v' w', w'.ownsRow base e 1 v' (xs.length + ys.length) (xs.map enc ++ ys.map enc) → wx.grownBy w' v.ownBlock → K (a.put o.dst v') w' := by
    intro v' w' ho' hg'
    refine hK v' w' ?_ hg'
    show w'.ownsRow base e 1 v' _ _
    rw [List.length_append, List.map_append]
    exact ho'
  cases A with
  | none =>
    obtain rfl := hnone rfl
    have hy : ys = [] := by
      cases ys with
      | nil => rfl
      | cons y l => obtain ⟨_, _, h', _⟩ := hc 0 y rfl; cases h'
    subst hy
    have hrun := run_append_owned_none (P := P) (w := wx) base t o.type e i 1 ht hi v xs.length (xs.map enc) hown
    unfold Oper.wp
    simp only [List.length_nil] at hx
    simp [execOp, hop, resolve, invoke, builtin, hs, hx, hrun, Result.andThen]
    exact hh v wx (by simpa [Has] using hown) (World.grownBy.refl wx _)
  | some ad =>
    refine wp_append_own _ s x t hop base e i z 1 bytes ht hi hz hsize hby hzs (by decide) v xs.length (xs.map enc) hs hown ad ys.length cap (ys.map enc) hx (by simp) ?_ ?_ (by unfold maxLen; omega) hbytes hb2 (fun v' w' h1 h2 _ => hh v' w' h1 h2)
    · intro j y hj
      rw [List.getElem?_map, Option.map_eq_some_iff] at hj
      obtain ⟨x', hx', rfl⟩ := hj
      obtain ⟨b, off, he, hcell⟩ := hc j x' hx'
      obtain rfl := Option.some.inj he
      rw [addr_plus]
      exact hcell
    · intro y hy
      obtain ⟨x', hx', rfl⟩ := List.mem_map.1 hy
      exact h1 x' hx'
end
end Go.Proofs.Ytodnkkofammhbaa.Plain
/- What stays of slices, rows and structs behind a draw, a new block, a write elsewhere; rows and a slice in intervals that do not meet. No conditions beyond those that each fact states. -/
namespace Go.Proofs.Ytodnkkofammhbaa.Plain
open Go.RowKit
theorem with_fact {T G : Prop} (h : T) (k : T → G) : G := k h
section
variable {α : Type} {enc : α → Value} {e : TypeId} {w w1 : World} {v : Value} {xs : List α} {base : Nat}
theorem lies_drew (h : Lies enc w v xs) : Lies enc w.drew v xs := h.below (below_drew' w)
theorem lies_alloc (h : Lies enc w v xs) (o : Obj) : Lies enc (w.alloc o) v xs := h.below ((Below.refl _ _).alloc (Nat.le_refl _) _)
theorem has_drew (h : Has enc e w base v xs) : Has enc e w.drew base v xs := h.below (below_drew' w)
theorem has_alloc (h : Has enc e w base v xs) (o : Obj) : Has enc e (w.alloc o) base v xs := h.below ((Below.refl _ _).alloc (Nat.le_refl _) _)
/-- An empty slice literal that has just been laid, a literal of one element. -/
theorem has_lit0 {g : Nat} (hg : g = w.heap.size) (hb : base ≤ g) : Has enc e (w.alloc (.cells #[] e)) base (.slice (some ⟨g, 0, none⟩) 0 0) [] := by
  subst hg
  exact Has.lit (enc := enc) (e := e) w [] hb (by simp)
theorem lies_lit1 {g : Nat} (x : α) (hg : g = w.heap.size) : Lies enc (w.alloc (.cells #[enc x] e)) (.slice (some ⟨g, 0, none⟩) 1 1) [x] := by
  subst hg
  exact (Has.lit (enc := enc) (e := e) (base := w.heap.size) w [x] (Nat.le_refl _) (by simp)).lies
theorem has_lit1 {g : Nat} (x : α) (hg : g = w.heap.size) (hb : base ≤ g) : Has enc e (w.alloc (.cells #[enc x] e)) base (.slice (some ⟨g, 0, none⟩) 1 1) [x] := by
  subst hg
  exact Has.lit (enc := enc) (e := e) w [x] hb (by simp)
theorem lies_lit1v {w : World} {e : TypeId} {g : Nat} (x : Value) (hg : g = w.heap.size) : Lies id (w.alloc (.cells #[x] e)) (.slice (some ⟨g, 0, none⟩) 1 1) [x] := lies_lit1 (enc := id) x hg
theorem c3_of_below {w w' : World} {B b : Nat} {t : TypeId} {x y z : Value} (h : Below B w w') (hc : Cells3 w b t x y z) (hb : b < B) : Cells3 w' b t x y z := ⟨(h.block b hb).trans hc.row⟩
end
section
variable {w w1 : World} {b : Nat} {t : TypeId} {x y z : Value}
theorem c3_new' (h : b = w.heap.size) : Cells3 (w.alloc (.cells #[x, y, z] t)) b t x y z := by
  subst h
  exact Cells3.new w t x y z
theorem c3_drew (h : Cells3 w b t x y z) : Cells3 w.drew b t x y z := ⟨h.row⟩
theorem c3_all (h : Cells3 w b t x y z) : w.cell? ⟨b, 0, none⟩ = some x ∧ w.cell? ⟨b, 1, none⟩ = some y ∧ w.cell? ⟨b, 2, none⟩ = some z := ⟨h.c0, h.c1, h.c2⟩
/-- A slice's block and a struct's block are two, where their types are. -/
theorem has_ne_c3 {α : Type} {enc : α → Value} {e : TypeId} {v : Value} {xs : List α} {base : Nat} (h : Has enc e w base v xs) (hc : Cells3 w b t x y z) (hne : e ≠ t) : v.ownBlock ≠ some b := by
  rcases h.2 with ⟨rfl, _⟩ | ⟨g, cap, cur, rfl, _, hg, _⟩
  · intro h; cases h
  · intro h
    have e1 : g = b := by simpa [Value.ownBlock] using h
    subst e1
    rw [hc.row] at hg
    simp at hg
    exact hne hg.2.symm
end
theorem grown_alloc {w w1 : World} {o : Obj} {r : Option Nat} (h : (w.alloc o).grownBy w1 r) : w.grownBy w1 r := grown_trans' (World.grownBy_alloc w o r) h
theorem grown_drew {w w1 : World} {r : Option Nat} (h : w.drew.grownBy w1 r) : w.grownBy w1 r := ⟨h.os, h.tape, h.output, h.size, h.block⟩
theorem OwnI.grown {w w' : World} {lo hi : Nat} {v : Value} {xs : List Int} {r : Option Nat} (h : OwnI w lo hi v xs) (hg : w.grownBy w' r) (hr : ∀ k, r = some k → k < lo ∨ hi ≤ k) : OwnI w' lo hi v xs :=
  ⟨h.has.of_same fun k hk => hg.block k (h.has.lt k hk).2 (fun e => by have := h.range k hk; have := hr k e.symm; omega), h.lt, Nat.le_trans h.le hg.size⟩
/-- A write into a block that is not the slice's. -/
theorem OwnI.set {w : World} {lo hi : Nat} {v : Value} {xs : List Int} (h : OwnI w lo hi v xs) {a : Addr} (ha : v.ownBlock ≠ some a.block) (u : Value) : OwnI (w.setCell a u) lo hi v xs :=
  ⟨h.has.of_same fun k hk => by
    have : a.block ≠ k := fun e => ha (by rw [hk, e])
    simp [World.setCell, Array.getElem?_modify, this], h.lt, by simpa [World.setCell] using h.le⟩
theorem OwnRows.set {w : World} {lo hi : Nat} {us : List Value} {rows : List (List Int)} (h : OwnRows w lo hi us rows) {a : Addr} (ha : ∀ u ∈ us, u.ownBlock ≠ some a.block) (x : Value) : OwnRows (w.setCell a x) lo hi us rows :=
  ⟨h.len, fun i u r hu hr => (h.row i u r hu hr).set (ha u (List.mem_of_getElem? hu)) x, h.apart⟩
theorem Has.set {α : Type} {enc : α → Value} {e : TypeId} {w : World} {base : Nat} {v : Value} {xs : List α} (h : Has enc e w base v xs) {a : Addr} (ha : v.ownBlock ≠ some a.block) (u : Value) : Has enc e (w.setCell a u) base v xs :=
  h.of_same fun k hk => by
    have : a.block ≠ k := fun e => ha (by rw [hk, e])
    simp [World.setCell, Array.getElem?_modify, this]
/-- No row lies in a struct's block. -/
theorem OwnRows.ne_c3 {w : World} {lo hi : Nat} {us : List Value} {rows : List (List Int)} (h : OwnRows w lo hi us rows) {b : Nat} {t : TypeId} {x y z : Value} (hc : Cells3 w b t x y z) (hne : (3 : Nat) ≠ t) : ∀ u ∈ us, u.ownBlock ≠ some b := fun u hu => by
  obtain ⟨i, hi⟩ := List.getElem?_of_mem hu
  obtain ⟨r, hr⟩ : ∃ r, rows[i]? = some r := ⟨_, List.getElem?_eq_getElem (by rw [← h.len]; exact (List.getElem?_eq_some_iff.1 hi).1)⟩
  exact has_ne_c3 (h.row i u r hi hr).has hc hne
/-- A slice beside rows, in an interval that does not meet theirs. -/
theorem OwnRows.snoc_apart {w : World} {lo hi lo' hi' L H : Nat} {us : List Value} {rows : List (List Int)} {u : Value} {r : List Int} (h : OwnRows w lo hi us rows) (hu : OwnI w lo' hi' u r) (hd : hi ≤ lo' ∨ hi' ≤ lo) (h1 : L ≤ lo) (h2 : L ≤ lo') (h3 : hi ≤ H) (h4 : hi' ≤ H) (h5 : H ≤ w.heap.size) : OwnRows w L H (us ++ [u]) (rows ++ [r]) := by
  refine ⟨by simp [h.len], fun i x y hx hy => ?_, fun i j x x' hx hx' hij => ?_⟩
  · by_cases hi' : i < us.length
    · rw [List.getElem?_append_left hi'] at hx
      rw [List.getElem?_append_left (by rw [← h.len]; exact hi')] at hy
      exact (h.row i x y hx hy).mono h1 h3 h5
    · have e1 : i = us.length := by have := (List.getElem?_eq_some_iff.1 hx).1; simp at this; omega
      subst e1
      rw [List.getElem?_append_right (Nat.le_refl _)] at hx
      rw [h.len, List.getElem?_append_right (Nat.le_refl _)] at hy
      simp at hx hy
      subst hx; subst hy
      exact hu.mono h2 h4 h5
  · have old : ∀ (i : Nat) (x : Value), us[i]? = some x → ∀ k, x.ownBlock = some k → lo ≤ k ∧ k < hi := fun i x hx k hk => by
      obtain ⟨r', hr'⟩ : ∃ r', rows[i]? = some r' := ⟨_, List.getElem?_eq_getElem (by rw [← h.len]; exact (List.getElem?_eq_some_iff.1 hx).1)⟩
      exact (h.row i x r' hx hr').range k hk
    have new : ∀ k, u.ownBlock = some k → lo' ≤ k ∧ k < hi' := fun k hk => hu.range k hk
    have at_ : ∀ (i : Nat) (x : Value), (us ++ [u])[i]? = some x → (i < us.length ∧ us[i]? = some x) ∨ (i = us.length ∧ x = u) := fun i x hx => by
      by_cases hi' : i < us.length
      · rw [List.getElem?_append_left hi'] at hx
        exact .inl ⟨hi', hx⟩
      · have e1 : i = us.length := by have := (List.getElem?_eq_some_iff.1 hx).1; simp at this; omega
        subst e1
        rw [List.getElem?_append_right (Nat.le_refl _)] at hx
        simp at hx
        exact .inr ⟨rfl, hx.symm⟩
    rcases at_ i x hx with ⟨h1, h2⟩ | ⟨h1, rfl⟩ <;> rcases at_ j x' hx' with ⟨h3, h4⟩ | ⟨h3, rfl⟩
    · exact h.apart i j x x' h2 h4 hij
    · cases hb : x.ownBlock with
      | none => exact .inl rfl
      | some k =>
        refine .inr fun e => ?_
        have := old i x h2 k hb
        have := new k e.symm
        omega
    · cases hb : x.ownBlock with
      | none => exact .inl rfl
      | some k =>
        refine .inr fun e => ?_
        have := old j x' h4 k e.symm
        have := new k hb
        omega
    · omega
/-- A sequence whose terms were laid ahead of its rows. -/
theorem OwnS.make_out {w : World} {base lo mid hi : Nat} {vn vo : Value} {us : List Value} {b : Int} {rows : List (List Int)} {out : List Int} (ho : OwnI w lo mid vo out) (h : OwnR w mid hi vn us rows) (h0 : base ≤ lo) (h1 : lo ≤ mid) (h2 : mid ≤ hi) :
    OwnS w base hi (.agg #[.int .i64 b, vn, vo]) b rows out :=
  ⟨vn, vo, us, rfl, ⟨h.top.mono (Nat.le_trans h0 h1), h.lt, h.le, h.rows.lower (Nat.le_trans h0 h1)⟩, h.rows.snoc_apart ho (.inr (Nat.le_refl _)) (Nat.le_trans h0 h1) h0 (Nat.le_refl _) h2 h.le⟩
end Go.Proofs.Ytodnkkofammhbaa.Plain
/- Append told with the block that the result lies in; the terms of a sequence kept ahead of its rows while both grow. No conditions beyond those that each fact states. -/
namespace Go.Proofs.Ytodnkkofammhbaa.Plain
open Go.RowKit
/-- The result of an append lies where the slice lay, or in a new block. -/
theorem append_block {P : Program} {w : World} {base : Nat} {t ty e : TypeId} {i : TypeInfo} {z : Value} {bytes : Nat} (ht : P.underlying t = some (.slice e)) (hi : P.info? e = some i) (hz : i.zero = some z)
    (hsize : i.size = 1) (hby : i.bytes = bytes) (hzs : z.cells.size = 1) {v : Value} {n : Nat} {xs : List Value} (hown : w.ownsRow base e 1 v n xs)
    {a : Addr} {m c : Nat} {news : List Value} (hl : news.length = m * 1) (hnews : ∀ j u, news[j]? = some u → w.cell? (a.add j) = some u) (h1 : ∀ u ∈ news, u.oneCell' = true)
    (h63 : n + m ≤ maxLen) (hbytes : (n + m) * bytes ≤ 140737488355328) {v' : Value} {w' : World} (hr : (Builtin.append_ #[t, t] ty #[v, .slice (some a) m c]).run P w = .ok v' w') :
    ∀ k, v'.ownBlock = some k → v.ownBlock = some k ∨ w.heap.size ≤ k := by
  intro k hk
  rcases hown.2 with ⟨rfl, rfl⟩ | ⟨g, cap, cur, rfl, hbg, hg, hnc, hcm, hcs, htake⟩
  · obtain ⟨v1, w1, hr1, ho1, _⟩ := run_append_own (P := P) w w.heap.size t ty e i z 1 bytes ht hi hz hsize hby hzs (by decide) (.slice none 0 0) 0 [] (World.ownsRow_nil w w.heap.size e 1) a m c news hl hnews h1 h63 hbytes (Nat.le_refl _)
    rw [hr] at hr1
    injection hr1 with e1 e2
    subst e1; subst e2
    exact .inr (World.ownsRow.lt ho1 k hk).1
  · by_cases hroom : n + m ≤ cap
    · have hfit : n * i.size + news.length ≤ cur.size := by rw [hl, hcs, hsize]; omega
      have hr2 := run_append_room (P := P) w t ty e i ht hi g n cap cur hg a m c news (by rw [hsize]; exact hl) hnews h1 hroom hfit
      rw [hr] at hr2
      injection hr2 with e1 e2
      subst e1
      exact .inl hk
    · have holds : ∀ j u, xs[j]? = some u → w.cell? ((⟨g, 0, none⟩ : Addr).add j) = some u := hown.cells (g := g) rfl
      have hr2 := run_append_grow (P := P) w t ty e i z ht hi hz ⟨g, 0, none⟩ n cap xs (by rw [hsize]; exact hown.1) holds a m c news (by rw [hsize]; exact hl) hnews (by omega) (by unfold maxLen at h63; omega) (growslice_fits (by omega) (by rw [hby]; exact hbytes))
      rw [hr] at hr2
      injection hr2 with e1 e2
      subst e1
      exact .inr (by have e2 : w.heap.size = k := Option.some.inj hk
                     omega)
section
variable {α : Type} {enc : α → Value} {e : TypeId}
/-- step_append_list, told also where the result lies. -/
theorem step_append_at_list {P : Program} {ops : Array Oper} {o : Oper} {a : Act} {wx : World} {K : Act → World → Prop} {Q : Exit → Act → World → Prop} {E : Prop}
    (hgd : o.guard = none) (s x : Operand) (t : TypeId) (hop : o.op = Op.call { callee := Callee.builtin Builtin.append, args := #[s, x], argTypes := #[t, t] })
    (base : Nat) (i : TypeInfo) (z : Value) (bytes : Nat) (ht : P.underlying t = some (.slice e)) (hi : P.info? e = some i) (hz : i.zero = some z)
    (hsize : i.size = 1) (hby : i.bytes = bytes) (hzs : z.cells.size = 1)
    (v : Value) (xs : List α) (hs : a.eval s = v) (hown : Has enc e wx base v xs) (u : Value) (ys : List α) (hx : a.eval x = u) (hu : Lies enc wx u ys)
    (h1 : ∀ y ∈ ys, (enc y).oneCell' = true) (hbytes : (xs.length + ys.length) * bytes ≤ 140737488355328) (h63 : xs.length + ys.length ≤ 9223372036854775807) (hb2 : base ≤ wx.heap.size)
    (hK : ∀ v' w', Has enc e w' base v' (xs ++ ys) → wx.grownBy w' v.ownBlock → (∀ k, v'.ownBlock = some k → v.ownBlock = some k ∨ wx.heap.size ≤ k) → K (a.put o.dst v') w') :
    if Region.wanted o (yielded ops a.tmps) = true then Oper.wp P o a wx K Q else E := by
  have hw : Region.wanted o (yielded ops a.tmps) = true := by simp [Region.wanted, hgd]
  rw [if_pos hw]
  obtain ⟨hl, A, cap, rfl, hnone, hc⟩ := hu
  have hh : ∀ v' w', w'.ownsRow base e 1 v' (xs.length + ys.length) (xs.map enc ++ ys.map enc) → wx.grownBy w' v.ownBlock → (∀ k, v'.ownBlock = some k → v.ownBlock = some k ∨ wx.heap.size ≤ k) → K (a.put o.dst v') w' := by
    intro v' w' ho' hg' hb'
    refine hK v' w' ?_ hg' hb'
    show w'.ownsRow base e 1 v' _ _
    rw [List.length_append, List.map_append]
    exact ho'
  cases A with
  | none =>
    obtain rfl := hnone rfl
    have hy : ys = [] := by
      cases ys with
      | nil => rfl
      | cons y l => obtain ⟨_, _, h', _⟩ := hc 0 y rfl; cases h'
    subst hy
    have hrun := run_append_owned_none (P := P) (w := wx) base t o.type e i 1 ht hi v xs.length (xs.map enc) hown
    unfold Oper.wp
    simp only [List.length_nil] at hx
    simp [execOp, hop, resolve, invoke, builtin, hs, hx, hrun, Result.andThen]
    exact hh v wx (by simpa [Has] using hown) (World.grownBy.refl wx _) (fun k hk => .inl hk)
  | some ad =>
    have hnews : ∀ j u, (ys.map enc)[j]? = some u → wx.cell? (ad.add j) = some u := by
      intro j y hj
      rw [List.getElem?_map, Option.map_eq_some_iff] at hj
      obtain ⟨x', hx', rfl⟩ := hj
      obtain ⟨b, off, he, hcell⟩ := hc j x' hx'
      obtain rfl := Option.some.inj he
      rw [addr_plus]
      exact hcell
    have hone : ∀ u ∈ ys.map enc, u.oneCell' = true := by
      intro y hy
      obtain ⟨x', hx', rfl⟩ := List.mem_map.1 hy
      exact h1 x' hx'
    obtain ⟨v', w', hr, h2, h3, _⟩ := run_append_own (P := P) wx base t o.type e i z 1 bytes ht hi hz hsize hby hzs (by decide) v xs.length (xs.map enc) hown ad ys.length cap (ys.map enc) (by simp) hnews hone (by unfold maxLen; omega) hbytes hb2
    have hblk := append_block ht hi hz hsize hby hzs hown (by simp) hnews hone (by unfold maxLen; omega) hbytes hr
    unfold Oper.wp execOp
    simp only [hop, resolve, invoke, builtin, Sem.run_bind, Sem.run_pure, Result.andThen_ok, List.map_toArray, List.map_cons, List.map_nil, hs, hx, hr]
    exact hh v' w' h2 h3 hblk
end
section
variable {α : Type} {enc : α → Value} {e : TypeId}
/-- Append as a statement in a fixed order. -/
theorem wpList_append_list {P : Program} {w : World} {ops : Array Oper} {rest : List Oper} {o : Oper} {a : Act} {Q : Exit → Act → World → Prop} (hgd : o.guard = none) (s x : Operand) (t : TypeId)
    (ho : o.op = .call { callee := .builtin .append, args := #[s, x], argTypes := #[t, t] })
    (base : Nat) (i : TypeInfo) (z : Value) (bytes : Nat) (ht : P.underlying t = some (.slice e)) (hi : P.info? e = some i) (hz : i.zero = some z)
    (hsize : i.size = 1) (hby : i.bytes = bytes) (hzs : z.cells.size = 1)
    (v : Value) (xs : List α) (hs : a.eval s = v) (hown : Has enc e w base v xs) (u : Value) (ys : List α) (hx : a.eval x = u) (hu : Lies enc w u ys)
    (h1 : ∀ y ∈ ys, (enc y).oneCell' = true) (hbytes : (xs.length + ys.length) * bytes ≤ 140737488355328) (h63 : xs.length + ys.length ≤ 9223372036854775807) (hb2 : base ≤ w.heap.size)
    (h : ∀ v' w', Has enc e w' base v' (xs ++ ys) → w.grownBy w' v.ownBlock → (∀ k, v'.ownBlock = some k → v.ownBlock = some k ∨ w.heap.size ≤ k) → wpList P ops Q rest (a.put o.dst v') w') :
    wpList P ops Q (o :: rest) a w :=
  wpList_plain hgd fun K hK => by
    have hh := step_append_at_list (ops := ops) (E := True) (K := K) (Q := Q) hgd s x t ho base i z bytes ht hi hz hsize hby hzs v xs hs hown u ys hx hu h1 hbytes h63 hb2 (fun v' w' k1 k2 k3 => hK _ _ (h v' w' k1 k2 k3))
    rw [if_pos (by simp [Region.wanted, hgd])] at hh
    exact hh
end
/-- The head's slice has grown: it lies where it lay, or in a new block. -/
theorem OwnRows.head_grown {w w' : World} {lo hi base : Nat} {vo vo' : Value} {us : List Value} {out out' : List Int} {rows : List (List Int)} (h : OwnRows w lo hi (vo :: us) (out :: rows)) (ho : Has (Value.int .i64) 3 w' base vo' out') (hlo : lo ≤ base) (hle : hi ≤ w.heap.size)
    (hg : w.grownBy w' vo.ownBlock) (hb : ∀ k, vo'.ownBlock = some k → vo.ownBlock = some k ∨ w.heap.size ≤ k) : OwnRows w' lo w'.heap.size (vo' :: us) (out' :: rows) := by
  have hlen := h.len
  have hold : ∀ (i : Nat) (u : Value), us[i]? = some u → ∃ r, rows[i]? = some r ∧ OwnI w lo hi u r := fun i u hu => by
    obtain ⟨r, hr⟩ : ∃ r, rows[i]? = some r := ⟨_, List.getElem?_eq_getElem (by simp at hlen; rw [← hlen]; exact (List.getElem?_eq_some_iff.1 hu).1)⟩
    exact ⟨r, hr, h.row (i + 1) u r (by simpa using hu) (by simpa using hr)⟩
  have hne : ∀ (i : Nat) (u : Value), us[i]? = some u → u.ownBlock = none ∨ u.ownBlock ≠ vo.ownBlock := fun i u hu => h.apart (i + 1) 0 u vo (by simpa using hu) rfl (by omega)
  have hnew : ∀ (i : Nat) (u : Value), us[i]? = some u → ∀ k, u.ownBlock = some k → vo'.ownBlock ≠ some k := fun i u hu k hk e => by
    obtain ⟨r, _, hI⟩ := hold i u hu
    have h1 := hI.lt k hk
    rcases hb k e with h2 | h2
    · rcases hne i u hu with h3 | h3
      · rw [hk] at h3; cases h3
      · exact h3 (by rw [hk, h2])
    · omega
  refine ⟨by simpa using hlen, fun i u r hu hr => ?_, fun i j u u' hu hu' hij => ?_⟩
  · cases i with
    | zero =>
      simp at hu hr
      subst hu; subst hr
      exact ⟨ho.mono hlo, fun k hk => (ho.lt k hk).2, Nat.le_refl _⟩
    | succ i =>
      simp at hu hr
      have hI := h.row (i + 1) u r (by simpa using hu) (by simpa using hr)
      exact ⟨hI.has.of_same fun k hk => hg.block k (hI.has.lt k hk).2 (fun e => by
        rcases hne i u hu with h3 | h3
        · rw [hk] at h3; cases h3
        · exact h3 (by rw [hk, e])), fun k hk => Nat.lt_of_lt_of_le (hI.lt k hk) (Nat.le_trans hle hg.size), Nat.le_refl _⟩
  · cases i with
    | zero =>
      cases j with
      | zero => omega
      | succ j =>
        simp at hu hu'
        subst hu
        cases hk : vo'.ownBlock with
        | none => exact .inl rfl
        | some k => exact .inr fun e => hnew j u' hu' k e.symm hk
    | succ i =>
      cases j with
      | zero =>
        simp at hu hu'
        subst hu'
        cases hk : u.ownBlock with
        | none => exact .inl rfl
        | some k => exact .inr fun e => hnew i u hu k hk e.symm
      | succ j =>
        simp at hu hu'
        exact h.apart (i + 1) (j + 1) u u' (by simpa using hu) (by simpa using hu') (by omega)
/-- The head goes to the end. -/
theorem OwnRows.rotate {w : World} {lo hi : Nat} {vo : Value} {us : List Value} {out : List Int} {rows : List (List Int)} (h : OwnRows w lo hi (vo :: us) (out :: rows)) : OwnRows w lo hi (us ++ [vo]) (rows ++ [out]) := by
  have hlen : us.length = rows.length := by simpa using h.len
  have key : ∀ (i : Nat) (x : Value), (us ++ [vo])[i]? = some x → ∃ j, (vo :: us)[j]? = some x ∧ (i < us.length ∧ j = i + 1 ∨ i = us.length ∧ j = 0) := fun i x hx => by
    by_cases hi' : i < us.length
    · rw [List.getElem?_append_left hi'] at hx
      exact ⟨i + 1, by simpa using hx, .inl ⟨hi', rfl⟩⟩
    · have e1 : i = us.length := by have := (List.getElem?_eq_some_iff.1 hx).1; simp at this; omega
      subst e1
      rw [List.getElem?_append_right (Nat.le_refl _)] at hx
      exact ⟨0, by simpa using hx, .inr ⟨rfl, rfl⟩⟩
  refine ⟨by simp [hlen], fun i u r hu hr => ?_, fun i j u u' hu hu' hij => ?_⟩
  · obtain ⟨j, hj, ⟨h1, rfl⟩ | ⟨rfl, rfl⟩⟩ := key i u hu
    · rw [List.getElem?_append_left (by omega)] at hr
      exact h.row (i + 1) u r hj (by simpa using hr)
    · rw [hlen, List.getElem?_append_right (Nat.le_refl _)] at hr
      exact h.row 0 u r hj (by simpa using hr)
  · obtain ⟨i1, hi1, c1⟩ := key i u hu
    obtain ⟨j1, hj1, c2⟩ := key j u' hu'
    exact h.apart i1 j1 u u' hi1 hj1 (by omega)
/-- A sequence out of its rows and its terms, the terms told first. -/
theorem OwnS.make_head {w : World} {base : Nat} {vn vo : Value} {us : List Value} {b : Int} {rows : List (List Int)} {out : List Int} (ht : Has id 25 w base vn us) (h : OwnRows w base w.heap.size (vo :: us) (out :: rows)) :
    OwnS w base w.heap.size (.agg #[.int .i64 b, vn, vo]) b rows out := by
  refine ⟨vn, vo, us, rfl, ⟨ht, fun k hk => (ht.lt k hk).2, Nat.le_refl _, ⟨by simpa using h.len, fun i u r hu hr => h.row (i + 1) u r (by simpa using hu) (by simpa using hr), fun i j u u' hu hu' hij => h.apart (i + 1) (j + 1) u u' (by simpa using hu) (by simpa using hu') (by omega)⟩⟩, h.rotate⟩
theorem OwnRows.one {w : World} {lo hi : Nat} {v : Value} {xs : List Int} (h : OwnI w lo hi v xs) : OwnRows w lo hi [v] [xs] :=
  ⟨rfl, fun i u r hu hr => by
    cases i with
    | zero => simp at hu hr; subst hu; subst hr; exact h
    | succ i => simp at hu, fun i j u u' hu hu' hij => by
    cases i with
    | zero => cases j with
      | zero => omega
      | succ j => simp at hu'
    | succ i => simp at hu⟩
theorem own_of_has {w : World} {base : Nat} {v : Value} {xs : List Int} (h : Has (Value.int .i64) 3 w base v xs) : OwnI w base w.heap.size v xs := ⟨h, fun k hk => (h.lt k hk).2, Nat.le_refl _⟩
theorem own_pair {w : World} {lo mid : Nat} {v vo : Value} {xs ys : List Int} (h1 : OwnI w lo mid v xs) (h2 : OwnI w mid w.heap.size vo ys) (h3 : lo ≤ mid) (h4 : mid ≤ w.heap.size) : OwnRows w lo w.heap.size [vo, v] [ys, xs] :=
  ((OwnRows.one h1).snoc h2 h3 h4).rotate
theorem has_lit1v {w : World} {e : TypeId} {base g : Nat} (x : Value) (hg : g = w.heap.size) (hb : base ≤ g) : Has id e (w.alloc (.cells #[x] e)) base (.slice (some ⟨g, 0, none⟩) 1 1) [x] := has_lit1 (enc := id) x hg hb
theorem below_allocs {a w : World} {o : Obj} (h : Below a.heap.size a w) : Below a.heap.size a (w.alloc o) := h.alloc h.size o
theorem grown_below2 {w w1 : World} {B : Nat} (h : w.grownBy w1 (some w.heap.size) ∨ w.grownBy w1 (some (w.heap.size + 1))) (hB : B ≤ w.heap.size) : Below B w w1 := by
  rcases h with h | h
  · exact (Below.refl B w).grown h hB (fun k hk => by cases hk; exact hB)
  · exact (Below.refl B w).grown h hB (fun k hk => by cases hk; omega)
/-- A row that is not empty: its slice's cell and its own cells. -/
theorem row_at {w : World} {pa off n cn : Nat} {rows : List (List Int)} (h : LiesR w (.slice (some ⟨pa, off, none⟩) n cn) rows) {i : Nat} {r : List Int} (hr : rows[i]? = some r) (hne : 0 < r.length) :
    ∃ q s c, w.cell? ⟨pa, off + i, none⟩ = some (.slice (some ⟨q, s, none⟩) r.length c) ∧ (∀ (k : Nat) (x : Int), r[k]? = some x → w.cell? ⟨q, s + k, none⟩ = some (.int .i64 x)) ∧ pa < w.heap.size ∧ q < w.heap.size := by
  obtain ⟨a, cap, hv, _, hc⟩ := h.row
  obtain ⟨b, o, u, h1, h2, _, a', c', rfl, _, h3⟩ := hc i r hr
  injection hv with e1 e2 e3
  rw [← e1] at h1
  injection h1 with h1
  injection h1 with h1 h4
  subst h1; subst h4
  obtain ⟨q, s, rfl, h5⟩ := h3 0 _ (List.getElem?_eq_getElem hne)
  refine ⟨q, s, c', h2, fun k x hx => ?_, World.block_lt_of_cell? w _ h2, World.block_lt_of_cell? w _ h5⟩
  obtain ⟨q', s', h6, h7⟩ := h3 k x hx
  injection h6 with h6
  injection h6 with h6 h8
  subst h6; subst h8
  exact h7
theorem Touch.of_grown_none {w w1 : World} (h : w.grownBy w1 none) : Plain.Touch 0 0 w w1 := ⟨h.os, h.tape, h.output, h.size, fun k hk _ => h.block k hk (by simp)⟩
end Go.Proofs.Ytodnkkofammhbaa.Plain
/- Plain facts on the digits of a number: the digits, the number of some digits, padding with zeros, sums of digits. No conditions beyond those that each fact states. -/
namespace Go.Proofs.Ytodnkkofammhbaa.Plain

theorem pow_bd (b i : Nat) (h1 : 2 ≤ b) (h2 : b ≤ 4) (hi : i ≤ 16) : 1 ≤ b ^ i ∧ b ^ i ≤ 4294967296 := by
  refine ⟨Nat.pow_pos (by omega), ?_⟩
  have h3 : b ^ i ≤ 4 ^ i := Nat.pow_le_pow_left h2 i
  have h4 : 4 ^ i ≤ 4 ^ 16 := Nat.pow_le_pow_right (by omega) hi
  have h5 : (4 : Nat) ^ 16 = 4294967296 := by decide
  omega

/-- The digits of n, the lowest one first, at most f of them. -/
def lows (b : Nat) : Nat → Nat → List Int
  | 0, _ => []
  | f + 1, n => if n = 0 then [] else ((n % b : Nat) : Int) :: lows b f (n / b)
/-- The digits of n, the highest one first. -/
def digs (n b : Nat) : List Int := (lows b 16 n).reverse
theorem lows_zero (b f : Nat) : lows b f 0 = [] := by cases f <;> simp [lows]
theorem lows_succ (b f n : Nat) (h : 0 < n) : lows b (f + 1) n = ((n % b : Nat) : Int) :: lows b f (n / b) := by rw [lows, if_neg (by omega)]
/-- Where the taking of n's digits stands: cs are taken (the lowest one first), m is left. -/
def DigitsAt (n b m : Nat) (cs : List Int) : Prop := ∃ f : Nat, cs.length + f = 16 ∧ m < b ^ f ∧ cs ++ lows b f m = lows b 16 n
theorem digits_start (n b : Nat) (h : n < b ^ 16) : DigitsAt n b n [] := ⟨16, rfl, h, rfl⟩
theorem digits_bd {n b m : Nat} {cs : List Int} (h : DigitsAt n b m cs) (h1 : 2 ≤ b) (h2 : b ≤ 4) : m ≤ 4294967295 ∧ cs.length ≤ 16 := by
  obtain ⟨f, hl, hm, _⟩ := h
  have := pow_bd b f h1 h2 (by omega)
  omega
theorem digits_step {n b m : Nat} {cs : List Int} (h : DigitsAt n b m cs) (hm : 0 < m) : DigitsAt n b (m / b) (cs ++ [((m % b : Nat) : Int)]) ∧ cs.length + 1 ≤ 16 := by
  obtain ⟨f, hl, h1, he⟩ := h
  cases f with
  | zero => simp at h1; omega
  | succ f =>
    refine ⟨⟨f, by simp; omega, ?_, ?_⟩, by omega⟩
    · rw [Nat.div_lt_iff_lt_mul (by rcases Nat.eq_zero_or_pos b with rfl | h; · simp at h1
                                    · exact h)]
      rw [Nat.pow_succ] at h1
      exact h1
    · rw [← he, lows_succ b f m hm]
      simp
theorem digits_end {n b : Nat} {cs : List Int} (h : DigitsAt n b 0 cs) : cs = lows b 16 n := by
  obtain ⟨f, _, _, he⟩ := h
  rw [← he, lows_zero, List.append_nil]
theorem lows_len (b : Nat) : ∀ f n, (lows b f n).length ≤ f
  | 0, n => by simp [lows]
  | f + 1, n => by
    rw [lows]
    split
    · simp
    · have := lows_len b f (n / b)
      simp
      omega
theorem digs_len (n b : Nat) : (digs n b).length ≤ 16 := by have := lows_len b 16 n; simp [digs]; omega
theorem lows_mem (b : Nat) (h : 2 ≤ b) : ∀ f n, ∀ x ∈ lows b f n, 0 ≤ x ∧ x < b
  | 0, n, x, hx => by simp [lows] at hx
  | f + 1, n, x, hx => by
    rw [lows] at hx
    split at hx
    · cases hx
    · simp only [List.mem_cons] at hx
      rcases hx with rfl | hx
      · have := Nat.mod_lt n (show 0 < b by omega)
        omega
      · exact lows_mem b h f _ x hx
theorem digs_mem (n b : Nat) (h : 2 ≤ b) : ∀ x ∈ digs n b, 0 ≤ x ∧ x < b := fun x hx => lows_mem b h 16 n x (by simpa [digs] using hx)

/-- The number of some digits. -/
def valD (b : Nat) (xs : List Int) : Int := xs.foldl (fun n d => n * b + d) 0
theorem valD_snoc (b : Nat) (xs : List Int) (d : Int) : valD b (xs ++ [d]) = valD b xs * b + d := by simp [valD]
theorem valD_lows (b : Nat) : ∀ f n, n < b ^ f → valD b (lows b f n).reverse = n
  | 0, n, h => by simp at h; subst h; rfl
  | f + 1, n, h => by
    rcases Nat.eq_zero_or_pos n with rfl | hn
    · rw [lows_zero]; rfl
    · have hb : 0 < b := by
        rcases Nat.eq_zero_or_pos b with rfl | hb
        · simp at h
        · exact hb
      rw [Nat.pow_succ] at h
      rw [lows_succ b f n hn, List.reverse_cons, valD_snoc, valD_lows b f (n / b) ((Nat.div_lt_iff_lt_mul hb).2 h)]
      have := Nat.div_add_mod n b
      have h2 : ((n / b : Nat) : Int) * b = ((b * (n / b) : Nat) : Int) := by rw [Int.natCast_mul, Int.mul_comm]
      rw [h2]
      omega
theorem valD_digs (n b : Nat) (h : n < b ^ 16) : valD b (digs n b) = n := valD_lows b 16 n h
theorem valD_zeros (b k : Nat) (xs : List Int) : valD b (List.replicate k 0 ++ xs) = valD b xs := by
  have h : ∀ k : Nat, (List.replicate k (0 : Int)).foldl (fun n d : Int => n * b + d) 0 = 0 := by
    intro k
    induction k with
    | zero => rfl
    | succ k ih => rw [List.replicate_succ, List.foldl_cons, Int.zero_mul, Int.zero_add, ih]
  rw [valD, List.foldl_append, h]
  rfl
theorem valD_bd (b : Nat) (hb : 2 ≤ b) : ∀ (k : Nat) (xs : List Int), k ≤ xs.length → (∀ x ∈ xs, 0 ≤ x ∧ x < b) → 0 ≤ valD b (xs.take k) ∧ valD b (xs.take k) < ((b ^ k : Nat) : Int)
  | 0, xs, _, _ => by simp [valD]
  | k + 1, xs, hk, h => by
    have ih := valD_bd b hb k xs (by omega) h
    have hx := h xs[k] (List.getElem_mem _)
    rw [List.take_succ_eq_append_getElem (by omega), valD_snoc, Nat.pow_succ]
    have h1 : 0 ≤ valD b (xs.take k) * (b : Int) := Int.mul_nonneg ih.1 (by omega)
    have h2 : (valD b (xs.take k) + 1) * (b : Int) ≤ ((b ^ k : Nat) : Int) * (b : Int) := Int.mul_le_mul_of_nonneg_right (by omega) (by omega)
    rw [Int.add_mul, Int.one_mul] at h2
    rw [Int.natCast_mul]
    omega
/-- The sum of a list. -/
def sumD (xs : List Int) : Int := xs.foldl (fun n d => n + d) 0
theorem sumD_snoc (xs : List Int) (d : Int) : sumD (xs ++ [d]) = sumD xs + d := by simp [sumD]
theorem sumD_bd (b : Nat) : ∀ (k : Nat) (xs : List Int), k ≤ xs.length → (∀ x ∈ xs, 0 ≤ x ∧ x < b) → 0 ≤ sumD (xs.take k) ∧ sumD (xs.take k) ≤ k * b
  | 0, xs, _, _ => by simp [sumD]
  | k + 1, xs, hk, h => by
    have ih := sumD_bd b k xs (by omega) h
    have hx := h xs[k] (List.getElem_mem _)
    rw [List.take_succ_eq_append_getElem (by omega), sumD_snoc]
    have : ((k + 1 : Nat) : Int) * (b : Int) = (k : Int) * b + b := by rw [Int.natCast_add, Int.add_mul]; simp
    omega
theorem sum_mod (b : Nat) (hb : 2 ≤ b) : ∀ f n, n < b ^ f → ∃ q : Int, (n : Int) - sumD (lows b f n).reverse = q * ((b : Int) - 1)
  | 0, n, h => ⟨0, by simp at h; subst h; simp [lows, sumD]⟩
  | f + 1, n, h => by
    rcases Nat.eq_zero_or_pos n with rfl | hn
    · exact ⟨0, by rw [lows_zero]; simp [sumD]⟩
    · rw [Nat.pow_succ] at h
      obtain ⟨q, hq⟩ := sum_mod b hb f (n / b) ((Nat.div_lt_iff_lt_mul (by omega)).2 h)
      refine ⟨q + ((n / b : Nat) : Int), ?_⟩
      rw [lows_succ b f n hn, List.reverse_cons, sumD_snoc, Int.add_mul, ← hq, Int.mul_sub, Int.mul_one]
      have := Nat.div_add_mod n b
      have h2 : ((n / b : Nat) : Int) * b = ((b * (n / b) : Nat) : Int) := by rw [Int.natCast_mul, Int.mul_comm]
      rw [h2]
      omega
/-- No digits begin with a zero. -/
theorem lows_last (b : Nat) (hb : 2 ≤ b) : ∀ f n, n < b ^ f → 0 < n → ∃ x cs, lows b f n = cs ++ [x] ∧ x ≠ 0
  | 0, n, h, hn => by simp at h; omega
  | f + 1, n, h, hn => by
    rw [Nat.pow_succ] at h
    rw [lows_succ b f n hn]
    rcases Nat.eq_zero_or_pos (n / b) with h0 | h0
    · refine ⟨((n % b : Nat) : Int), [], by rw [h0, lows_zero]; rfl, ?_⟩
      have : n < b := by
        rcases Nat.div_eq_zero_iff.1 h0 with h | h <;> omega
      rw [Nat.mod_eq_of_lt this]
      omega
    · obtain ⟨x, cs, he, hx⟩ := lows_last b hb f (n / b) ((Nat.div_lt_iff_lt_mul (by omega)).2 h) h0
      exact ⟨x, _ :: cs, by rw [he]; rfl, hx⟩
theorem digs_head (n b : Nat) (hb : 2 ≤ b) (h : n < b ^ 16) : digs n b = [] ∨ ∃ x cs, digs n b = x :: cs ∧ x ≠ 0 := by
  rcases Nat.eq_zero_or_pos n with rfl | hn
  · exact .inl (by simp [digs, lows_zero])
  · obtain ⟨x, cs, he, hx⟩ := lows_last b hb 16 n h hn
    exact .inr ⟨x, cs.reverse, by simp [digs, he], hx⟩

/-- Whether xs are digits of base b. -/
def areD (b : Int) (xs : List Int) : Bool := decide (2 ≤ b ∧ b ≤ 4 ∧ xs.length ≤ 16 ∧ ∀ x ∈ xs, 0 ≤ x ∧ x < b)
theorem areD_yes {b : Int} {xs : List Int} (h0 : 2 ≤ b) (h1 : b ≤ 4) (h2 : xs.length ≤ 16) (h3 : ∀ x ∈ xs, 0 ≤ x ∧ x < b) : areD b xs = true := decide_eq_true ⟨h0, h1, h2, h3⟩
theorem areD_base {b : Int} (xs : List Int) (h : b < 2 ∨ 4 < b) : areD b xs = false := decide_eq_false (fun h' => by omega)
theorem areD_long {b : Int} {xs : List Int} (h : 16 < xs.length) : areD b xs = false := decide_eq_false (fun h' => by omega)
theorem areD_at {b : Int} {xs : List Int} (k : Nat) (hk : k < xs.length) (h : xs[k] < 0 ∨ b ≤ xs[k]) : areD b xs = false := decide_eq_false (fun h' => by
  have := h'.2.2.2 xs[k] (List.getElem_mem _)
  omega)
theorem areD_out {b : Int} {xs : List Int} (h : areD b xs = true) : 2 ≤ b ∧ b ≤ 4 ∧ xs.length ≤ 16 ∧ ∀ x ∈ xs, 0 ≤ x ∧ x < b := of_decide_eq_true h
theorem mem_of_all {p : Int → Prop} {xs : List Int} (h : ∀ i, (hi : i < xs.length) → p xs[i]) : ∀ x ∈ xs, p x := fun x hx => by
  obtain ⟨i, hi, rfl⟩ := List.getElem_of_mem hx
  exact h i hi
/-- xs with zeros before it up to w numbers. -/
def padD (w : Int) (xs : List Int) : List Int := if w ≤ xs.length ∨ 16 < w then xs else List.replicate (w.toNat - xs.length) 0 ++ xs
end Go.Proofs.Ytodnkkofammhbaa.Plain
/- Plain facts on sequences as lists: which ones are valid, the state and the term that they lead to, the steady form. No conditions beyond those that each fact states. -/
namespace Go.Proofs.Ytodnkkofammhbaa.Plain

/-- A valid sequence. -/
def IsSeq (b : Int) (rows : List (List Int)) (out : List Int) : Prop :=
  2 ≤ b ∧ b ≤ 4 ∧ 1 ≤ rows.length ∧ rows.length ≤ 16 ∧ out.length = rows.length ∧ (∀ r ∈ rows, (r.length : Int) = b ∧ ∀ x ∈ r, 0 ≤ x ∧ x < (rows.length : Int)) ∧ ∀ x ∈ out, 0 ≤ x ∧ x ≤ 3
instance (b : Int) (rows : List (List Int)) (out : List Int) : Decidable (IsSeq b rows out) := by unfold IsSeq; infer_instance
def seqB (b : Int) (rows : List (List Int)) (out : List Int) : Bool := decide (IsSeq b rows out)
theorem seqB_yes {b : Int} {rows : List (List Int)} {out : List Int} (h : IsSeq b rows out) : seqB b rows out = true := decide_eq_true h
theorem seqB_no {b : Int} {rows : List (List Int)} {out : List Int} (h : ¬ IsSeq b rows out) : seqB b rows out = false := decide_eq_false h
theorem seqB_out {b : Int} {rows : List (List Int)} {out : List Int} (h : seqB b rows out = true) : IsSeq b rows out := of_decide_eq_true h

/-- Row and term i are those of a valid sequence. -/
def RowOK (b : Int) (n : Nat) (r : List Int) (o : Int) : Prop := (r.length : Int) = b ∧ (∀ x ∈ r, 0 ≤ x ∧ x < (n : Int)) ∧ 0 ≤ o ∧ o ≤ 3
instance (b : Int) (n : Nat) (r : List Int) (o : Int) : Decidable (RowOK b n r o) := by unfold RowOK; infer_instance
def rowB (b : Int) (n : Nat) (r : List Int) (o : Int) : Bool := decide (RowOK b n r o)
theorem IsSeq.rowOK {b : Int} {rows : List (List Int)} {out : List Int} (h : IsSeq b rows out) {i : Nat} {r : List Int} {o : Int} (hr : rows[i]? = some r) (ho : out[i]? = some o) : RowOK b rows.length r o := by
  obtain ⟨_, _, _, _, _, h1, h2⟩ := h
  have h3 := h1 r (List.mem_of_getElem? hr)
  have h4 := h2 o (List.mem_of_getElem? ho)
  exact ⟨h3.1, h3.2, h4⟩
theorem isSeq_of {b : Int} {rows : List (List Int)} {out : List Int} (h1 : 2 ≤ b) (h2 : b ≤ 4) (h3 : 1 ≤ rows.length) (h4 : rows.length ≤ 16) (h5 : out.length = rows.length)
    (h6 : ∀ (i : Nat) (r : List Int), rows[i]? = some r → (r.length : Int) = b ∧ ∀ (k : Nat) (x : Int), r[k]? = some x → 0 ≤ x ∧ x < (rows.length : Int)) (h7 : ∀ (i : Nat) (o : Int), out[i]? = some o → 0 ≤ o ∧ o ≤ 3) : IsSeq b rows out := by
  refine ⟨h1, h2, h3, h4, h5, fun r hr => ?_, fun o ho => ?_⟩
  · obtain ⟨i, hi⟩ := List.getElem?_of_mem hr
    refine ⟨(h6 i r hi).1, fun x hx => ?_⟩
    obtain ⟨k, hk⟩ := List.getElem?_of_mem hx
    exact (h6 i r hi).2 k x hk
  · obtain ⟨i, hi⟩ := List.getElem?_of_mem ho
    exact h7 i o hi
theorem not_seq_row {b : Int} {rows : List (List Int)} {out : List Int} {i : Nat} {r : List Int} (hr : rows[i]? = some r) (h : ¬ (r.length : Int) = b) : seqB b rows out = false :=
  seqB_no fun hs => h (hs.2.2.2.2.2.1 r (List.mem_of_getElem? hr)).1
theorem not_seq_cell {b : Int} {rows : List (List Int)} {out : List Int} {i k : Nat} {r : List Int} {x : Int} (hr : rows[i]? = some r) (hx : r[k]? = some x) (h : x < 0 ∨ (rows.length : Int) ≤ x) : seqB b rows out = false :=
  seqB_no fun hs => by
    have := (hs.2.2.2.2.2.1 r (List.mem_of_getElem? hr)).2 x (List.mem_of_getElem? hx)
    omega
theorem not_seq_out {b : Int} {rows : List (List Int)} {out : List Int} {i : Nat} {o : Int} (ho : out[i]? = some o) (h : o < 0 ∨ 3 < o) : seqB b rows out = false :=
  seqB_no fun hs => by
    have := hs.2.2.2.2.2.2 o (List.mem_of_getElem? ho)
    omega
theorem rowB_yes {b : Int} {n : Nat} {r : List Int} {o : Int} (h1 : (r.length : Int) = b) (h2 : ∀ (k : Nat) (x : Int), r[k]? = some x → 0 ≤ x ∧ x < (n : Int)) (h3 : 0 ≤ o) (h4 : o ≤ 3) : rowB b n r o = true :=
  decide_eq_true ⟨h1, fun x hx => by
    obtain ⟨k, hk⟩ := List.getElem?_of_mem hx
    exact h2 k x hk, h3, h4⟩
theorem rowB_len {b : Int} {n : Nat} {r : List Int} {o : Int} (h : ¬ (r.length : Int) = b) : rowB b n r o = false := decide_eq_false fun hs => h hs.1
theorem rowB_out {b : Int} {n : Nat} {r : List Int} {o : Int} (h : o < 0 ∨ 3 < o) : rowB b n r o = false := decide_eq_false fun hs => by have := hs.2.2; omega
theorem rowB_cell {b : Int} {n : Nat} {r : List Int} {o : Int} {k : Nat} {x : Int} (hx : r[k]? = some x) (h : x < 0 ∨ (n : Int) ≤ x) : rowB b n r o = false := decide_eq_false fun hs => by
  have := hs.2.1 x (List.mem_of_getElem? hx)
  omega
theorem rowB_seq {b : Int} {rows : List (List Int)} {out : List Int} {i : Nat} {r : List Int} {o : Int} (hr : rows[i]? = some r) (ho : out[i]? = some o) (h : rowB b rows.length r o = false) : seqB b rows out = false :=
  seqB_no fun hs => by
    have h1 : rowB b rows.length r o = true := decide_eq_true (hs.rowOK hr ho)
    rw [h1] at h
    cases h
theorem seq_rows {b : Int} {rows : List (List Int)} {out : List Int} (h1 : 2 ≤ b) (h2 : b ≤ 4) (h3 : 1 ≤ rows.length) (h4 : rows.length ≤ 16) (h5 : out.length = rows.length)
    (h : ∀ (i : Nat) (r : List Int) (o : Int), rows[i]? = some r → out[i]? = some o → rowB b rows.length r o = true) : seqB b rows out = true := by
  refine seqB_yes (isSeq_of h1 h2 h3 h4 h5 (fun i r hr => ?_) (fun i o ho => ?_))
  · obtain ⟨o, ho⟩ : ∃ o, out[i]? = some o := ⟨_, List.getElem?_eq_getElem (by rw [h5]; exact (List.getElem?_eq_some_iff.1 hr).1)⟩
    have := of_decide_eq_true (h i r o hr ho)
    exact ⟨this.1, fun k x hx => this.2.1 x (List.mem_of_getElem? hx)⟩
  · obtain ⟨r, hr⟩ : ∃ r, rows[i]? = some r := ⟨_, List.getElem?_eq_getElem (by rw [← h5]; exact (List.getElem?_eq_some_iff.1 ho).1)⟩
    exact (of_decide_eq_true (h i r o hr ho)).2.2
/-- The next state. -/
def nextS (rows : List (List Int)) (s d : Int) : Int := (rows.getD s.toNat []).getD d.toNat 0
def afterS (rows : List (List Int)) (ds : List Int) : Int := ds.foldl (nextS rows) 0
theorem afterS_snoc (rows : List (List Int)) (ds : List Int) (d : Int) : afterS rows (ds ++ [d]) = nextS rows (afterS rows ds) d := by simp [afterS]
theorem IsSeq.row {b : Int} {rows : List (List Int)} {out : List Int} (h : IsSeq b rows out) {s : Int} (h0 : 0 ≤ s) (h1 : s < rows.length) :
    ∃ r, rows[s.toNat]? = some r ∧ rows.getD s.toNat [] = r ∧ (r.length : Int) = b ∧ ∀ x ∈ r, 0 ≤ x ∧ x < (rows.length : Int) := by
  have hs : s.toNat < rows.length := by omega
  obtain ⟨ha, hb⟩ := h.2.2.2.2.2.1 rows[s.toNat] (List.getElem_mem _)
  exact ⟨rows[s.toNat], List.getElem?_eq_getElem hs, by simp [List.getD, hs], ha, hb⟩
theorem IsSeq.next {b : Int} {rows : List (List Int)} {out : List Int} (h : IsSeq b rows out) {s d : Int} (h0 : 0 ≤ s) (h1 : s < rows.length) (h2 : 0 ≤ d) (h3 : d < b) :
    ∃ r, rows[s.toNat]? = some r ∧ r[d.toNat]? = some (nextS rows s d) ∧ 0 ≤ nextS rows s d ∧ nextS rows s d < rows.length := by
  obtain ⟨r, e1, e2, hl, hm⟩ := h.row h0 h1
  have hd : d.toNat < r.length := by omega
  have e3 : nextS rows s d = r[d.toNat] := by rw [nextS, e2]; simp [List.getD, hd]
  obtain ⟨ha, hb⟩ := hm r[d.toNat] (List.getElem_mem _)
  exact ⟨r, e1, by rw [e3]; exact List.getElem?_eq_getElem hd, by rw [e3]; exact ha, by rw [e3]; exact hb⟩
theorem IsSeq.after {b : Int} {rows : List (List Int)} {out : List Int} (h : IsSeq b rows out) : ∀ (ds : List Int), (∀ d ∈ ds, 0 ≤ d ∧ d < b) → 0 ≤ afterS rows ds ∧ afterS rows ds < rows.length := by
  have key : ∀ (ds : List Int) (s : Int), 0 ≤ s → s < rows.length → (∀ d ∈ ds, 0 ≤ d ∧ d < b) → 0 ≤ ds.foldl (nextS rows) s ∧ ds.foldl (nextS rows) s < rows.length := by
    intro ds
    induction ds with
    | nil => intro s h0 h1 _; exact ⟨h0, h1⟩
    | cons d ds ih =>
      intro s h0 h1 hd
      obtain ⟨ha, hb⟩ := hd d (by simp)
      obtain ⟨_, _, _, hc, he⟩ := h.next h0 h1 ha hb
      exact ih _ hc he fun x hx => hd x (by simp [hx])
  have h1 := h.2.2.1
  exact fun ds hd => key ds 0 (Int.le_refl _) (by omega) hd
theorem IsSeq.after_step {b : Int} {rows : List (List Int)} {out : List Int} (h : IsSeq b rows out) {ds : List Int} (hd : ∀ d ∈ ds, 0 ≤ d ∧ d < b) {i sn : Nat} (hi : i < ds.length) (hs : (sn : Int) = afterS rows (ds.take i)) :
    ∃ dn yn : Nat, ds[i]? = some (dn : Int) ∧ sn < rows.length ∧ yn < rows.length ∧ (yn : Int) = afterS rows (ds.take (i + 1)) ∧ ∃ r, rows[sn]? = some r ∧ r[dn]? = some (yn : Int) := by
  have h1 := h.after (ds.take i) fun d hd' => hd d (List.mem_of_mem_take hd')
  have hx := hd ds[i] (List.getElem_mem _)
  rw [← hs] at h1
  obtain ⟨r, e1, e2, e3, e4⟩ := h.next (s := sn) (d := ds[i]) h1.1 h1.2 hx.1 hx.2
  refine ⟨ds[i].toNat, (nextS rows sn ds[i]).toNat, ?_, by omega, by omega, ?_, r, ?_, ?_⟩
  · rw [List.getElem?_eq_getElem hi, show ((ds[i].toNat : Nat) : Int) = ds[i] from by omega]
  · rw [List.take_succ_eq_append_getElem hi, afterS_snoc, ← hs]
    omega
  · simpa using e1
  · rw [e2, show (((nextS rows sn ds[i]).toNat : Nat) : Int) = nextS rows sn ds[i] from by omega]
/-- The state after some digits, -1 where sequence or digits are not valid. -/
def afterV (b : Int) (rows : List (List Int)) (out : List Int) (ar : Bool) (ds : List Int) : Int := if seqB b rows out = true ∧ ar = true then afterS rows ds else -1
/-- The term n. -/
def termS (b : Int) (rows : List (List Int)) (out : List Int) (n : Int) : Int := out.getD (afterS rows (digs n.toNat b.toNat)).toNat 0
theorem IsSeq.term_at {b : Int} {rows : List (List Int)} {out : List Int} (h : IsSeq b rows out) {ds : List Int} (hd : ∀ d ∈ ds, 0 ≤ d ∧ d < b) : ∃ sn : Nat, (sn : Int) = afterS rows ds ∧ sn < out.length ∧ out[sn]? = some (out.getD (afterS rows ds).toNat 0) := by
  have h1 := h.after ds hd
  have h2 := h.2.2.2.2.1
  refine ⟨(afterS rows ds).toNat, by omega, by omega, ?_⟩
  rw [List.getD_eq_getElem?_getD, List.getElem?_eq_getElem (by omega)]
  rfl
/-- The steady form. -/
def steadyB (b : Int) (rows : List (List Int)) (out : List Int) : Bool := seqB b rows out && decide (nextS rows 0 0 = 0)
def raise (r : List Int) : List Int := r.map (· + 1)
def steadyRows (rows : List (List Int)) : List (List Int) := (0 :: raise ((rows.getD 0 []).drop 1)) :: rows.map raise
def steadyOut (out : List Int) : List Int := out.getD 0 0 :: out
end Go.Proofs.Ytodnkkofammhbaa.Plain
/- The steady form told as lists, and what a call says that hands back a new sequence and whether there is one. No conditions beyond those that each fact states. -/
namespace Go.Proofs.Ytodnkkofammhbaa.Plain
open Go.RowKit
/-- A call that hands back a new sequence and a bool. -/
def GivesK (b : Int) (rows : List (List Int)) (out : List Int) (k : Bool) (w : World) (en : Ending) (w' : World) : Prop := ∃ v, en = .returned (.tuple #[v, .bool k]) ∧ OwnS w' w.heap.size w'.heap.size v b rows out ∧ Below w.heap.size w w'
def formK (b : Int) (rows : List (List Int)) (out : List Int) : Bool := steadyB b rows out || (seqB b rows out && decide (rows.length < 16))
def formB (b : Int) (rows : List (List Int)) (out : List Int) : Int := if formK b rows out = true then b else 0
def formR (b : Int) (rows : List (List Int)) (out : List Int) : List (List Int) := if steadyB b rows out = true then rows else if formK b rows out = true then steadyRows rows else []
def formO (b : Int) (rows : List (List Int)) (out : List Int) : List Int := if steadyB b rows out = true then out else if formK b rows out = true then steadyOut out else []
theorem OwnS.zero (w : World) {lo : Nat} : OwnS w lo w.heap.size (.agg #[.int .i64 0, .slice none 0 0, .slice none 0 0]) 0 [] [] := by
  have h1 : OwnI w lo w.heap.size (.slice none 0 0) [] := ⟨World.ownsRow_nil _ _ _ _, fun k hk => (by cases hk), Nat.le_refl _⟩
  refine ⟨_, _, [], rfl, ⟨World.ownsRow_nil _ _ _ _, fun k hk => (by cases hk), Nat.le_refl _, OwnRows.nil _ _ _⟩, ?_⟩
  refine ⟨rfl, fun i u r hu hr => ?_, fun i j u u' hu hu' hij => ?_⟩
  · cases i with
    | zero => simp at hu hr; subst hu; subst hr; exact h1
    | succ i => simp at hu
  · cases i with
    | zero => simp at hu; subst hu; exact .inl rfl
    | succ i => simp at hu
theorem OwnS.lower {w : World} {lo lo' hi : Nat} {v : Value} {b : Int} {rows : List (List Int)} {out : List Int} (h : OwnS w lo hi v b rows out) (hl : lo' ≤ lo) : OwnS w lo' hi v b rows out := by
  obtain ⟨vn, vo, us, h1, h2, h3⟩ := h
  exact ⟨vn, vo, us, h1, ⟨h2.top.mono hl, h2.lt, h2.le, h2.rows.lower hl⟩, h3.lower hl⟩
end Go.Proofs.Ytodnkkofammhbaa.Plain
/- A sequence that the call builds in a struct of its own, row by row and term by term: what it owns, and what an appended row and an appended term make of it. No conditions beyond those that each fact states. -/
namespace Go.Proofs.Ytodnkkofammhbaa.Plain
open Go.RowKit
set_option linter.unusedVariables false
/-- Block p holds the sequence; its slices are the call's own, from block base on, the rows' blocks below hi. -/
structure Building (w : World) (base hi p : Nat) (b : Int) (vn vo : Value) (us : List Value) (rows : List (List Int)) (out : List Int) : Prop where
  top : Has id 25 w base vn us
  rows : OwnRows w base hi (vo :: us) (out :: rows)
  cells : Cells3 w p 27 (.int .i64 b) vn vo
  lo : base ≤ hi
  le : hi ≤ w.heap.size
section
variable {w w' : World} {base hi p : Nat} {b : Int} {vn vo : Value} {us : List Value} {rows : List (List Int)} {out : List Int}
theorem Building.below (h : Building w base hi p b vn vo us rows out) (hb : Below w.heap.size w w') : Building w' base hi p b vn vo us rows out :=
  ⟨h.top.below hb, h.rows.below hb, h.cells.below hb, h.lo, Nat.le_trans h.le hb.size⟩
theorem Building.len (h : Building w base hi p b vn vo us rows out) : us.length = rows.length := by have := h.rows.len; simpa using this
theorem Building.terms (h : Building w base hi p b vn vo us rows out) : OwnI w base hi vo out := h.rows.row 0 vo out rfl rfl
theorem Building.start (h : Cells3 w p 27 (.int .i64 b) (.slice none 0 0) (.slice none 0 0)) (hb : base ≤ w.heap.size) : Building w base base p b (.slice none 0 0) (.slice none 0 0) [] [] [] :=
  ⟨World.ownsRow_nil _ _ _ _, OwnRows.one ⟨World.ownsRow_nil _ _ _ _, fun k hk => (by cases hk), hb⟩, h, Nat.le_refl _, hb⟩
/-- A row that was made behind all the others has been appended and stored. -/
theorem Building.row {u v' : Value} {r : List Int} (h : Building w base hi p b vn vo us rows out) (hu : Has (Value.int .i64) 3 w hi u r) (hv : Has id 25 w' base v' (us ++ [u])) (hg : w.grownBy w' vn.ownBlock) :
    Building (w'.setCell ⟨p, 1, none⟩ v') base w'.heap.size p b v' vo (us ++ [u]) (rows ++ [r]) out := by
  have hI : OwnI w hi w.heap.size u r := ⟨hu, fun k hk => (hu.lt k hk).2, Nat.le_refl _⟩
  have h1 := h.rows.snoc hI h.lo h.le
  have h2 := h1.top_grown h.top hg
  have h3 := h.cells.grown hg (has_ne_c3 h.top h.cells (by decide))
  have h4 := h2.ne_c3 h3 (by decide)
  have h5 := (h2.mono hg.size (Nat.le_refl _)).set (a := ⟨p, 1, none⟩) h4 v'
  exact ⟨hv.set (a := ⟨p, 1, none⟩) (has_ne_c3 hv h3 (by decide)) v', h5, h3.set1 v', Nat.le_trans h.lo (Nat.le_trans h.le hg.size), by rw [size_setCell']; exact Nat.le_refl _⟩
/-- A term has been appended and stored. -/
theorem Building.term {vo' : Value} {o : Int} (h : Building w base hi p b vn vo us rows out) (hv : Has (Value.int .i64) 3 w' base vo' (out ++ [o])) (hg : w.grownBy w' vo.ownBlock) (hb : ∀ k, vo'.ownBlock = some k → vo.ownBlock = some k ∨ w.heap.size ≤ k) :
    Building (w'.setCell ⟨p, 2, none⟩ vo') base w'.heap.size p b vn vo' us rows (out ++ [o]) := by
  have hI := h.terms
  have h2 := h.rows.head_grown hv (Nat.le_refl _) h.le hg hb
  have h3 := h.cells.grown hg (has_ne_c3 hI.has h.cells (by decide))
  have h4 := h2.ne_c3 h3 (by decide)
  have h5 := h2.set (a := ⟨p, 2, none⟩) h4 vo'
  have h6 := h.top.grown hg (h.top.ne_top hI.has)
  exact ⟨h6.set (a := ⟨p, 2, none⟩) (has_ne_c3 h6 h3 (by decide)) vo', h5, h3.set2 vo', Nat.le_trans h.lo (Nat.le_trans h.le hg.size), by rw [size_setCell']; exact Nat.le_refl _⟩
/-- The whole. -/
theorem Building.seq (h : Building w base hi p b vn vo us rows out) : OwnS w base w.heap.size (.agg #[.int .i64 b, vn, vo]) b rows out :=
  OwnS.make_head h.top (h.rows.mono h.le (Nat.le_refl _))
theorem Building.form (h : Building w base hi p b vn vo us rows out) : ∃ an cn ao co, vn = .slice an rows.length cn ∧ vo = .slice ao out.length co := by
  obtain ⟨an, cn, h1, _⟩ := h.top.form
  obtain ⟨ao, co, h2, _⟩ := h.terms.has.form
  exact ⟨an, cn, ao, co, by rw [h1, h.len], h2⟩
end
end Go.Proofs.Ytodnkkofammhbaa.Plain
/- A sequence that the call builds while other slices of its own grow beside it: the family of all slices of ints, in any order, and what each append makes of it. No conditions beyond those that each fact states. -/
namespace Go.Proofs.Ytodnkkofammhbaa.Plain
open Go.RowKit
set_option linter.unusedVariables false
/-- The same family in another order. -/
theorem OwnRows.reindex {w : World} {lo hi : Nat} {us us' : List Value} {rows rows' : List (List Int)} (h : OwnRows w lo hi us rows) (σ : Nat → Nat) (hlen : us'.length = rows'.length) (hu : ∀ i, i < us'.length → us'[i]? = us[σ i]?) (hr : ∀ i, i < us'.length → rows'[i]? = rows[σ i]?) (hinj : ∀ i j, i < us'.length → j < us'.length → σ i = σ j → i = j) : OwnRows w lo hi us' rows' :=
  ⟨hlen, fun i u r a b => by
    have hi' := (List.getElem?_eq_some_iff.1 a).1
    rw [hu i hi'] at a
    rw [hr i hi'] at b
    exact h.row _ u r a b, fun i j u u' a b hij => by
    have hi' := (List.getElem?_eq_some_iff.1 a).1
    have hj' := (List.getElem?_eq_some_iff.1 b).1
    rw [hu i hi'] at a
    rw [hu j hj'] at b
    exact h.apart _ _ u u' a b (fun e => hij (hinj i j hi' hj' e))⟩
theorem OwnRows.swap {w : World} {lo hi : Nat} {a b : Value} {us : List Value} {x y : List Int} {rows : List (List Int)} (h : OwnRows w lo hi (a :: b :: us) (x :: y :: rows)) : OwnRows w lo hi (b :: a :: us) (y :: x :: rows) := by
  refine h.reindex (fun | 0 => 1 | 1 => 0 | n => n) (by have := h.len; simpa using this) ?_ ?_ ?_
  · intro i _
    match i with
    | 0 => rfl
    | 1 => rfl
    | n + 2 => rfl
  · intro i _
    match i with
    | 0 => rfl
    | 1 => rfl
    | n + 2 => rfl
  · intro i j _ _ e
    match i, j, e with
    | 0, 0, _ => rfl
    | 0, 1, e => simp at e
    | 0, n + 2, e => simp at e
    | 1, 0, e => simp at e
    | 1, 1, _ => rfl
    | 1, n + 2, e => simp at e
    | n + 2, 0, e => simp at e
    | n + 2, 1, e => simp at e
    | n + 2, m + 2, e => exact e
theorem OwnRows.push {w : World} {lo hi hi' : Nat} {us : List Value} {rows : List (List Int)} {u : Value} {r : List Int} (h : OwnRows w lo hi us rows) (hu : OwnI w hi hi' u r) (hlo : lo ≤ hi) (hle : hi ≤ hi') : OwnRows w lo hi' (u :: us) (r :: rows) := by
  have h1 := h.snoc hu hlo hle
  have hl := h.len
  refine h1.reindex (fun | 0 => us.length | n + 1 => n) (by simp [hl]) ?_ ?_ ?_
  · intro i hi
    match i, hi with
    | 0, _ => simp
    | n + 1, hi => simp at hi; simp [List.getElem?_append_left hi]
  · intro i hi
    match i, hi with
    | 0, _ => simp [hl]
    | n + 1, hi =>
      simp at hi
      show rows[n]? = (rows ++ [r])[n]?
      rw [List.getElem?_append_left (by omega)]
  · intro i j hi hj e
    match i, j, hi, hj, e with
    | 0, 0, _, _, _ => rfl
    | 0, n + 1, _, hj, e => simp at hj e; omega
    | n + 1, 0, hi, _, e => simp at hi e; omega
    | n + 1, m + 1, _, _, e => exact congrArg Nat.succ e
theorem OwnRows.tail {w : World} {lo hi : Nat} {u : Value} {us : List Value} {r : List Int} {rows : List (List Int)} (h : OwnRows w lo hi (u :: us) (r :: rows)) : OwnRows w lo hi us rows :=
  h.reindex (fun n => n + 1) (by have := h.len; simpa using this) (fun i _ => rfl) (fun i _ => rfl) (fun i j _ _ e => by simpa using e)
/-- Block p holds the sequence; its slices and the slice eo of numbers ed beside it are the call's own, from block base on. -/
structure Making (w : World) (base hi p : Nat) (b : Int) (vn vo eo : Value) (us : List Value) (rows : List (List Int)) (out ed : List Int) : Prop where
  top : Has id 25 w base vn us
  fam : OwnRows w base hi (eo :: vo :: us) (ed :: out :: rows)
  cells : Cells3 w p 27 (.int .i64 b) vn vo
  lo : base ≤ hi
  le : hi ≤ w.heap.size
/-- The same with a row in the making. -/
structure Rowing (w : World) (base hi p : Nat) (b : Int) (vn vo eo ro : Value) (us : List Value) (rows : List (List Int)) (out ed r : List Int) : Prop where
  top : Has id 25 w base vn us
  fam : OwnRows w base hi (ro :: eo :: vo :: us) (r :: ed :: out :: rows)
  cells : Cells3 w p 27 (.int .i64 b) vn vo
  lo : base ≤ hi
  le : hi ≤ w.heap.size
section
variable {w w' : World} {base hi p : Nat} {b : Int} {vn vo eo ro : Value} {us : List Value} {rows : List (List Int)} {out ed r : List Int}
theorem Making.below (h : Making w base hi p b vn vo eo us rows out ed) (hb : Below w.heap.size w w') : Making w' base hi p b vn vo eo us rows out ed :=
  ⟨h.top.below hb, h.fam.below hb, h.cells.below hb, h.lo, Nat.le_trans h.le hb.size⟩
theorem Rowing.below (h : Rowing w base hi p b vn vo eo ro us rows out ed r) (hb : Below w.heap.size w w') : Rowing w' base hi p b vn vo eo ro us rows out ed r :=
  ⟨h.top.below hb, h.fam.below hb, h.cells.below hb, h.lo, Nat.le_trans h.le hb.size⟩
theorem Making.len (h : Making w base hi p b vn vo eo us rows out ed) : us.length = rows.length := by have := h.fam.len; simpa using this
theorem Rowing.len (h : Rowing w base hi p b vn vo eo ro us rows out ed r) : us.length = rows.length := by have := h.fam.len; simpa using this
theorem Making.extra (h : Making w base hi p b vn vo eo us rows out ed) : OwnI w base hi eo ed := h.fam.row 0 eo ed rfl rfl
theorem Making.terms (h : Making w base hi p b vn vo eo us rows out ed) : OwnI w base hi vo out := h.fam.row 1 vo out rfl rfl
theorem Rowing.extra (h : Rowing w base hi p b vn vo eo ro us rows out ed r) : OwnI w base hi eo ed := h.fam.row 1 eo ed rfl rfl
theorem Rowing.row_ (h : Rowing w base hi p b vn vo eo ro us rows out ed r) : OwnI w base hi ro r := h.fam.row 0 ro r rfl rfl
theorem Making.building (h : Making w base hi p b vn vo eo us rows out ed) : Building w base hi p b vn vo us rows out := ⟨h.top, h.fam.tail, h.cells, h.lo, h.le⟩
theorem Making.start (h : Cells3 w p 27 (.int .i64 b) (.slice none 0 0) (.slice none 0 0)) (he : Has (Value.int .i64) 3 w base eo ed) (hb : base ≤ w.heap.size) : Making w base w.heap.size p b (.slice none 0 0) (.slice none 0 0) eo [] [] [] ed := by
  have h1 : OwnRows w base base [.slice none 0 0] [[]] := OwnRows.one ⟨World.ownsRow_nil _ _ _ _, fun k hk => (by cases hk), hb⟩
  exact ⟨World.ownsRow_nil _ _ _ _, h1.push (own_of_has he) (Nat.le_refl _) hb, h, hb, Nat.le_refl _⟩
/-- A new row begins. -/
theorem Making.begin (h : Making w base hi p b vn vo eo us rows out ed) (hb : Below w.heap.size w w') (hr : Has (Value.int .i64) 3 w' w.heap.size ro r) : Rowing w' base w'.heap.size p b vn vo eo ro us rows out ed r := by
  have h1 := h.below hb
  have h2 : OwnI w' hi w'.heap.size ro r := ⟨hr.mono h.le, fun k hk => (hr.lt k hk).2, Nat.le_refl _⟩
  exact ⟨h1.top, h1.fam.push h2 h.lo h1.le, h1.cells, Nat.le_trans h1.lo h1.le, Nat.le_refl _⟩
/-- The row has grown. -/
theorem Rowing.grow {ro' : Value} {x : Int} (h : Rowing w base hi p b vn vo eo ro us rows out ed r) (hv : Has (Value.int .i64) 3 w' base ro' (r ++ [x])) (hg : w.grownBy w' ro.ownBlock) (hb : ∀ k, ro'.ownBlock = some k → ro.ownBlock = some k ∨ w.heap.size ≤ k) :
    Rowing w' base w'.heap.size p b vn vo eo ro' us rows out ed (r ++ [x]) :=
  ⟨h.top.grown hg (h.top.ne_top h.row_.has), h.fam.head_grown hv (Nat.le_refl _) h.le hg hb, h.cells.grown hg (has_ne_c3 h.row_.has h.cells (by decide)), Nat.le_trans h.lo (Nat.le_trans h.le hg.size), Nat.le_refl _⟩
/-- The slice beside it has grown. -/
theorem Rowing.more {eo' : Value} {x : Int} (h : Rowing w base hi p b vn vo eo ro us rows out ed r) (hv : Has (Value.int .i64) 3 w' base eo' (ed ++ [x])) (hg : w.grownBy w' eo.ownBlock) (hb : ∀ k, eo'.ownBlock = some k → eo.ownBlock = some k ∨ w.heap.size ≤ k) :
    Rowing w' base w'.heap.size p b vn vo eo' ro us rows out (ed ++ [x]) r :=
  ⟨h.top.grown hg (h.top.ne_top h.extra.has), (h.fam.swap.head_grown hv (Nat.le_refl _) h.le hg hb).swap, h.cells.grown hg (has_ne_c3 h.extra.has h.cells (by decide)), Nat.le_trans h.lo (Nat.le_trans h.le hg.size), Nat.le_refl _⟩
/-- The row has been appended and stored. -/
theorem Rowing.done {v' : Value} (h : Rowing w base hi p b vn vo eo ro us rows out ed r) (hv : Has id 25 w' base v' (us ++ [ro])) (hg : w.grownBy w' vn.ownBlock) :
    Making (w'.setCell ⟨p, 1, none⟩ v') base w'.heap.size p b v' vo eo (us ++ [ro]) (rows ++ [r]) out ed := by
  have h1 : OwnRows w base hi (eo :: vo :: (us ++ [ro])) (ed :: out :: (rows ++ [r])) := h.fam.rotate
  have h2 := h1.top_grown h.top hg
  have h3 := h.cells.grown hg (has_ne_c3 h.top h.cells (by decide))
  have h4 := h2.ne_c3 h3 (by decide)
  have h5 := (h2.mono (Nat.le_trans h.le hg.size) (Nat.le_refl _)).set (a := ⟨p, 1, none⟩) h4 v'
  exact ⟨hv.set (a := ⟨p, 1, none⟩) (has_ne_c3 hv h3 (by decide)) v', h5, h3.set1 v', Nat.le_trans h.lo (Nat.le_trans h.le hg.size), by rw [size_setCell']; exact Nat.le_refl _⟩
/-- A term has been appended and stored. -/
theorem Making.term {vo' : Value} {o : Int} (h : Making w base hi p b vn vo eo us rows out ed) (hv : Has (Value.int .i64) 3 w' base vo' (out ++ [o])) (hg : w.grownBy w' vo.ownBlock) (hb : ∀ k, vo'.ownBlock = some k → vo.ownBlock = some k ∨ w.heap.size ≤ k) :
    Making (w'.setCell ⟨p, 2, none⟩ vo') base w'.heap.size p b vn vo' eo us rows (out ++ [o]) ed := by
  have hI := h.terms
  have h2 := (h.fam.swap.head_grown hv (Nat.le_refl _) h.le hg hb).swap
  have h3 := h.cells.grown hg (has_ne_c3 hI.has h.cells (by decide))
  have h4 := h2.ne_c3 h3 (by decide)
  have h5 := h2.set (a := ⟨p, 2, none⟩) h4 vo'
  have h6 := h.top.grown hg (h.top.ne_top hI.has)
  exact ⟨h6.set (a := ⟨p, 2, none⟩) (has_ne_c3 h6 h3 (by decide)) vo', h5, h3.set2 vo', Nat.le_trans h.lo (Nat.le_trans h.le hg.size), by rw [size_setCell']; exact Nat.le_refl _⟩
theorem Making.form (h : Making w base hi p b vn vo eo us rows out ed) : ∃ an cn ao co, vn = .slice an rows.length cn ∧ vo = .slice ao out.length co := h.building.form
end
end Go.Proofs.Ytodnkkofammhbaa.Plain
/- Writes into slices that are the call's own. No conditions beyond those that each fact states. -/
namespace Go.Proofs.Ytodnkkofammhbaa.Plain
open Go.RowKit
set_option linter.unusedVariables false
/-- A term is written into an own slice. -/
theorem OwnI.write {w : World} {lo hi g n cap : Nat} {xs : List Int} (h : OwnI w lo hi (.slice (some ⟨g, 0, none⟩) n cap) xs) (j : Nat) (x : Int) : OwnI (w.setCell ⟨g, j, none⟩ (.int .i64 x)) lo hi (.slice (some ⟨g, 0, none⟩) n cap) (xs.set j x) := by
  have h0 : w.ownsRow lo 3 1 (.slice (some ⟨g, 0, none⟩) n cap) xs.length (xs.map (Value.int .i64)) := h.has
  obtain ⟨a, c, hf, _⟩ := h.has.form
  injection hf with _ h2 _
  subst h2
  have h1 := (h0.stored j (.int .i64 x)).1
  refine ⟨?_, h.lt, by rw [size_setCell']; exact h.le⟩
  show World.ownsRow _ _ _ _ _ _ _
  rw [List.length_set, List.map_set]
  exact h1
theorem OwnRows.write {w : World} {lo hi i g n cap : Nat} {us : List Value} {rows : List (List Int)} {r : List Int} (h : OwnRows w lo hi us rows) (hu : us[i]? = some (.slice (some ⟨g, 0, none⟩) n cap)) (hr : rows[i]? = some r) (j : Nat) (x : Int) :
    OwnRows (w.setCell ⟨g, j, none⟩ (.int .i64 x)) lo hi us (rows.set i (r.set j x)) := by
  refine ⟨by rw [List.length_set]; exact h.len, fun k u r' a b => ?_, h.apart⟩
  by_cases hk : i = k
  · subst hk
    rw [hu] at a
    injection a with a
    subst a
    rw [List.getElem?_set_self (List.getElem?_eq_some_iff.1 hr).1] at b
    injection b with b
    subst b
    exact (h.row i _ r hu hr).write j x
  · rw [List.getElem?_set_ne hk] at b
    refine (h.row k u r' a b).set (a := ⟨g, j, none⟩) ?_ _
    intro e
    rcases h.apart i k _ u hu a hk with h1 | h1
    · cases h1
    · exact h1 e.symm
theorem Building.write {w : World} {base hi p i g n cap : Nat} {b : Int} {vn vo : Value} {us : List Value} {rows : List (List Int)} {out r : List Int} (h : Building w base hi p b vn vo us rows out) (hu : us[i]? = some (.slice (some ⟨g, 0, none⟩) n cap)) (hr : rows[i]? = some r) (j : Nat) (x : Int) :
    Building (w.setCell ⟨g, j, none⟩ (.int .i64 x)) base hi p b vn vo us (rows.set i (r.set j x)) out := by
  have hI : OwnI w base hi (.slice (some ⟨g, 0, none⟩) n cap) r := h.rows.row (i + 1) _ r hu hr
  have h1 := h.rows.write (i := i + 1) hu hr j x
  have h2 : vn.ownBlock ≠ some g := by
    rcases h.top.ne_top hI.has with e | e
    · rw [e]; simp
    · exact e
  have h3 : g ≠ p := fun e => has_ne_c3 hI.has h.cells (by decide) (by rw [← e]; rfl)
  exact ⟨h.top.set (a := ⟨g, j, none⟩) h2 _, h1, h.cells.other (a := ⟨g, j, none⟩) h3 _, h.lo, by rw [size_setCell']; exact h.le⟩
/-- The sequence whose first row's or slice of terms' cell j is written. -/
theorem OwnS.parts_own {w : World} {lo hi : Nat} {v : Value} {b : Int} {rows : List (List Int)} {out : List Int} (h : OwnS w lo hi v b rows out) :
    ∃ an cn ao co us, v = .agg #[.int .i64 b, .slice an rows.length cn, .slice ao out.length co] ∧ OwnR w lo hi (.slice an rows.length cn) us rows ∧ OwnRows w lo hi (us ++ [.slice ao out.length co]) (rows ++ [out]) := by
  obtain ⟨vn, vo, us, rfl, h1, h2⟩ := h
  obtain ⟨an, cn, hn, _⟩ := h1.top.form
  obtain ⟨ao, co, ho⟩ := h2.last.form
  rw [h1.rows.len] at hn
  subst hn; subst ho
  exact ⟨an, cn, ao, co, us, rfl, h1, h2⟩
theorem own_at {w : World} {base : Nat} {v : Value} {xs : List Int} (h : Has (Value.int .i64) 3 w base v xs) (hp : 0 < xs.length) : ∃ g c, v = .slice (some ⟨g, 0, none⟩) xs.length c ∧ base ≤ g ∧ g < w.heap.size := by
  obtain ⟨a, c, rfl, hg⟩ := h.form
  obtain ⟨g, rfl⟩ := hg hp
  exact ⟨g, c, rfl, (h.lt g rfl).1, (h.lt g rfl).2⟩
theorem own_outj {w : World} {lo hi : Nat} {vn : Value} {ao : Option Addr} {co : Nat} {b : Int} {rows : List (List Int)} {out : List Int} (h : OwnS w lo hi (.agg #[.int .i64 b, vn, .slice ao out.length co]) b rows out) (j : Nat) (h0 : j < out.length) :
    ∃ g, ao = some ⟨g, 0, none⟩ ∧ lo ≤ g ∧ g < hi ∧ w.frozen? ⟨g, j, none⟩ = false ∧ (∃ y, w.cell? ⟨g, j, none⟩ = some y) ∧ ∀ x : Int, OwnS (w.setCell ⟨g, j, none⟩ (.int .i64 x)) lo hi (.agg #[.int .i64 b, vn, .slice ao out.length co]) b rows (out.set j x) := by
  obtain ⟨vn', vo', us, hv, hr, ho⟩ := h
  simp at hv
  obtain ⟨rfl, rfl⟩ := hv
  have hI := ho.last
  obtain ⟨g, c, hg, hl, _⟩ := own_at hI.has (show 0 < out.length by omega)
  injection hg with h1 _ h3
  subst h1; subst h3
  have hO : w.ownsRow lo 3 1 (.slice (some ⟨g, 0, none⟩) out.length co) out.length (out.map (Value.int .i64)) := hI.has
  refine ⟨g, rfl, hl, hI.lt g rfl, hO.frozenAt j, ?_, fun x => ?_⟩
  · have y3 := hO.cellAt j (by omega)
    rw [List.getElem?_map, List.getElem?_eq_getElem h0, Option.map_some] at y3
    exact ⟨_, y3⟩
  · have hu : (us ++ [Value.slice (some ⟨g, 0, none⟩) out.length co])[us.length]? = some (.slice (some ⟨g, 0, none⟩) out.length co) := by simp
    have hq : (rows ++ [out])[us.length]? = some out := by rw [hr.rows.len]; simp
    have h2 := ho.write hu hq j x
    rw [hr.rows.len, List.set_append_right _ _ (Nat.le_refl _), Nat.sub_self, List.set_cons_zero] at h2
    have ht : vn.ownBlock ≠ some g := by
      rcases hr.top.ne_top hI.has with e | e
      · rw [e]; simp
      · exact e
    have hne : ∀ u ∈ us, u.ownBlock ≠ some g := fun u hu e => by
      obtain ⟨i, hi'⟩ := List.getElem?_of_mem hu
      have hlt := (List.getElem?_eq_some_iff.1 hi').1
      rcases ho.apart i us.length u (.slice (some ⟨g, 0, none⟩) out.length co) (by rw [List.getElem?_append_left hlt]; exact hi') (by simp) (by omega) with e' | e'
      · rw [e] at e'; cases e'
      · exact e' e
    exact ⟨vn, _, us, rfl, ⟨hr.top.set (a := ⟨g, j, none⟩) ht _, hr.lt, by rw [size_setCell']; exact hr.le, hr.rows.set (a := ⟨g, j, none⟩) hne _⟩, h2⟩
theorem own_wide {w : World} {lo hi hi' : Nat} {v : Value} {b : Int} {rows : List (List Int)} {out : List Int} (h : OwnS w lo hi v b rows out) (h1 : hi ≤ hi') (h2 : hi' ≤ w.heap.size) : OwnS w lo hi' v b rows out := by
  obtain ⟨vn, vo, us, rfl, hr, ho⟩ := h
  exact ⟨vn, vo, us, rfl, ⟨hr.top, fun k hk => Nat.lt_of_lt_of_le (hr.lt k hk) h1, h2, hr.rows.mono h1 h2⟩, ho.mono h1 h2⟩
end Go.Proofs.Ytodnkkofammhbaa.Plain
/- Plain facts on numbers and bytes that the proofs of this folder share: the number that the first bytes of a string encode, and 'or' of numbers whose bits do not meet. No conditions beyond those that each fact states. -/
namespace Go.Proofs.Ytodnkkofammhbaa.Plain
open Go.PlainAid

theorem wraps_i64 (n : Int) (h₀ : 0 ≤ n) (h₁ : n < 2 ^ 63) : IntKind.i64.wrap n = n := by rw [IntKind.wrap_i64]; omega
theorem or8 (x y : Int) (h₀ : 0 ≤ x) (hx : x ≤ 9007199254740991) (hy₀ : 0 ≤ y) (hy : y ≤ 255) : bits .or .i64 (x * 256) y = x * 256 + y :=
  bits_join .i64 63 (by decide) wraps_i64 8 (x * 256) y (by omega) (by omega) (by omega) hy₀ (by omega) (by omega)

/-- The number that the first k bytes of s encode, the most significant one first. -/
def pv (s : ByteArray) : Nat → Int
  | 0 => 0
  | k + 1 => pv s k * 256 + bt s k
theorem pv_succ (s : ByteArray) (k : Nat) : pv s (k + 1) = pv s k * 256 + bt s k := rfl
theorem pv_bd (s : ByteArray) : ∀ k : Nat, 0 ≤ pv s k ∧ pv s k < 256 ^ k
  | 0 => ⟨Int.le_refl _, by show (0 : Int) < 1; omega⟩
  | k + 1 => by
    have ih := pv_bd s k
    have h1 := bt_nonneg s k
    have h2 := bt_le s k
    rw [pv_succ, Int.pow_succ]
    omega
theorem pow_le (k : Nat) (h : k ≤ 6) : (256 : Int) ^ k ≤ 281474976710656 := by
  have : k = 0 ∨ k = 1 ∨ k = 2 ∨ k = 3 ∨ k = 4 ∨ k = 5 ∨ k = 6 := by omega
  rcases this with rfl | rfl | rfl | rfl | rfl | rfl | rfl <;> decide
theorem pv_small (s : ByteArray) (k : Nat) (h : k ≤ 6) : 0 ≤ pv s k ∧ pv s k ≤ 281474976710655 := by
  have := pv_bd s k
  have := pow_le k h
  omega

/-- string(b) of a slice that the call owns. -/
theorem convert_owned {P : Program} (w : World) (src e dst : TypeId) (hs : P.underlying src = some (.slice e)) (he : P.underlying e = some (.int .u8)) (hd : P.underlying dst = some .string)
    (base : Nat) (v : Value) (n : Nat) (xs : List Int) (hown : w.ownsRow base e 1 v n (xs.map (Value.int .u8))) : (convert src dst v).run P w = .ok (.string (strOfNums xs)) w := by
  have hl : xs.length = n := by simpa using hown.1
  rcases hown.2 with ⟨rfl, rfl⟩ | ⟨g, cap, cur, rfl, _⟩
  · obtain rfl : xs = [] := List.eq_nil_of_length_eq_zero hl
    exact run_convert_bytes_nil w src e hs he 0 0 dst hd
  · refine run_convert_bytes_arg w src e hs he g 0 n cap xs hl (fun i hi => ?_) dst hd
    rw [Nat.zero_add, hown.cellAt i (by omega)]
    simp [List.getElem?_eq_getElem (show i < xs.length by omega)]

/-- The bytes of a varint: seven bits a byte, the lowest first, at most f + 1 of them. -/
def vb : Nat → Int → List Int
  | 0, n => [n]
  | f + 1, n => if n < 128 then [n] else (n % 128 + 128) :: vb f (n / 128)
theorem vb_last (f : Nat) (n : Int) (h : n < 128) : vb f n = [n] := by
  cases f with
  | zero => rfl
  | succ f => rw [vb, if_pos h]
theorem vb_step (f : Nat) (n : Int) (h : 128 ≤ n) : vb (f + 1) n = (n % 128 + 128) :: vb f (n / 128) := by rw [vb, if_neg (by omega)]
/-- Where the writing of n's varint stands: cs is written, m is left, f bytes may still come. -/
def VarintAt (n m : Int) (cs : List Int) : Prop := ∃ f : Nat, cs.length + f = 7 ∧ 0 ≤ m ∧ m < 128 ^ f ∧ cs ++ vb f m = vb 7 n
theorem varint_start (n : Int) (h0 : 0 ≤ n) (h1 : n ≤ 562949953421311) : VarintAt n n [] :=
  ⟨7, rfl, h0, by have : (128 : Int) ^ 7 = 562949953421312 := by decide
                  omega, rfl⟩
theorem varint_bd {n m : Int} {cs : List Int} (h : VarintAt n m cs) : 0 ≤ m ∧ m ≤ 562949953421311 ∧ cs.length ≤ 7 := by
  obtain ⟨f, hl, h0, h1, _⟩ := h
  have hp : (128 : Int) ^ f ≤ 128 ^ 7 := by
    have : f = 0 ∨ f = 1 ∨ f = 2 ∨ f = 3 ∨ f = 4 ∨ f = 5 ∨ f = 6 ∨ f = 7 := by omega
    rcases this with rfl | rfl | rfl | rfl | rfl | rfl | rfl | rfl <;> decide
  have : (128 : Int) ^ 7 = 562949953421312 := by decide
  omega
theorem varint_step {n m : Int} {cs : List Int} (h : VarintAt n m cs) (hm : 128 ≤ m) : VarintAt n (m / 128) (cs ++ [m % 128 + 128]) := by
  obtain ⟨f, hl, h0, h1, he⟩ := h
  cases f with
  | zero => simp at h1; omega
  | succ f =>
    rw [Int.pow_succ] at h1
    refine ⟨f, by simp; omega, by omega, by omega, ?_⟩
    rw [← he, vb_step f m hm]
    simp
theorem varint_end {n m : Int} {cs : List Int} (h : VarintAt n m cs) (hm : m < 128) : cs ++ [m] = vb 7 n := by
  obtain ⟨f, _, _, _, he⟩ := h
  rw [← he, vb_last f m hm]
end Go.Proofs.Ytodnkkofammhbaa.Plain
/- Plain facts on strings of bytes as lists of numbers: when two are equal, and what a part of a string reads as. No conditions beyond those that each fact states. -/
namespace Go.Proofs.Ytodnkkofammhbaa.Plain
open Go.PlainAid

/-- All numbers of a list are bytes. -/
def AreBytes (l : List Int) : Prop := ∀ x ∈ l, 0 ≤ x ∧ x ≤ 255
theorem u8_toNat (x : Int) (h : 0 ≤ x ∧ x ≤ 255) : ((UInt8.ofNat x.toNat).toNat : Int) = x := by
  have : (UInt8.ofNat x.toNat).toNat = x.toNat % 256 := UInt8.toNat_ofNat'
  omega
theorem bytesOf_inj : ∀ (A B : List Int), AreBytes A → AreBytes B → Lib.bytesOf A = Lib.bytesOf B → A = B
  | [], [], _, _, _ => rfl
  | [], b :: B, _, _, h => by simp [Lib.bytesOf] at h
  | a :: A, [], _, _, h => by simp [Lib.bytesOf] at h
  | a :: A, b :: B, ha, hb, h => by
    simp only [Lib.bytesOf, List.map_cons, List.cons.injEq] at h
    have e : a = b := by
      have h1 := u8_toNat a (ha a (by simp))
      have h2 := u8_toNat b (hb b (by simp))
      rw [h.1] at h1
      omega
    rw [e, bytesOf_inj A B (fun x hx => ha x (by simp [hx])) (fun x hx => hb x (by simp [hx])) h.2]
theorem nums_beq (A B : List Int) (ha : AreBytes A) (hb : AreBytes B) : ((strOfNums A).toList == (strOfNums B).toList) = decide (A = B) := by
  rw [Lib.strOfNums_toList, Lib.strOfNums_toList, Bool.eq_iff_iff, beq_iff_eq, decide_eq_true_eq]
  exact ⟨bytesOf_inj A B ha hb, fun h => by rw [h]⟩

/-- k bytes of s from i on. -/
def bseg (s : ByteArray) : Nat → Nat → List Int
  | _, 0 => []
  | i, k + 1 => bt s i :: bseg s (i + 1) k
theorem bseg_bytes (s : ByteArray) : ∀ k i : Nat, AreBytes (bseg s i k)
  | 0, _ => fun x hx => by simp [bseg] at hx
  | k + 1, i => fun x hx => by
    simp only [bseg, List.mem_cons] at hx
    rcases hx with rfl | hx
    · exact ⟨bt_nonneg s i, bt_le s i⟩
    · exact bseg_bytes s k (i + 1) x hx
theorem bseg_length (s : ByteArray) : ∀ k i : Nat, (bseg s i k).length = k
  | 0, _ => rfl
  | k + 1, i => by simp [bseg, bseg_length s k (i + 1)]
theorem bseg_snoc (s : ByteArray) : ∀ k i : Nat, bseg s i (k + 1) = bseg s i k ++ [bt s (i + k)]
  | 0, i => by simp [bseg]
  | k + 1, i => by
    show bt s i :: bseg s (i + 1) (k + 1) = _
    rw [bseg_snoc s k (i + 1), show i + 1 + k = i + (k + 1) from by omega]
    rfl
theorem bytesOf_seg (s : ByteArray) : ∀ k i : Nat, i + k ≤ s.size → Lib.bytesOf (bseg s i k) = (s.data.toList.drop i).take k
  | 0, _, _ => by simp [bseg, Lib.bytesOf]
  | k + 1, i, h => by
    have hi : i < s.data.toList.length := by rw [← Lib.size_eq]; omega
    rw [List.drop_eq_getElem_cons hi, List.take_succ_cons]
    have ih := bytesOf_seg s k (i + 1) (by omega)
    have e : Lib.bytesOf (bseg s i (k + 1)) = UInt8.ofNat (bt s i).toNat :: Lib.bytesOf (bseg s (i + 1) k) := rfl
    rw [e, ih]
    congr 1
    unfold bt
    rw [dif_pos (by omega)]
    simp
    rfl
theorem seg_extract (s : ByteArray) (i k : Nat) (h : i + k ≤ s.size) : s.extract i (i + k) = strOfNums (bseg s i k) := by
  apply ByteArray.ext
  apply Array.toList_inj.1
  rw [Lib.extract_data, strOfNums_data]
  have := bytesOf_seg s k i h
  rw [Lib.bytesOf] at this
  rw [this, show i + k - i = k from by omega]
theorem seg_take (s : ByteArray) (k : Nat) (h : k ≤ s.size) : s.extract 0 k = strOfNums (bseg s 0 k) := by
  have := seg_extract s 0 k (by omega)
  rwa [Nat.zero_add] at this
theorem seg_all (s : ByteArray) : s = strOfNums (bseg s 0 s.size) := by
  apply ByteArray.ext
  apply Array.toList_inj.1
  rw [strOfNums_data]
  have := bytesOf_seg s s.size 0 (by omega)
  rw [Lib.bytesOf] at this
  rw [this, List.drop_zero, List.take_of_length_le (by rw [← Lib.size_eq]; omega)]
theorem vb_bytes : ∀ (f : Nat) (n : Int), 0 ≤ n → n < 128 ^ (f + 1) → AreBytes (vb f n)
  | 0, n, h0, h1 => fun x hx => by simp at h1; simp [vb] at hx; omega
  | f + 1, n, h0, h1 => by
    by_cases h : n < 128
    · rw [vb_last _ _ h]
      intro x hx
      simp at hx
      omega
    · rw [vb_step _ _ (by omega)]
      have e : (128 : Int) ^ (f + 1 + 1) = 128 ^ (f + 1) * 128 := Int.pow_succ ..
      rw [e] at h1
      have ih := vb_bytes f (n / 128) (by omega) (by omega)
      intro x hx
      simp only [List.mem_cons] at hx
      rcases hx with rfl | hx
      · omega
      · exact ih x hx
theorem vb_bytes7 (n : Int) (h0 : 0 ≤ n) (h1 : n ≤ 562949953421311) : AreBytes (vb 7 n) :=
  vb_bytes 7 n h0 (by have : (128 : Int) ^ (7 + 1) = 72057594037927936 := by decide
                      omega)
end Go.Proofs.Ytodnkkofammhbaa.Plain
/- Contracts of the drawing of inputs: a cursor over the code's bytes gives some byte, some number below a bound, some number, some short text; only the cursor's own block changes, and new blocks come. No conditions beyond those that each states. -/
namespace Go.Proofs.Ytodnkkofammhbaa
open Go.ChangeShapes Go.WideShapes Go.ChangeAt Go.RowKit
open Go.ChangeMaps (open_string shut_string)
open Go.PlainAid Plain
set_option linter.unusedVariables false
namespace Cursor

theorem and255 (n : Int) : bits .and .i64 n 255 = n % 256 := by
  have h255 : (BitVec.ofInt 64 255).toNat = 2 ^ 8 - 1 := by decide
  have key : (BitVec.ofInt 64 n &&& BitVec.ofInt 64 255).toNat = (n % ((2 ^ 64 : Nat) : Int)).toNat % 2 ^ 8 := by
    rw [BitVec.toNat_and, BitVec.toNat_ofInt, h255, Nat.and_two_pow_sub_one_eq_mod]
  show IntKind.i64.wrap ((BitVec.ofInt 64 n &&& BitVec.ofInt 64 255).toNat : Nat) = n % 256
  rw [key, IntKind.wrap_i64]
  omega

/-- The code's bytes lie below block B. -/
def CodeIs (W : World) (B : Nat) (a : Option Addr) (len : Nat) : Prop :=
  len = 0 ∨ ∃ b off, a = some ⟨b, off, none⟩ ∧ b < B ∧ ∀ i, i < len → ∃ v : Int, 0 ≤ v ∧ v ≤ 255 ∧ W.cell? ⟨b, off + i, none⟩ = some (.int .u8 v)
/-- Block p is a cursor over them. -/
def CurIs (w : World) (p : Nat) (a : Option Addr) (len cap : Nat) : Prop :=
  ∃ i h : Int, 0 ≤ i ∧ i ≤ len ∧ w.heap[p]? = some (.cells #[.slice a len cap, .int .i64 i, .int .i64 h] 75 (0, 0))
def SomeInt (P : Int → Prop) (Q : World → Prop) (e : Ending) (w' : World) : Prop := ∃ n : Int, P n ∧ e = .returned (.int .i64 n) ∧ Q w'

theorem grown_setCell (w : World) (p j : Nat) (v : Value) : w.grownBy (w.setCell ⟨p, j, none⟩ v) (some p) :=
  ⟨rfl, rfl, rfl, by simp, fun k _ hk => heap_setCell_other w ⟨p, j, none⟩ k v (fun e => hk (by simp [e]))⟩
theorem grown_drewN {w w' : World} {r : Option Nat} (h : w.grownBy w' r) (n : Nat) : w.grownBy (w'.drewN n) r := ⟨h.os, h.tape, h.output, h.size, h.block⟩
theorem grown_drew {w w' : World} {r : Option Nat} (h : w.grownBy w' r) : w.grownBy w'.drew r := ⟨h.os, h.tape, h.output, h.size, h.block⟩
theorem grown_trans {w w1 w2 : World} {r : Option Nat} (h : w.grownBy w1 r) (k : w1.grownBy w2 r) : w.grownBy w2 r :=
  ⟨k.os.trans h.os, k.tape.trans h.tape, k.output.trans h.output, Nat.le_trans h.size k.size, fun i hi hne => (k.block i (Nat.lt_of_lt_of_le hi h.size) hne).trans (h.block i hi hne)⟩
theorem grown_none {w w' : World} (h : w.grownBy w' none) (r : Option Nat) : w.grownBy w' r := ⟨h.os, h.tape, h.output, h.size, fun k hk _ => h.block k hk (by simp)⟩

theorem byte (W w : World) (p : Nat) (a : Option Addr) (len cap : Nat) (hlen : len ≤ 1048576) (hcode : CodeIs W W.heap.size a len) (hb : Below W.heap.size W w) (hp : W.heap.size ≤ p) (hcur : CurIs w p a len cap) :
    Calls Try.prog 56 #[.pointer (some ⟨p, 0, none⟩)] w (SomeInt (fun x => 0 ≤ x ∧ x ≤ 255) (fun w' => w.grownBy w' (some p) ∧ CurIs w' p a len cap)) := by
  obtain ⟨i, h, hi0, hi1, hblk⟩ := hcur
  have hc0 : w.cell? ⟨p, 0, none⟩ = some (.slice a len cap) := by rw [cell_of_row w p 0 _ _ (0, 0) hblk]; rfl
  have hc1 : w.cell? ⟨p, 1, none⟩ = some (.int .i64 i) := by rw [cell_of_row w p 1 _ _ (0, 0) hblk]; rfl
  have hc2 : w.cell? ⟨p, 2, none⟩ = some (.int .i64 h) := by rw [cell_of_row w p 2 _ _ (0, 0) hblk]; rfl
  have hf1 : w.frozen? ⟨p, 1, none⟩ = false := frozen_of_row w p 1 _ _ hblk
  have hf2 : w.frozen? ⟨p, 2, none⟩ = false := frozen_of_row w p 2 _ _ hblk
  have ha := and255
  have HB := Lib.hid hblk
  clear hblk
  by_cases hlt : i < len
  · rcases hcode with hz | ⟨b, off, rfl, hbB, hcells⟩
    · omega
    · obtain ⟨k, rfl⟩ := Int.eq_ofNat_of_zero_le hi0
      obtain ⟨v, hv0, hv1, hcv⟩ := hcells k (by omega)
      have hcv' : w.cell? ⟨b, off + k, none⟩ = some (.int .u8 v) := (hb.cell (p := ⟨b, off + k, none⟩) hbB).trans hcv
      have hbp : b < p := by omega
      have hkl : k < len := by omega
      clear hcells hcv
      go_enter Try.func56, Try.ntmps56
      go_wp2
      go_quiet (fail)
      go_wp2
      go_quiet (fail)
      go_wp2
      go_quiet (fail)
      go_wp2
      go_ret
      refine ⟨_, ⟨?_, ?_⟩, rfl, ?_, (k : Int) + 1, _, by omega, by omega, heap_setCell_same _ p 1 _ _ _ (heap_setCell_same w p 2 _ _ _ HB.out)⟩
      · show 0 ≤ _ % 256
        omega
      · show _ % 256 ≤ 255
        omega
      · exact grown_trans (grown_drewN (grown_setCell _ _ _ _) _) (grown_setCell _ _ _ _)
  · go_enter Try.func56, Try.ntmps56
    go_wp2
    go_quiet (fail)
    go_wp2
    go_quiet (fail)
    go_wp2
    go_ret
    refine ⟨_, ⟨?_, ?_⟩, rfl, ?_, i, _, hi0, hi1, heap_setCell_same w p 2 _ _ _ HB.out⟩
    · show 0 ≤ _ % 256
      omega
    · show _ % 256 ≤ 255
      omega
    · repeat (first | exact grown_setCell _ _ _ _ | apply grown_drewN)

/-- What the callers of the cursor carry from world to world. -/
structure Stands (W w : World) (p : Nat) (a : Option Addr) (len cap : Nat) : Prop where
  below : Below W.heap.size W w
  own : W.heap.size ≤ p
  cur : CurIs w p a len cap
theorem Stands.lt {W w : World} {p : Nat} {a : Option Addr} {len cap : Nat} (h : Stands W w p a len cap) : p < w.heap.size := by
  obtain ⟨i, q, _, _, hb⟩ := h.cur
  exact (Array.getElem?_eq_some_iff.1 hb).1
theorem Stands.next {W w w' : World} {p : Nat} {a : Option Addr} {len cap : Nat} (h : Stands W w p a len cap) (hg : w.grownBy w' (some p)) (hc : CurIs w' p a len cap) : Stands W w' p a len cap :=
  ⟨h.below.grown hg h.below.size (fun k hk => by cases hk; exact h.own), h.own, hc⟩
/-- New blocks leave the cursor as it stands. -/
theorem Stands.alloc {W w : World} {p : Nat} {a : Option Addr} {len cap : Nat} (h : Stands W w p a len cap) (o : Obj) : Stands W (w.alloc o) p a len cap := by
  refine ⟨h.below.alloc h.below.size o, h.own, ?_⟩
  obtain ⟨i, q, h1, h2, hb⟩ := h.cur
  exact ⟨i, q, h1, h2, by rw [Below.heap_alloc w o p h.lt]; exact hb⟩

theorem below256 (W w : World) (p : Nat) (a : Option Addr) (len cap : Nat) (n : Int) (hn0 : 1 ≤ n) (hn1 : n ≤ 256) (hlen : len ≤ 1048576) (hcode : CodeIs W W.heap.size a len) (hs : Stands W w p a len cap) :
    Calls Try.prog 30 #[.pointer (some ⟨p, 0, none⟩), .int .i64 n] w (SomeInt (fun x => 0 ≤ x ∧ x < n) (fun w' => w.grownBy w' (some p) ∧ CurIs w' p a len cap)) := by
  have H := Lib.hid (byte W w p a len cap hlen hcode hs.below hs.own hs.cur)
  clear hcode hs
  go_enter Try.func30, Try.ntmps30
  go_wp2_with (go_at_call 56; refine H.out.mono ?_; rintro e w1 ⟨x, ⟨hx0, hx1⟩, rfl, hg, hc⟩)
  go_ret
  exact ⟨_, ⟨Int.emod_nonneg _ (by omega), Int.emod_lt_of_pos _ (by omega)⟩, rfl, hg, hc⟩
theorem belowBig (W w : World) (p : Nat) (a : Option Addr) (len cap : Nat) (n : Int) (hn0 : 257 ≤ n) (hn1 : n ≤ 9223372036854775807) (hlen : len ≤ 1048576) (hcode : CodeIs W W.heap.size a len) (hs : Stands W w p a len cap) :
    Calls Try.prog 30 #[.pointer (some ⟨p, 0, none⟩), .int .i64 n] w (SomeInt (fun x => 0 ≤ x ∧ x < n) (fun w' => w.grownBy w' (some p) ∧ CurIs w' p a len cap)) := by
  have H := Lib.hid (fun (w : World) (hs : Stands W w p a len cap) => byte W w p a len cap hlen hcode hs.below hs.own hs.cur)
  clear hcode
  go_enter Try.func30, Try.ntmps30
  go_wp2_with fail
  refine (H.out w hs).mono ?_
  rintro e w1 ⟨x, ⟨hx0, hx1⟩, rfl, hg1, hc1⟩
  have hs1 := hs.next hg1 hc1
  go_wp2_with fail
  refine (H.out w1 hs1).mono ?_
  rintro e w2 ⟨y, ⟨hy0, hy1⟩, rfl, hg2, hc2⟩
  have hs2 := hs1.next hg2 hc2
  go_wp2_with fail
  refine (H.out w2 hs2).mono ?_
  rintro e w3 ⟨z, ⟨hz0, hz1⟩, rfl, hg3, hc3⟩
  have hs3 := hs2.next hg3 hc3
  go_wp2_with fail
  refine (H.out w3 hs3).mono ?_
  rintro e w4 ⟨u, ⟨hu0, hu1⟩, rfl, hg4, hc4⟩
  go_wp2
  go_ret
  exact ⟨_, ⟨Int.emod_nonneg _ (by omega), Int.emod_lt_of_pos _ (by omega)⟩, rfl, grown_trans (grown_trans (grown_trans hg1 hg2) hg3) hg4, hc4⟩

theorem below (W w : World) (p : Nat) (a : Option Addr) (len cap : Nat) (n : Int) (hn0 : 1 ≤ n) (hn1 : n ≤ 9223372036854775807) (hlen : len ≤ 1048576) (hcode : CodeIs W W.heap.size a len) (hs : Stands W w p a len cap) :
    Calls Try.prog 30 #[.pointer (some ⟨p, 0, none⟩), .int .i64 n] w (SomeInt (fun x => 0 ≤ x ∧ x < n) (fun w' => w.grownBy w' (some p) ∧ CurIs w' p a len cap)) := by
  by_cases h : n ≤ 256
  · exact below256 W w p a len cap n hn0 h hlen hcode hs
  · exact belowBig W w p a len cap n (by omega) hn1 hlen hcode hs

/-- A list of numbers that lies in block q. -/
def ListIs (w : World) (q n : Nat) : Prop := ∀ j, j < n → ∃ v : Int, -9223372036854775808 ≤ v ∧ v ≤ 9223372036854775807 ∧ w.cell? ⟨q, j, none⟩ = some (.int .i64 v)
def I64 (n : Int) : Prop := -9223372036854775808 ≤ n ∧ n ≤ 9223372036854775807
theorem pickInt (W w : World) (p : Nat) (a : Option Addr) (len cap q n c : Nat) (hn : 1 ≤ n) (hn2 : n ≤ 256) (hq : q ≠ p) (hqs : q < w.heap.size) (hlist : ListIs w q n) (hlen : len ≤ 1048576) (hcode : CodeIs W W.heap.size a len) (hs : Stands W w p a len cap) :
    Calls Try.prog 52 #[.pointer (some ⟨p, 0, none⟩), .slice (some ⟨q, 0, none⟩) n c] w (SomeInt I64 (fun w' => w.grownBy w' (some p) ∧ CurIs w' p a len cap)) := by
  have H := Lib.hid (below W w p a len cap n (by omega) (by omega) hlen hcode hs)
  have HL := Lib.hid hlist
  clear hcode hs hlist
  go_enter Try.func52, Try.ntmps52
  go_wp2_with fail
  refine H.out.mono ?_
  rintro e w1 ⟨x, ⟨hx0, hx1⟩, rfl, hg, hc⟩
  obtain ⟨k, rfl⟩ := Int.eq_ofNat_of_zero_le hx0
  have hkn : k < n := by omega
  obtain ⟨v, hv0, hv1, hcv⟩ := HL.out k hkn
  have hcell : w1.cell? ⟨q, k, none⟩ = some (.int .i64 v) := hg.cell hcv (by simp [hq])
  have HV : Hid (I64 v) := ⟨hv0, hv1⟩
  clear hcv hv0 hv1
  go_wp2
  go_ret
  exact ⟨v, HV.out, rfl, hg, hc⟩
end Cursor
end Go.Proofs.Ytodnkkofammhbaa
/- Contracts of the drawing of one chapter's inputs: a new cursor over the code, some number, some short text. No conditions beyond those that each states. -/
namespace Go.Proofs.Ytodnkkofammhbaa
open Go.ChangeShapes Go.WideShapes Go.ChangeAt Go.RowKit
open Go.ChangeMaps (open_string shut_string)
open Go.PlainAid Plain
set_option linter.unusedVariables false
namespace Cursor
/-- What is written elsewhere leaves the cursor as it stands. -/
theorem Stands.other {W w w' : World} {p : Nat} {a : Option Addr} {len cap : Nat} (h : Stands W w p a len cap) {r : Option Nat} (hg : w.grownBy w' r) (hr : ∀ q, r = some q → q ≠ p ∧ W.heap.size ≤ q) : Stands W w' p a len cap := by
  refine ⟨h.below.grown hg h.below.size (fun k hk => (hr k hk).2), h.own, ?_⟩
  obtain ⟨i, q, h1, h2, hb⟩ := h.cur
  exact ⟨i, q, h1, h2, by rw [hg.block p h.lt (fun e => (hr p e.symm).1 rfl)]; exact hb⟩
theorem and30 (n : Int) : bits .and .i64 n 1073741823 = n % 1073741824 := by
  have h255 : (BitVec.ofInt 64 1073741823).toNat = 2 ^ 30 - 1 := by decide
  have key : (BitVec.ofInt 64 n &&& BitVec.ofInt 64 1073741823).toNat = (n % ((2 ^ 64 : Nat) : Int)).toNat % 2 ^ 30 := by
    rw [BitVec.toNat_and, BitVec.toNat_ofInt, h255, Nat.and_two_pow_sub_one_eq_mod]
  show IntKind.i64.wrap ((BitVec.ofInt 64 n &&& BitVec.ofInt 64 1073741823).toNat : Nat) = n % 1073741824
  rw [key, IntKind.wrap_i64]
  omega
def SomeCur (w : World) (a : Option Addr) (len cap : Nat) (e : Ending) (w' : World) : Prop := ∃ p, e = .returned (.pointer (some ⟨p, 0, none⟩)) ∧ w.heap.size ≤ p ∧ w.grownBy w' none ∧ CurIs w' p a len cap
set_option maxRecDepth 100000 in
theorem new (W w : World) (a : Option Addr) (len cap : Nat) (hlen : len ≤ 1048576) (hcode : CodeIs W W.heap.size a len) (hb : Below W.heap.size W w) :
    Calls Try.prog 28 #[.slice a len cap] w (SomeCur w a len cap) := by
  have ha := and30
  have HC := Lib.hid hcode
  go_enter Try.func28, Try.ntmps28
  go_wp2
  go_loop [3, 4] (fun h' i' => ∃ (h : Int) (i : Nat), 0 ≤ h ∧ h ≤ 1073741823 ∧ i ≤ len ∧ i ≤ 4000 ∧ h' = .int .i64 h ∧ i' = .int .i64 i) (fun _ i' => 4000 - (intOf i').toNat)
  case atStart => exact ⟨_, 0, by omega, by omega, by omega, by omega, rfl, rfl⟩
  case round =>
    clear hcode
    obtain ⟨h, i, hh0, hh1, hi, hi4, rfl, rfl⟩ := hrel
    by_cases hlt : i < len
    · by_cases h4 : i < 4000
      · rcases HC.out with hz | ⟨b, off, rfl, hbB, hcells⟩
        · omega
        · obtain ⟨v, hv0, hv1, hcv⟩ := hcells i hlt
          have hcv' : w.cell? ⟨b, off + i, none⟩ = some (.int .u8 v) := (hb.cell (p := ⟨b, off + i, none⟩) hbB).trans hcv
          have hd : decide (i < len) = true := decide_eq_true hlt
          clear hcells hcv
          go_wp2
          go_round
          case rel => exact ⟨_, i + 1, Int.emod_nonneg _ (by decide), by have := Int.emod_lt_of_pos (h * 131 + v + 7) (show (0 : Int) < 1073741824 by decide); omega, by omega, by omega, rfl, by go_num⟩
          case measure => simp [intOf]; omega
      · have hd : decide (i < len) = true := decide_eq_true hlt
        have hd2 : decide (i < 4000) = false := decide_eq_false h4
        go_wp2
        go_ret
        exact ⟨w.heap.size, rfl, Nat.le_refl _, World.grownBy_alloc w _ none, 0, h, by omega, by omega, heap_alloc_new w _⟩
    · have hd : decide (i < len) = false := decide_eq_false hlt
      go_wp2
      go_ret
      exact ⟨w.heap.size, rfl, Nat.le_refl _, World.grownBy_alloc w _ none, 0, h, by omega, by omega, heap_alloc_new w _⟩

/-- The numbers of which a draw picks one. -/
def picks : List Int := [-1, 0, 127, 128, 255, 256, 16383, 16384, 65535, 65536, 562949953421311, 562949953421312, 999999999, 1000000000, -999999999, 9223372036854775807, -9223372036854775808]
theorem picks_ok : ∀ v ∈ picks, I64 v := by unfold picks I64; simp
theorem picks_list (w : World) (T : TypeId) : ListIs (w.alloc (.cells (picks.map (Value.int .i64)).toArray T)) w.heap.size 17 := by
  intro j hj
  have hl : j < picks.length := by show j < 17; exact hj
  have := picks_ok picks[j] (List.getElem_mem hl)
  refine ⟨picks[j], this.1, this.2, ?_⟩
  rw [cell_of_row _ w.heap.size j _ T (0, 0) (heap_alloc_new w _)]
  simp [hl]

/-- Some text of at most n bytes. -/
def SomeText (n : Nat) (Q : World → Prop) (e : Ending) (w' : World) : Prop := ∃ s : ByteArray, s.size ≤ n ∧ e = .returned (.string s) ∧ Q w'
theorem info5 : (Try.prog.info? 5).map (fun i => (i.zero, i.size, i.bytes)) = some (some (.int .u8 0), 1, 1) := by kernel_rfl
end Cursor
end Go.Proofs.Ytodnkkofammhbaa
/- What a sequence in the making keeps while a block of another moves (a cursor), and what a term written into one of its slices makes of it. No conditions beyond those that each fact states. -/
namespace Go.Proofs.Ytodnkkofammhbaa.Plain
open Go.RowKit
set_option linter.unusedVariables false
section
variable {w w1 w2 : World} {c : Nat}
theorem grown_more {r : Option Nat} (h : w.grownBy w1 (some c)) (g : w1.grownBy w2 r) (hr : ∀ k, r = some k → k = c ∨ w.heap.size ≤ k) : w.grownBy w2 (some c) :=
  ⟨g.os.trans h.os, g.tape.trans h.tape, g.output.trans h.output, Nat.le_trans h.size g.size, fun k hk hn => by
    rw [g.block k (Nat.lt_of_lt_of_le hk h.size) (fun e => by
      rcases hr k e.symm with h1 | h1
      · exact hn (by rw [h1])
      · omega)]
    exact h.block k hk hn⟩
theorem grown_fresh (w : World) (o : Obj) : w.grownBy (w.alloc o) none := grown_of_below ((Below.refl _ _).alloc (Nat.le_refl _) o)
theorem grown_new (h : w.grownBy w1 (some c)) (o : Obj) : w.grownBy (w1.alloc o) (some c) := grown_more h (grown_fresh w1 o) (fun k hk => by cases hk)
theorem grown_set (h : w.grownBy w1 (some c)) {q j : Nat} (hq : w.heap.size ≤ q) (v : Value) : w.grownBy (w1.setCell ⟨q, j, none⟩ v) (some c) :=
  grown_more h (Cursor.grown_setCell w1 q j v) (fun k hk => by cases hk; exact .inr hq)
theorem grown_self (w : World) (c : Nat) : w.grownBy w (some c) := ⟨rfl, rfl, rfl, Nat.le_refl _, fun k _ _ => rfl⟩
end
theorem OwnRows.moved {w w' : World} {lo hi c : Nat} {us : List Value} {rows : List (List Int)} (h : OwnRows w lo hi us rows) (hg : w.grownBy w' (some c)) (hc : c < lo) : OwnRows w' lo hi us rows :=
  ⟨h.len, fun i u r a b => (h.row i u r a b).grown hg (fun k hk => by cases hk; exact .inl hc), h.apart⟩
theorem Has.moved {α : Type} {enc : α → Value} {e : TypeId} {w w' : World} {base c : Nat} {v : Value} {xs : List α} (h : Has enc e w base v xs) (hg : w.grownBy w' (some c)) (hc : c < base) : Has enc e w' base v xs :=
  h.grown hg (by
    cases hv : v.ownBlock with
    | none => exact .inl rfl
    | some q => exact .inr (fun e => by have := (h.lt q hv).1; cases e; omega))
section
variable {w w' : World} {base hi p c : Nat} {b : Int} {vn vo eo ro : Value} {us : List Value} {rows : List (List Int)} {out ed r : List Int}
theorem Making.moved (h : Making w base hi p b vn vo eo us rows out ed) (hg : w.grownBy w' (some c)) (hc : c < base) (hp : c ≠ p) : Making w' base hi p b vn vo eo us rows out ed :=
  ⟨h.top.moved hg hc, h.fam.moved hg hc, h.cells.grown hg (by simpa using hp), h.lo, Nat.le_trans h.le hg.size⟩
theorem Rowing.moved (h : Rowing w base hi p b vn vo eo ro us rows out ed r) (hg : w.grownBy w' (some c)) (hc : c < base) (hp : c ≠ p) : Rowing w' base hi p b vn vo eo ro us rows out ed r :=
  ⟨h.top.moved hg hc, h.fam.moved hg hc, h.cells.grown hg (by simpa using hp), h.lo, Nat.le_trans h.le hg.size⟩
end
end Go.Proofs.Ytodnkkofammhbaa.Plain
