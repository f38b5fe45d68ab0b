/- Several texts of this proof, one behind the other: each says ahead of it what it shows and under which conditions. -/
import Derived.WalkKit
import Derived.PlainAid
import Derived.Laws.BitsLemmas
import Derived.Laws.BytesArg
import Derived.OwnWalk
import Derived.Lib.Hide
import Derived.Deep.RegionLaw
import Derived.Deep.QuietTactic
import Derived.Lib.OthersKept
import Derived.WalkSmall
import Derived.Below
import Derived.Laws.CopyOwn
import Derived.Laws.AppendOwnNone
import Derived.Test.YtgbgcaaekpgapacRows
import Derived.ProofKit
import Derived.OpenShut
import Derived.BigQuiet
import Derived.IntWalk
import Derived.OneCell
import Derived.Outline
import Derived.ChangeOld
import Derived.Deep.Matrix
import Derived.Lib.SmallJoins
/- Plain facts on numbers and bytes that the proofs of this folder share: the number that the first bytes of a string encode, and 'or' of numbers whose bits do not meet. No conditions beyond those that each fact states. -/
namespace Go.Proofs.Ytgbgcaaekpgapac.Plain
open Go.PlainAid

theorem wraps_i64 (n : Int) (h₀ : 0 ≤ n) (h₁ : n < 2 ^ 63) : IntKind.i64.wrap n = n := by rw [IntKind.wrap_i64]; omega
theorem or8 (x y : Int) (h₀ : 0 ≤ x) (hx : x ≤ 9007199254740991) (hy₀ : 0 ≤ y) (hy : y ≤ 255) : bits .or .i64 (x * 256) y = x * 256 + y :=
  bits_join .i64 63 (by decide) wraps_i64 8 (x * 256) y (by omega) (by omega) (by omega) hy₀ (by omega) (by omega)

/-- The number that the first k bytes of s encode, the most significant one first. -/
def pv (s : ByteArray) : Nat → Int
  | 0 => 0
  | k + 1 => pv s k * 256 + bt s k
theorem pv_succ (s : ByteArray) (k : Nat) : pv s (k + 1) = pv s k * 256 + bt s k := rfl
theorem pv_bd (s : ByteArray) : ∀ k : Nat, 0 ≤ pv s k ∧ pv s k < 256 ^ k
  | 0 => ⟨Int.le_refl _, by show (0 : Int) < 1; omega⟩
  | k + 1 => by
    have ih := pv_bd s k
    have h1 := bt_nonneg s k
    have h2 := bt_le s k
    rw [pv_succ, Int.pow_succ]
    omega
theorem pow_le (k : Nat) (h : k ≤ 6) : (256 : Int) ^ k ≤ 281474976710656 := by
  have : k = 0 ∨ k = 1 ∨ k = 2 ∨ k = 3 ∨ k = 4 ∨ k = 5 ∨ k = 6 := by omega
  rcases this with rfl | rfl | rfl | rfl | rfl | rfl | rfl <;> decide
theorem pv_small (s : ByteArray) (k : Nat) (h : k ≤ 6) : 0 ≤ pv s k ∧ pv s k ≤ 281474976710655 := by
  have := pv_bd s k
  have := pow_le k h
  omega

/-- string(b) of a slice that the call owns. -/
theorem convert_owned {P : Program} (w : World) (src e dst : TypeId) (hs : P.underlying src = some (.slice e)) (he : P.underlying e = some (.int .u8)) (hd : P.underlying dst = some .string)
    (base : Nat) (v : Value) (n : Nat) (xs : List Int) (hown : w.ownsRow base e 1 v n (xs.map (Value.int .u8))) : (convert src dst v).run P w = .ok (.string (strOfNums xs)) w := by
  have hl : xs.length = n := by simpa using hown.1
  rcases hown.2 with ⟨rfl, rfl⟩ | ⟨g, cap, cur, rfl, _⟩
  · obtain rfl : xs = [] := List.eq_nil_of_length_eq_zero hl
    exact run_convert_bytes_nil w src e hs he 0 0 dst hd
  · refine run_convert_bytes_arg w src e hs he g 0 n cap xs hl (fun i hi => ?_) dst hd
    rw [Nat.zero_add, hown.cellAt i (by omega)]
    simp [List.getElem?_eq_getElem (show i < xs.length by omega)]

/-- The bytes of a varint: seven bits a byte, the lowest first, at most f + 1 of them. -/
def vb : Nat → Int → List Int
  | 0, n => [n]
  | f + 1, n => if n < 128 then [n] else (n % 128 + 128) :: vb f (n / 128)
theorem vb_last (f : Nat) (n : Int) (h : n < 128) : vb f n = [n] := by
  cases f with
  | zero => rfl
  | succ f => rw [vb, if_pos h]
theorem vb_step (f : Nat) (n : Int) (h : 128 ≤ n) : vb (f + 1) n = (n % 128 + 128) :: vb f (n / 128) := by rw [vb, if_neg (by omega)]
/-- Where the writing of n's varint stands: cs is written, m is left, f bytes may still come. -/
def VarintAt (n m : Int) (cs : List Int) : Prop := ∃ f : Nat, cs.length + f = 7 ∧ 0 ≤ m ∧ m < 128 ^ f ∧ cs ++ vb f m = vb 7 n
theorem varint_start (n : Int) (h0 : 0 ≤ n) (h1 : n ≤ 562949953421311) : VarintAt n n [] :=
  ⟨7, rfl, h0, by have : (128 : Int) ^ 7 = 562949953421312 := by decide
                  omega, rfl⟩
theorem varint_bd {n m : Int} {cs : List Int} (h : VarintAt n m cs) : 0 ≤ m ∧ m ≤ 562949953421311 ∧ cs.length ≤ 7 := by
  obtain ⟨f, hl, h0, h1, _⟩ := h
  have hp : (128 : Int) ^ f ≤ 128 ^ 7 := by
    have : f = 0 ∨ f = 1 ∨ f = 2 ∨ f = 3 ∨ f = 4 ∨ f = 5 ∨ f = 6 ∨ f = 7 := by omega
    rcases this with rfl | rfl | rfl | rfl | rfl | rfl | rfl | rfl <;> decide
  have : (128 : Int) ^ 7 = 562949953421312 := by decide
  omega
theorem varint_step {n m : Int} {cs : List Int} (h : VarintAt n m cs) (hm : 128 ≤ m) : VarintAt n (m / 128) (cs ++ [m % 128 + 128]) := by
  obtain ⟨f, hl, h0, h1, he⟩ := h
  cases f with
  | zero => simp at h1; omega
  | succ f =>
    rw [Int.pow_succ] at h1
    refine ⟨f, by simp; omega, by omega, by omega, ?_⟩
    rw [← he, vb_step f m hm]
    simp
theorem varint_end {n m : Int} {cs : List Int} (h : VarintAt n m cs) (hm : m < 128) : cs ++ [m] = vb 7 n := by
  obtain ⟨f, _, _, _, he⟩ := h
  rw [← he, vb_last f m hm]
end Go.Proofs.Ytgbgcaaekpgapac.Plain
/- Small laws for walks: append of new values onto a slice that the call owns, told with what stays below; a slice that the call owns as a list. No conditions beyond those that each states. -/
namespace Go.Proofs.Ytgbgcaaekpgapac.Plain
open Go.RowKit

theorem addr_add (g j : Nat) : (⟨g, 0, none⟩ : Addr).add j = ⟨g, j, none⟩ := by unfold Addr.add; split <;> simp_all

/-- 'out = append(out, x, ..)' of values that lie in a block which the statement has just laid. -/
theorem append_new {P : Program} (w0 wr : World) {ops : Array Oper} {rest : List Oper} {o : Oper} {a : Act} {Q : Exit → Act → World → Prop} (hgd : o.guard = none) (s x : Operand) (t : TypeId)
    (ho : o.op = .call { callee := .builtin .append, args := #[s, x], argTypes := #[t, t] })
    (base : Nat) (e : TypeId) (i : TypeInfo) (z : Value) (bytes : Nat) (ht : P.underlying t = some (.slice e)) (hi : P.info? e = some i) (hz : i.zero = some z)
    (hsize : i.size = 1) (hby : i.bytes = bytes) (hzs : z.cells.size = 1)
    (v : Value) (n : Nat) (xs : List Value) (hs : a.eval s = v) (hown : wr.ownsRow base e 1 v n xs)
    (news : List Value) (c : Nat) (hx : a.eval x = .slice (some ⟨wr.heap.size, 0, none⟩) news.length c) (h1 : ∀ u ∈ news, u.oneCell' = true)
    (hbytes : (n + news.length) * bytes ≤ 140737488355328) (h63 : n + news.length ≤ 9223372036854775807) (hbel : Below w0.heap.size w0 wr) (hbase : w0.heap.size ≤ base) (hb2 : base ≤ wr.heap.size)
    (h : ∀ v' w', w'.ownsRow base e 1 v' (n + news.length) (xs ++ news) → Below w0.heap.size w0 w' → wpList P ops Q rest (a.put o.dst v') w') :
    wpList P ops Q (o :: rest) a (wr.alloc (.cells news.toArray e)) := by
  refine wpList_append_own _ hgd s x t ho base e i z 1 bytes ht hi hz hsize hby hzs (by decide) v n xs hs (hown.alloc _) ⟨wr.heap.size, 0, none⟩ news.length c news hx (by omega) ?_ h1 (by unfold maxLen; omega) hbytes (by simp; omega) ?_
  · intro j u hj
    rw [addr_add, cell_of_row _ wr.heap.size j news.toArray e (0, 0) (heap_alloc_new wr _)]
    simpa using hj
  · intro v' w' hown' hgrow _
    have hsz := hbel.size
    refine h v' w' hown' ((hbel.alloc hsz _).grown hgrow (by simp; omega) ?_)
    intro k hk
    have := (hown.alloc (.cells news.toArray e)).lt k hk
    omega

/-- The same, told with what may have changed: new blocks, and the slice's own block. -/
theorem append_grown {P : Program} (wr : World) {ops : Array Oper} {rest : List Oper} {o : Oper} {a : Act} {Q : Exit → Act → World → Prop} (hgd : o.guard = none) (s x : Operand) (t : TypeId)
    (ho : o.op = .call { callee := .builtin .append, args := #[s, x], argTypes := #[t, t] })
    (base : Nat) (e : TypeId) (i : TypeInfo) (z : Value) (bytes : Nat) (ht : P.underlying t = some (.slice e)) (hi : P.info? e = some i) (hz : i.zero = some z)
    (hsize : i.size = 1) (hby : i.bytes = bytes) (hzs : z.cells.size = 1)
    (v : Value) (n : Nat) (xs : List Value) (hs : a.eval s = v) (hown : wr.ownsRow base e 1 v n xs)
    (news : List Value) (c : Nat) (hx : a.eval x = .slice (some ⟨wr.heap.size, 0, none⟩) news.length c) (h1 : ∀ u ∈ news, u.oneCell' = true)
    (hbytes : (n + news.length) * bytes ≤ 140737488355328) (h63 : n + news.length ≤ 9223372036854775807) (hb2 : base ≤ wr.heap.size)
    (h : ∀ v' w', w'.ownsRow base e 1 v' (n + news.length) (xs ++ news) → wr.grownBy w' v.ownBlock → wpList P ops Q rest (a.put o.dst v') w') :
    wpList P ops Q (o :: rest) a (wr.alloc (.cells news.toArray e)) := by
  refine wpList_append_own _ hgd s x t ho base e i z 1 bytes ht hi hz hsize hby hzs (by decide) v n xs hs (hown.alloc _) ⟨wr.heap.size, 0, none⟩ news.length c news hx (by omega) ?_ h1 (by unfold maxLen; omega) hbytes (by simp; omega) ?_
  · intro j u hj
    rw [addr_add, cell_of_row _ wr.heap.size j news.toArray e (0, 0) (heap_alloc_new wr _)]
    simpa using hj
  · intro v' w' hown' hgrow _
    have hg0 := World.grownBy_alloc wr (.cells news.toArray e) v.ownBlock
    exact h v' w' hown' ⟨hgrow.os.trans hg0.os, hgrow.tape.trans hg0.tape, hgrow.output.trans hg0.output, Nat.le_trans hg0.size hgrow.size, fun k hk hne => (hgrow.block k (Nat.lt_of_lt_of_le hk hg0.size) hne).trans (hg0.block k hk hne)⟩

/-- The same inside a region that draws its order: the world is whatever it is; the new values lie in block g. -/
theorem step_append_at {P : Program} (w0 : World) {ops : Array Oper} {o : Oper} {a : Act} {wx : World} {K : Act → World → Prop} {Q : Exit → Act → World → Prop} {E : Prop}
    (hgd : o.guard = none) (s x : Operand) (t : TypeId) (hop : o.op = Op.call { callee := Callee.builtin Builtin.append, args := #[s, x], argTypes := #[t, t] })
    (base : Nat) (e : TypeId) (i : TypeInfo) (z : Value) (bytes : Nat) (ht : P.underlying t = some (.slice e)) (hi : P.info? e = some i) (hz : i.zero = some z)
    (hsize : i.size = 1) (hby : i.bytes = bytes) (hzs : z.cells.size = 1)
    (v : Value) (n : Nat) (xs : List Value) (hs : a.eval s = v) (hown : wx.ownsRow base e 1 v n xs)
    (news : List Value) (g c : Nat) (hx : a.eval x = .slice (some ⟨g, 0, none⟩) news.length c) (hnews : ∀ j u, news[j]? = some u → wx.cell? ⟨g, j, none⟩ = some u) (h1 : ∀ u ∈ news, u.oneCell' = true)
    (hbytes : (n + news.length) * bytes ≤ 140737488355328) (h63 : n + news.length ≤ 9223372036854775807) (hbel : Below w0.heap.size w0 wx) (hbase : w0.heap.size ≤ base) (hb2 : base ≤ wx.heap.size)
    (hK : ∀ v' w', w'.ownsRow base e 1 v' (n + news.length) (xs ++ news) → Below w0.heap.size w0 w' → K (a.put o.dst v') w') :
    if Region.wanted o (yielded ops a.tmps) = true then Oper.wp P o a wx K Q else E := by
  have hw : Region.wanted o (yielded ops a.tmps) = true := by simp [Region.wanted, hgd]
  rw [if_pos hw]
  refine wp_append_own _ s x t hop base e i z 1 bytes ht hi hz hsize hby hzs (by decide) v n xs hs hown ⟨g, 0, none⟩ news.length c news hx (by omega) ?_ h1 (by unfold maxLen; omega) hbytes hb2 ?_
  · intro j u hj
    rw [addr_add]
    exact hnews j u hj
  · intro v' w' hown' hgrow _
    have hsz := hbel.size
    refine hK v' w' hown' (hbel.grown hgrow hsz ?_)
    intro k hk
    have := hown.lt k hk
    omega
/-- A callee that leaves the world alone, called in a quiet region that stands behind another one. -/
theorem still_again {P : Program} {f : FuncId} {args : Array Value} {w : World} {i j : Nat} {v : Value} (c : ∀ W : World, Calls P f args W fun e w' => e = .returned v ∧ w' = W) :
    Calls P f args (w.drewN (i + j)) fun e w'' => e = .returned v ∧ ∃ m, w'' = w.drewN (i + m) :=
  (c _).mono fun _ _ ⟨he, hw⟩ => ⟨he, j, hw⟩
/-- A step of a string's iterator leaves every owned row owned. -/
theorem owns_iterAt {w : World} {base : Nat} {e : TypeId} {size : Nat} {v : Value} {n : Nat} {xs : List Value} (h : w.ownsRow base e size v n xs) {k : Nat} {s : ByteArray} {p0 : Nat} (hk : w.heap[k]? = some (.stringIter s p0)) (p : Nat) : (w.iterAt k s p).ownsRow base e size v n xs := by
  obtain ⟨h1, h2⟩ := h
  refine ⟨h1, ?_⟩
  rcases h2 with h2 | ⟨g, cap, cur, a, b, c, d⟩
  · exact .inl h2
  · have hne : g ≠ k := fun e => by rw [e, hk] at c; cases c
    exact .inr ⟨g, cap, cur, a, b, by rw [Lib.iterAt_other _ _ _ _ _ hne]; exact c, d⟩
/-- Two new values in a block that was just laid. -/
theorem two_cells (w : World) (e : TypeId) (a b : Value) : ∀ j u, [a, b][j]? = some u → (w.alloc (.cells #[a, b] e)).cell? ⟨w.heap.size, j, none⟩ = some u := by
  intro j u hj
  rw [cell_of_row _ w.heap.size j #[a, b] e (0, 0) (heap_alloc_new w _)]
  simpa using hj
theorem one_cell (w : World) (e : TypeId) (a : Value) : ∀ j u, [a][j]? = some u → (w.alloc (.cells #[a] e)).cell? ⟨w.heap.size, j, none⟩ = some u := by
  intro j u hj
  rw [cell_of_row _ w.heap.size j #[a] e (0, 0) (heap_alloc_new w _)]
  simpa using hj
end Go.Proofs.Ytgbgcaaekpgapac.Plain
/- Slices as lists: what it is that a slice value reads as a list, and that the call owns one; what stays of both from world to world. No conditions beyond those that each fact states. -/
namespace Go.Proofs.Ytgbgcaaekpgapac.Plain
open Go.RowKit

theorem addr_plus (b o j : Nat) : (⟨b, o, none⟩ : Addr).add j = ⟨b, o + j, none⟩ := by unfold Addr.add; split <;> simp_all
theorem set_mid {α : Type} (A C : List α) (b x : α) (n : Nat) (h : A.length = n) : (A ++ b :: C).set n x = A ++ x :: C := by subst h; simp
section
variable {α : Type} {enc : α → Value} {e : TypeId} {w w' : World} {base : Nat} {v : Value} {xs : List α}

/-- In w the slice v holds the list xs, an element a cell. -/
def Lies (enc : α → Value) (w : World) (v : Value) (xs : List α) : Prop :=
  xs.length ≤ 9223372036854775807 ∧ ∃ a cap, v = .slice a xs.length cap ∧ (a = none → cap = 0) ∧ ∀ i x, xs[i]? = some x → ∃ b off, a = some ⟨b, off, none⟩ ∧ w.cell? ⟨b, off + i, none⟩ = some (enc x)
/-- The slice v is the call's own, its block one from base on, and holds the list xs. -/
def Has (enc : α → Value) (e : TypeId) (w : World) (base : Nat) (v : Value) (xs : List α) : Prop := w.ownsRow base e 1 v xs.length (xs.map enc)
/-- A call that hands back a new slice with the list xs. -/
def Gives (enc : α → Value) (e : TypeId) (xs : List α) (w : World) (en : Ending) (w' : World) : Prop := ∃ v, en = .returned v ∧ Has enc e w' w.heap.size v xs ∧ Below w.heap.size w w'

theorem Has.form (h : Has enc e w base v xs) : ∃ a cap, v = .slice a xs.length cap ∧ (0 < xs.length → ∃ g, a = some ⟨g, 0, none⟩) := by
  rcases h.2 with ⟨rfl, hn⟩ | ⟨g, cap, cur, rfl, _⟩
  · exact ⟨none, 0, by rw [hn], fun h => by omega⟩
  · exact ⟨_, cap, rfl, fun _ => ⟨g, rfl⟩⟩
theorem Has.small (h : Has enc e w base v xs) : xs.length ≤ 9223372036854775807 := by
  rcases h.2 with ⟨rfl, hn⟩ | ⟨g, cap, cur, rfl, _, _, hc, hm, _⟩
  · omega
  · unfold maxLen at hm; omega
theorem Has.lies (h : Has enc e w base v xs) : Lies enc w v xs := by
  refine ⟨h.small, ?_⟩
  rcases h.2 with ⟨rfl, hn⟩ | ⟨g, cap, cur, rfl, hb, hg, hc, hm, hs, ht⟩
  · refine ⟨none, 0, by rw [hn], fun _ => rfl, fun i x hx => ?_⟩
    rw [List.eq_nil_of_length_eq_zero hn] at hx
    cases hx
  · refine ⟨_, cap, rfl, fun h => (by cases h), fun i x hx => ⟨g, 0, rfl, ?_⟩⟩
    have hi : i < xs.length := (List.getElem?_eq_some_iff.1 hx).1
    have h2 : w.ownsRow base e 1 (.slice (some ⟨g, 0, none⟩) xs.length cap) xs.length (xs.map enc) := h
    rw [Nat.zero_add, h2.cellAt i (by omega)]
    simp [hx]
theorem Lies.keep (h : Lies enc w v xs) (hk : ∀ k, v.ownBlock = some k → k < w.heap.size → w'.heap[k]? = w.heap[k]?) : Lies enc w' v xs := by
  obtain ⟨hl, a, cap, rfl, hn, hc⟩ := h
  refine ⟨hl, a, cap, rfl, hn, fun i x hx => ?_⟩
  obtain ⟨b, off, rfl, hcell⟩ := hc i x hx
  have hb : b < w.heap.size := World.block_lt_of_cell? w _ hcell
  exact ⟨b, off, rfl, by rw [← hcell]; exact World.cell?_of_block (hk b rfl hb)⟩
/-- What was there when the call began is there still. -/
theorem Lies.below (h : Lies enc w v xs) (hb : Below w.heap.size w w') : Lies enc w' v xs := h.keep fun k _ hk => hb.block k hk
theorem Lies.grown {row : Option Nat} (h : Lies enc w v xs) (hg : w.grownBy w' row) (hr : v.ownBlock = none ∨ v.ownBlock ≠ row) : Lies enc w' v xs :=
  h.keep fun k hk hlt => hg.block k hlt (by rintro rfl; simp [hk] at hr)
theorem Has.mono {base' : Nat} (h : Has enc e w base v xs) (hb : base' ≤ base) : Has enc e w base' v xs := ⟨h.1, h.2.imp id fun ⟨g, cap, cur, h1, h2, r⟩ => ⟨g, cap, cur, h1, Nat.le_trans hb h2, r⟩⟩
theorem Has.lt (h : Has enc e w base v xs) : ∀ k, v.ownBlock = some k → base ≤ k ∧ k < w.heap.size := World.ownsRow.lt h
theorem grown_of_below (hb : Below w.heap.size w w') : w.grownBy w' none := ⟨hb.os, hb.tape, hb.output, hb.size, fun k hk _ => hb.block k hk⟩
theorem below_of_grown (hb : w.grownBy w' none) : Below w.heap.size w w' := ⟨hb.os, hb.tape, hb.output, hb.size, fun k hk => hb.block k hk (by simp)⟩
theorem Has.below (h : Has enc e w base v xs) (hb : Below w.heap.size w w') : Has enc e w' base v xs := World.ownsRow.kept h (grown_of_below hb) (by cases v.ownBlock <;> simp)
theorem Has.grown {row : Option Nat} (h : Has enc e w base v xs) (hg : w.grownBy w' row) (hr : v.ownBlock = none ∨ v.ownBlock ≠ row) : Has enc e w' base v xs := World.ownsRow.kept h hg hr
/-- Two slices of the call's own that were made one behind the other share no block. -/
theorem Has.apart {β : Type} {enc' : β → Value} {e' : TypeId} {u : Value} {ys : List β} {b' : Nat} {w1 : World} (h : Has enc e w base v xs) (h' : Has enc' e' w1 b' u ys) (hb : w.heap.size ≤ b') :
    (u.ownBlock = none ∨ u.ownBlock ≠ v.ownBlock) ∧ (v.ownBlock = none ∨ v.ownBlock ≠ u.ownBlock) := by
  have h1 := h.lt
  have h2 := h'.lt
  cases hv : v.ownBlock with
  | none => exact ⟨by cases hu : u.ownBlock <;> simp, .inl rfl⟩
  | some p =>
    cases hu : u.ownBlock with
    | none => exact ⟨.inl rfl, .inr (by simp)⟩
    | some q =>
      have := h1 p hv
      have := h2 q hu
      exact ⟨.inr (by simp; omega), .inr (by simp; omega)⟩
theorem grown_trans' {w2 : World} {r : Option Nat} (h : w.grownBy w' r) (k : w'.grownBy w2 r) : w.grownBy w2 r :=
  ⟨k.os.trans h.os, k.tape.trans h.tape, k.output.trans h.output, Nat.le_trans h.size k.size, fun i hi hne => (k.block i (Nat.lt_of_lt_of_le hi h.size) hne).trans (h.block i hi hne)⟩
/-- What is written into a slice of the call's own touches nothing below. -/
theorem Has.frame {w0 : World} (h : Has enc e w base v xs) (hb : Below w0.heap.size w0 w) (hB : w0.heap.size ≤ base) (hg : w.grownBy w' v.ownBlock) : Below w0.heap.size w0 w' :=
  hb.grown hg hb.size (fun k hk => Nat.le_trans hB (h.lt k hk).1)
/-- 'append(v, u...)', v a slice of the call's own, u any slice. -/
theorem append_lies {P : Program} (w : World) {ops : Array Oper} {rest : List Oper} {o : Oper} {a : Act} {Q : Exit → Act → World → Prop} (hgd : o.guard = none) (s x : Operand) (t : TypeId)
    (ho : o.op = .call { callee := .builtin .append, args := #[s, x], argTypes := #[t, t] })
    (base : Nat) (i : TypeInfo) (z : Value) (bytes : Nat) (ht : P.underlying t = some (.slice e)) (hi : P.info? e = some i) (hz : i.zero = some z)
    (hsize : i.size = 1) (hby : i.bytes = bytes) (hzs : z.cells.size = 1)
    (v : Value) (xs : List α) (hs : a.eval s = v) (hown : Has enc e w base v xs) (u : Value) (ys : List α) (hx : a.eval x = u) (hu : Lies enc w u ys)
    (h1 : ∀ y : α, (enc y).oneCell' = true) (hbytes : (xs.length + ys.length) * bytes ≤ 140737488355328) (h63 : xs.length + ys.length ≤ 9223372036854775807) (hb2 : base ≤ w.heap.size)
    (h : ∀ v' w', Has enc e w' base v' (xs ++ ys) → w.grownBy w' v.ownBlock → wpList P ops Q rest (a.put o.dst v') w') :
    wpList P ops Q (o :: rest) a w := by
  obtain ⟨hl, A, cap, rfl, hnone, hc⟩ := hu
  have hh : ∀ v' w', w'.ownsRow base e 1 v' (xs.length + ys.length) (xs.map enc ++ ys.map enc) → w.grownBy w' v.ownBlock → wpList P ops Q rest (a.put o.dst v') w' := by
    intro v' w' ho' hg'
    refine h v' w' ?_ hg'
    show w'.ownsRow base e 1 v' _ _
    rw [List.length_append, List.map_append]
    exact ho'
  cases A with
  | none =>
    obtain rfl := hnone rfl
    have hy : ys = [] := by
      cases ys with
      | nil => rfl
      | cons y l => obtain ⟨_, _, h', _⟩ := hc 0 y rfl; cases h'
    subst hy
    exact wpList_append_own_none hgd s x t ho base e i 1 ht hi v xs.length (xs.map enc) hs hown hx (hh v w (by simpa [Has] using hown) (World.grownBy.refl w _))
  | some ad =>
    refine wpList_append_own w hgd s x t ho base e i z 1 bytes ht hi hz hsize hby hzs (by decide) v xs.length (xs.map enc) hs hown ad ys.length cap (ys.map enc) hx (by simp) ?_ ?_ (by unfold maxLen; omega) hbytes hb2 (fun v' w' h1 h2 _ => hh v' w' h1 h2)
    · intro j y hj
      rw [List.getElem?_map, Option.map_eq_some_iff] at hj
      obtain ⟨x', hx', rfl⟩ := hj
      obtain ⟨b, off, he, hcell⟩ := hc j x' hx'
      obtain rfl := Option.some.inj he
      rw [addr_plus]
      exact hcell
    · intro y hy
      obtain ⟨x', _, rfl⟩ := List.mem_map.1 hy
      exact h1 x'
/-- A slice literal that has just been laid. -/
theorem Has.lit (w : World) (cs : List α) (hb : base ≤ w.heap.size) (hm : cs.length ≤ 9223372036854775807) : Has enc e (w.alloc (.cells (cs.map enc).toArray e)) base (.slice (some ⟨w.heap.size, 0, none⟩) cs.length cs.length) cs := by
  have := World.ownsRow_lit (base := base) (e := e) (size := 1) w (cs.map enc).toArray cs.length hb (by unfold maxLen; omega) (by simp)
  simpa [Has] using this
/-- 'v = append(v, x)', v a slice of the call's own; the new value lies in a block that the statement has just laid. -/
theorem append_one {P : Program} (wr : World) {ops : Array Oper} {rest : List Oper} {o : Oper} {a : Act} {Q : Exit → Act → World → Prop} (hgd : o.guard = none) (s x : Operand) (t : TypeId)
    (ho : o.op = .call { callee := .builtin .append, args := #[s, x], argTypes := #[t, t] })
    (base : Nat) (i : TypeInfo) (z : Value) (bytes : Nat) (ht : P.underlying t = some (.slice e)) (hi : P.info? e = some i) (hz : i.zero = some z)
    (hsize : i.size = 1) (hby : i.bytes = bytes) (hzs : z.cells.size = 1)
    (v : Value) (xs : List α) (hs : a.eval s = v) (hown : Has enc e wr base v xs) (y : α) (hx : a.eval x = .slice (some ⟨wr.heap.size, 0, none⟩) 1 1)
    (h1 : ∀ y : α, (enc y).oneCell' = true) (hbytes : (xs.length + 1) * bytes ≤ 140737488355328) (h63 : xs.length + 1 ≤ 9223372036854775807) (hb2 : base ≤ wr.heap.size)
    (h : ∀ v' w', Has enc e w' base v' (xs ++ [y]) → wr.grownBy w' v.ownBlock → wpList P ops Q rest (a.put o.dst v') w') :
    wpList P ops Q (o :: rest) a (wr.alloc (.cells #[enc y] e)) := by
  have hlit : Has enc e (wr.alloc (.cells #[enc y] e)) wr.heap.size (.slice (some ⟨wr.heap.size, 0, none⟩) 1 1) [y] := Has.lit (enc := enc) (e := e) wr [y] (Nat.le_refl _) (by simp)
  refine append_lies (enc := enc) (e := e) _ hgd s x t ho base i z bytes ht hi hz hsize hby hzs v xs hs (hown.below ((Below.refl _ _).alloc (Nat.le_refl _) _)) _ [y] hx hlit.lies h1 hbytes h63 (by simp; omega) ?_
  intro v' w' ho' hg
  have hg0 := World.grownBy_alloc wr (.cells #[enc y] e) v.ownBlock
  exact h v' w' ho' (grown_trans' hg0 hg)
theorem take_mid {β : Type} (X R cs : List β) (off k : Nat) (hk : cs.length = k) (hf : off + k ≤ X.length) : ((X ++ R).take off ++ (cs ++ (X ++ R).drop (off + k))).take X.length = X.take off ++ (cs ++ X.drop (off + k)) := by
  have e1 : (X ++ R).take off = X.take off := List.take_append_of_le_length (by omega)
  have e2 : (X ++ R).drop (off + k) = X.drop (off + k) ++ R := List.drop_append_of_le_length hf
  rw [e1, e2]
  have h : X.length = (X.take off ++ (cs ++ X.drop (off + k))).length := by simp; omega
  rw [← List.append_assoc cs, ← List.append_assoc (X.take off), h]
  exact List.take_left
/-- 'copy(d, u)', d a part of a slice of the call's own, u any slice: k elements are laid over it from place off on. -/
theorem copy_has {P : Program} {w : World} {ops : Array Oper} {rest : List Oper} {o : Oper} {a : Act} {Q : Exit → Act → World → Prop} (hgd : o.guard = none) (d s : Operand) (dT sT : TypeId)
    (ho : o.op = .call { callee := .builtin .copy, args := #[d, s], argTypes := #[dT, sT] }) (hu : P.underlying dT = some (.slice e)) (hsz : (P.info? e).map (·.size) = some 1)
    (g n cap : Nat) (xs : List α) (hown : Has enc e w base (.slice (some ⟨g, 0, none⟩) n cap) xs)
    (dp : Option Addr) (dLen dCap : Nat) (hd : a.eval d = .slice dp dLen dCap) (u : Value) (ys : List α) (hs : a.eval s = u) (hl : Lies enc w u ys) (h1 : ∀ y : α, (enc y).oneCell' = true)
    (off k : Nat) (hk : k = min ys.length dLen) (hdp : 0 < k → dp = some ⟨g, off, none⟩) (hfit : off + k ≤ xs.length)
    (h : ∀ w', Has enc e w' base (.slice (some ⟨g, 0, none⟩) n cap) (xs.take off ++ (ys.take k ++ xs.drop (off + k))) → w.grownBy w' (some g) → wpList P ops Q rest (a.put o.dst (goInt k)) w') :
    wpList P ops Q (o :: rest) a w := by
  obtain ⟨_, A, c2, rfl, hnone, hc⟩ := hl
  rcases Nat.eq_zero_or_pos k with h0 | h0
  · subst h0
    refine wpList_copy_nothing hgd d s dT sT ho e hu hsz dp A dLen dCap ys.length c2 hd hs hk.symm ?_
    exact h w (by simpa [List.take_append_drop] using hown) (World.grownBy.refl _ _)
  · obtain rfl := hdp h0
    obtain ⟨y0, hy0⟩ : ∃ y, ys[0]? = some y := ⟨ys[0]'(by omega), List.getElem?_eq_getElem (by omega)⟩
    obtain ⟨b, o2, rfl, _⟩ := hc 0 y0 hy0
    have hown2 := hown
    rcases hown.2 with ⟨hv, _⟩ | ⟨g', cap', cur, hv, hbase, hg, hnc, hcm, hcs, htake⟩
    · cases hv
    · injection hv with e1 e2 e3
      injection e1 with e1
      injection e1 with e1
      subst e1; subst e3
      have hcs' : ((ys.take k).map enc).length = k := by simp; omega
      have hX : (xs.map enc).length = xs.length := by simp
      have hcur : cur.toList = xs.map enc ++ cur.toList.drop xs.length := by
        rw [Nat.mul_one] at htake
        rw [← htake, List.take_append_drop]
      have hlen : cur.toList.length = cap := by rw [Array.length_toList]; omega
      refine wpList_copy_own hgd d s dT sT ho e hu hsz g off dLen dCap ⟨b, o2, none⟩ ys.length c2 hd hs cur e hg ((ys.take k).map enc) (by rw [hcs', hk]) ?_ (by rw [hcs']; omega) ?_ ?_
      · intro j y hj
        rw [List.getElem?_map, List.getElem?_take] at hj
        split at hj
        · rw [Option.map_eq_some_iff] at hj
          obtain ⟨x', hx', rfl⟩ := hj
          obtain ⟨b', o', he, hcell⟩ := hc j x' hx'
          injection he with he
          injection he with he1 he2
          subst he1; subst he2
          rw [addr_plus]
          exact hcell
        · cases hj
      · intro y hy
        obtain ⟨x', _, rfl⟩ := List.mem_map.1 hy
        exact h1 x'
      · rw [hcs']
        subst e2
        have hl2 : (xs.take off ++ (ys.take k ++ xs.drop (off + k))).length = xs.length := by
          rw [List.length_append, List.length_append, List.length_take, List.length_take, List.length_drop]; omega
        have hsz2 : (cur.toList.take off ++ ((ys.take k).map enc ++ cur.toList.drop (off + k))).length = cap := by
          rw [List.length_append, List.length_append, hcs', List.length_take, List.length_drop, hlen]; omega
        refine h _ ?_ ⟨rfl, rfl, rfl, Nat.le_of_eq (size_setRow w g _).symm, fun i _ hi => setRow_other w g i _ (fun he => hi (by rw [he]))⟩
        show World.ownsRow _ base e 1 _ _ _
        rw [hl2]
        refine ⟨by rw [List.length_map, hl2, Nat.mul_one], .inr ⟨g, cap, _, rfl, hbase, setRow_heap w g cur _ e _ hg, by omega, hcm, by rw [List.size_toArray, hsz2, Nat.mul_one], ?_⟩⟩
        rw [Nat.mul_one]
        show (cur.toList.take off ++ ((ys.take k).map enc ++ cur.toList.drop (off + k))).take xs.length = _
        rw [hcur, ← hX, take_mid (xs.map enc) _ ((ys.take k).map enc) off k hcs' (by omega)]
        simp [List.map_take, List.map_drop]
end
end Go.Proofs.Ytgbgcaaekpgapac.Plain
/- Contracts of the exact laws' own helpers on slices of ints: copying one, comparing two, writing marks into one, asking for the marks. No conditions beyond those that each states. -/
namespace Go.Proofs.Ytgbgcaaekpgapac
open Go.ChangeShapes Go.WideShapes Go.ChangeAt Go.RowKit
open Go.PlainAid Plain
set_option linter.unusedVariables false
namespace Ints
theorem infoI : (Try.prog.info? 3).map (fun i => (i.zero, i.size, i.bytes)) = some (some (.int .i64 0), 1, 8) := by kernel_rfl
theorem eq_yes (u v : Value) (xs : List Int) (w : World) (h1 : Lies (Value.int .i64) w u xs) (h2 : Lies (Value.int .i64) w v xs) :
    Calls Try.prog 26 #[u, v] w fun e w' => e = .returned (.bool true) ∧ Below w.heap.size w w' := by
  obtain ⟨hl, a, ca, rfl, _, hca⟩ := h1
  obtain ⟨_, b, cb, rfl, _, hcb⟩ := h2
  have HA := Lib.hid hca
  have HB := Lib.hid hcb
  clear hca hcb
  go_enter Try.func26, Try.ntmps26
  go_wp2
  go_loopw [5] (fun i' wr => ∃ k : Nat, k ≤ xs.length ∧ i' = .int .i64 k ∧ ∃ n, wr = w.drewN n) (fun i' _ => xs.length - (intOf i').toNat)
  case atStart => exact ⟨0, Nat.zero_le _, rfl, 0, rfl⟩
  case round =>
    obtain ⟨k, hk, rfl, n, rfl⟩ := hrel
    by_cases hlt : k < xs.length
    · obtain ⟨p, o, rfl, hc1⟩ := HA.out k _ (List.getElem?_eq_getElem hlt)
      obtain ⟨q, r, rfl, hc2⟩ := HB.out k _ (List.getElem?_eq_getElem hlt)
      go_wp2
      go_quiet (fail)
      go_wp2
      go_roundw
      case rel => exact ⟨k + 1, by omega, by go_num, _, rfl⟩
      case measure => simp [intOf]; omega
    · go_wp2
      go_ret
      exact ⟨rfl, below_drewN (Below.refl _ _) _⟩
/-- n marks from k on. -/
def marks (k : Int) (n : Nat) : List Int := (List.range n).map (fun j : Nat => k + j)
theorem marks_len (k : Int) (n : Nat) : (marks k n).length = n := by simp [marks]
theorem marks_at (k : Int) (n i : Nat) (h : i < n) : (marks k n)[i]? = some (k + i) := by simp [marks, h]
theorem marks_succ (k : Int) (n : Nat) : marks k (n + 1) = marks k n ++ [k + n] := by simp [marks, List.range_succ]
theorem marks_set (k : Int) (i : Nat) (xs : List Int) (h : i < xs.length) : ((marks k i ++ xs.drop i).map (Value.int .i64)).set i (.int .i64 (k + i)) = (marks k (i + 1) ++ xs.drop (i + 1)).map (Value.int .i64) := by
  rw [List.drop_eq_getElem_cons h, List.map_append, List.map_cons, set_mid _ _ _ _ i (by rw [List.length_map, marks_len]), marks_succ, List.append_assoc, List.map_append]
  rfl
theorem mark (v : Value) (xs : List Int) (w : World) (base : Nat) (k : Int) (h : Has (Value.int .i64) 3 w base v xs) (h0 : 0 ≤ k) (h1 : k + xs.length ≤ 9223372036854775807) :
    Calls Try.prog 28 #[v, .int .i64 k] w fun e w' => e = .returned (.int .i64 (k + xs.length)) ∧ Has (Value.int .i64) 3 w' base v (marks k xs.length) ∧ w.grownBy w' v.ownBlock := by
  obtain ⟨a, ca, rfl, hform⟩ := h.form
  have HF := Lib.hid hform
  have HO : Hid (w.ownsRow base 3 1 (.slice a xs.length ca) xs.length ((marks k 0 ++ xs.drop 0).map (Value.int .i64))) := h
  clear hform h
  go_enter Try.func28, Try.ntmps28
  go_wp2
  go_loopw [1, 5] (fun k' i' wr => ∃ i : Nat, i ≤ xs.length ∧ k' = .int .i64 (k + i) ∧ i' = .int .i64 i ∧ Hid (wr.ownsRow base 3 1 (.slice a xs.length ca) xs.length ((marks k i ++ xs.drop i).map (Value.int .i64))) ∧ Hid (w.grownBy wr (Value.slice a xs.length ca).ownBlock)) (fun _ i' _ => xs.length - (intOf i').toNat)
  case atStart => exact ⟨0, Nat.zero_le _, by simp, rfl, HO, World.grownBy.refl _ _⟩
  case round =>
    obtain ⟨i, hi, rfl, rfl, hown, hg⟩ := hrel
    by_cases hlt : i < xs.length
    · obtain ⟨g, rfl⟩ := HF.out (by omega)
      have hc : wr.cell? ⟨g, i, none⟩ = some (.int .i64 xs[i]) := by
        rw [hown.out.cellAt i (by omega)]
        rw [List.getElem?_map, List.getElem?_append_right (by simp [marks_len])]
        simp [marks_len, hlt]
      have hfr := hown.out.frozenAt i
      have hst := hown.out.stored i (.int .i64 (k + i))
      rw [marks_set k i xs hlt] at hst
      have HS := Lib.hid hst
      clear hst hown
      go_wp2
      go_roundw
      case rel => exact ⟨i + 1, by omega, by go_num, by go_num, HS.out.1, grown_trans' hg.out HS.out.2⟩
      case measure => simp [intOf]; omega
    · obtain rfl : i = xs.length := by omega
      have H2 : Hid (Has (Value.int .i64) 3 wr base (.slice a xs.length ca) (marks k xs.length)) := by
        show wr.ownsRow base 3 1 _ _ _
        have := hown.out
        rw [List.drop_length, List.append_nil] at this
        rw [marks_len]
        exact this
      clear hown hlt hi
      go_wp2
      go_ret
      exact ⟨rfl, H2.out, hg.out⟩
theorem held (v : Value) (n : Nat) (w : World) (k : Int) (h : Lies (Value.int .i64) w v (marks k n)) (h0 : 0 ≤ k) (h1 : k + n ≤ 9223372036854775807) :
    Calls Try.prog 30 #[v, .int .i64 k] w fun e w' => e = .returned (.int .i64 (k + n)) ∧ w = w' := by
  obtain ⟨hl, a, ca, rfl, _, hc⟩ := h
  rw [marks_len] at *
  have HC := Lib.hid hc
  clear hc
  go_enter Try.func30, Try.ntmps30
  go_wp2
  go_loop [1, 5] (fun k' i' => ∃ i : Nat, i ≤ n ∧ k' = .int .i64 (k + i) ∧ i' = .int .i64 i) (fun _ i' => n - (intOf i').toNat)
  case atStart => exact ⟨0, Nat.zero_le _, by simp, rfl⟩
  case round =>
    obtain ⟨i, hi, rfl, rfl⟩ := hrel
    by_cases hlt : i < n
    · obtain ⟨q, r, rfl, hc2⟩ := HC.out i _ (marks_at k n i hlt)
      go_wp2
      go_round
      case rel => exact ⟨i + 1, by omega, by go_num, by go_num⟩
      case measure => simp [intOf]; omega
    · obtain rfl : i = n := by omega
      go_wp2
      go_ret
      exact ⟨rfl, rfl⟩
theorem take_set (xs : List Int) (i : Nat) (h : i < xs.length) : ((xs.take i ++ List.replicate (xs.length - i) (0 : Int)).map (Value.int .i64)).set i (.int .i64 xs[i]) = (xs.take (i + 1) ++ List.replicate (xs.length - (i + 1)) (0 : Int)).map (Value.int .i64) := by
  rw [show xs.length - i = (xs.length - (i + 1)) + 1 from by omega, List.replicate_succ, List.map_append, List.map_cons, set_mid _ _ _ _ i (by rw [List.length_map, List.length_take]; omega), List.take_succ_eq_append_getElem h, List.append_assoc, List.map_append]
  rfl
theorem zero_made (a : Nat) : (madeCells (Value.int .i64 0).cells (a * 1)).toList = (List.replicate a (0 : Int)).map (Value.int .i64) := by
  rw [show (Value.int .i64 0).cells = #[Value.int .i64 0] from rfl, toList_madeCells_one]
  simp
theorem made_has {w1 : World} {base n : Nat} {v : Value} (h : w1.ownsRow base 3 1 v n (madeCells (Value.int .i64 0).cells (n * 1)).toList) : Has (Value.int .i64) 3 w1 base v (List.replicate n 0) := by
  rw [zero_made] at h
  show w1.ownsRow _ _ _ _ _ _
  rw [List.length_replicate]
  exact h
theorem size_i : (Try.prog.info? 3).map (·.size) = some 1 := by kernel_rfl
theorem copied (v : Value) (xs : List Int) (w : World) (h : Lies (Value.int .i64) w v xs) (hs : xs.length ≤ 1048576) :
    Calls Try.prog 23 #[v] w (Gives (Value.int .i64) 3 xs w) := by
  obtain ⟨i0, hi, hz0, hz1, hz2⟩ := info_parts infoI
  obtain ⟨hl, a, ca, rfl, _, hc⟩ := h
  have HC := Lib.hid hc
  clear hc
  go_enter Try.func23, Try.ntmps23
  go_wp2_with (at_make; refine wpList_make_full w rfl _ _ 23 rfl w.heap.size 3 i0 (.int .i64 0) 1 Try.underlying23 hi hz0 hz1 .i64 .i64 _ _ xs.length rfl rfl rfl rfl (by rw [hz2]; omega) (by unfold maxLen; omega) (Nat.le_refl _) ?_; intro w1 hown hgrow)
  have hown0 : Hid (w1.ownsRow w.heap.size 3 1 (.slice (some ⟨w.heap.size, 0, none⟩) xs.length xs.length) xs.length ((xs.take 0 ++ List.replicate (xs.length - 0) (0 : Int)).map (Value.int .i64))) := by
    show w1.ownsRow _ _ _ _ _ _
    rw [zero_made] at hown
    simpa using hown
  have hbel0 := Lib.hid (below_of_grown hgrow)
  clear hown hgrow
  go_loopw [4] (fun i' wr => ∃ i : Nat, i ≤ xs.length ∧ i' = .int .i64 i ∧ Hid (wr.ownsRow w.heap.size 3 1 (.slice (some ⟨w.heap.size, 0, none⟩) xs.length xs.length) xs.length ((xs.take i ++ List.replicate (xs.length - i) (0 : Int)).map (Value.int .i64))) ∧ Hid (Below w.heap.size w wr)) (fun i' _ => xs.length - (intOf i').toNat)
  case atStart => exact ⟨0, Nat.zero_le _, rfl, hown0, hbel0⟩
  case round =>
    obtain ⟨i, hi, rfl, hown, hbel⟩ := hrel
    by_cases hlt : i < xs.length
    · obtain ⟨b, o, rfl, hc1⟩ := HC.out i _ (List.getElem?_eq_getElem hlt)
      have hc2 : wr.cell? ⟨b, o + i, none⟩ = some (.int .i64 xs[i]) := (hbel.out.cell (p := ⟨b, o + i, none⟩) (World.block_lt_of_cell? w _ hc1)).trans hc1
      have hne : b ≠ w.heap.size := by have := World.block_lt_of_cell? w _ hc1; simp at this; omega
      have hc : wr.cell? ⟨w.heap.size, i, none⟩ = some (.int .i64 0) := by
        rw [hown.out.cellAt i (by omega)]
        rw [List.getElem?_map, List.getElem?_append_right (by rw [List.length_take]; omega), List.length_take, List.getElem?_replicate, if_pos (by omega)]
        rfl
      have hfr := hown.out.frozenAt i
      have hst := hown.out.stored i (.int .i64 xs[i])
      rw [take_set xs i hlt] at hst
      have HS := Lib.hid hst
      clear hst hown hc1
      go_wp2
      go_roundw
      case rel => exact ⟨i + 1, by omega, by go_num, HS.out.1, hbel.out.setCell (Nat.le_refl _) _⟩
      case measure => simp [intOf]; omega
    · obtain rfl : i = xs.length := by omega
      have H2 : Hid (Has (Value.int .i64) 3 wr w.heap.size (.slice (some ⟨w.heap.size, 0, none⟩) xs.length xs.length) xs) := by
        show wr.ownsRow _ _ _ _ _ _
        have := hown.out
        simpa using this
      clear hown hlt hi
      go_wp2
      go_ret
      exact ⟨_, rfl, H2.out, hbel.out⟩
/-- A slice of ints that came in. -/
theorem lies_of_row {w : World} {a : Option Addr} {len cap : Nat} {zs : List Int}
    (h : (a = none ∧ len = 0 ∧ cap = 0 ∧ zs = []) ∨ ∃ x, a = some x ∧ len ≤ cap ∧ cap ≤ maxLen ∧ zs.length = cap ∧ (∀ i, i < zs.length → w.cell? (x.add i) = some (.int .i64 (zs.getD i 0))) ∧ ∀ n ∈ zs, (Lit.int .i64 n).wf = true) :
    ∃ xs : List Int, len = xs.length ∧ Lies (Value.int .i64) w (.slice a xs.length cap) xs := by
  rcases h with ⟨rfl, rfl, rfl, rfl⟩ | ⟨x, rfl, hl, hm, hz, hcell, _⟩
  · exact ⟨[], rfl, by simp, none, 0, rfl, fun _ => rfl, fun i x hx => by cases hx⟩
  · have hlen : (zs.take len).length = len := by rw [List.length_take]; omega
    refine ⟨zs.take len, hlen.symm, by rw [hlen]; unfold maxLen at hm; omega, some x, cap, rfl, (fun h => by cases h), fun i y hy => ?_⟩
    rw [List.getElem?_take] at hy
    split at hy
    · have hi : i < zs.length := (List.getElem?_eq_some_iff.1 hy).1
      have hc := hcell i hi
      obtain ⟨b, off, spot⟩ := x
      have h0 := hcell 0 (by omega)
      obtain rfl : spot = none := by simpa [Addr.add] using World.cell?_spot h0
      rw [addr_plus] at hc
      rw [show zs.getD i 0 = y from by simp [List.getD, hy]] at hc
      exact ⟨b, off, rfl, hc⟩
    · cases hy
end Ints
end Go.Proofs.Ytgbgcaaekpgapac
/- Slices of slices of ints and sequences as lists: what it is that such a value reads as lists, and that the call owns all of it in an interval of blocks; what stays of both from world to world. No conditions beyond those that each fact states. -/
namespace Go.Proofs.Ytgbgcaaekpgapac.Plain
open Go.RowKit

/-- Only new blocks, and writes into blocks of the listed slices. -/
structure Wrote (us : List Value) (w w' : World) : Prop where
  os : w'.os = w.os
  tape : w'.tape = w.tape
  output : w'.output = w.output
  size : w.heap.size ≤ w'.heap.size
  block : ∀ k, k < w.heap.size → (∀ u ∈ us, u.ownBlock ≠ some k) → w'.heap[k]? = w.heap[k]?
theorem Wrote.refl (us : List Value) (w : World) : Wrote us w w := ⟨rfl, rfl, rfl, Nat.le_refl _, fun _ _ _ => rfl⟩
theorem Wrote.trans {us : List Value} {a b c : World} (h : Wrote us a b) (k : Wrote us b c) : Wrote us a c :=
  ⟨k.os.trans h.os, k.tape.trans h.tape, k.output.trans h.output, Nat.le_trans h.size k.size, fun i hi hn => (k.block i (Nat.lt_of_lt_of_le hi h.size) hn).trans (h.block i hi hn)⟩
theorem Wrote.mono {us us' : List Value} {w w' : World} (h : Wrote us w w') (hs : ∀ u ∈ us, u ∈ us') : Wrote us' w w' := ⟨h.os, h.tape, h.output, h.size, fun k hk hn => h.block k hk fun u hu => hn u (hs u hu)⟩
theorem Wrote.of_grown {w w' : World} {v : Value} (h : w.grownBy w' v.ownBlock) : Wrote [v] w w' := ⟨h.os, h.tape, h.output, h.size, fun k hk hn => h.block k hk fun e => hn v (by simp) e.symm⟩
theorem Wrote.of_below {us : List Value} {w w' : World} (h : Below w.heap.size w w') : Wrote us w w' := ⟨h.os, h.tape, h.output, h.size, fun k hk _ => h.block k hk⟩

/-- Only new blocks, and writes into the blocks from lo to hi. -/
structure Touch (lo hi : Nat) (w w' : World) : Prop where
  os : w'.os = w.os
  tape : w'.tape = w.tape
  output : w'.output = w.output
  size : w.heap.size ≤ w'.heap.size
  block : ∀ k, k < w.heap.size → (k < lo ∨ hi ≤ k) → w'.heap[k]? = w.heap[k]?
theorem Touch.trans {lo hi : Nat} {a b c : World} (h : Touch lo hi a b) (k : Touch lo hi b c) : Touch lo hi a c :=
  ⟨k.os.trans h.os, k.tape.trans h.tape, k.output.trans h.output, Nat.le_trans h.size k.size, fun i hi hn => (k.block i (Nat.lt_of_lt_of_le hi h.size) hn).trans (h.block i hi hn)⟩
theorem Touch.of_wrote {us : List Value} {lo hi : Nat} {w w' : World} (h : Wrote us w w') (hu : ∀ u ∈ us, ∀ k, u.ownBlock = some k → lo ≤ k ∧ k < hi) : Touch lo hi w w' :=
  ⟨h.os, h.tape, h.output, h.size, fun k hk hn => h.block k hk fun u hu' e => by have := hu u hu' k e; omega⟩
theorem Touch.below {lo hi : Nat} {w0 w w' : World} (h : Touch lo hi w w') (hb : Below w0.heap.size w0 w) (hlo : w0.heap.size ≤ lo) : Below w0.heap.size w0 w' :=
  ⟨h.os.trans hb.os, h.tape.trans hb.tape, h.output.trans hb.output, Nat.le_trans hb.size h.size, fun k hk => (h.block k (Nat.lt_of_lt_of_le hk hb.size) (.inl (by omega))).trans (hb.block k hk)⟩

theorem Touch.of_set {lo hi : Nat} {w : World} {a : Addr} (v : Value) (h1 : lo ≤ a.block) (h2 : a.block < hi) : Touch lo hi w (w.setCell a v) :=
  ⟨rfl, rfl, rfl, by simp [World.setCell], fun k _ hn => by
    have : a.block ≠ k := by omega
    simp [World.setCell, Array.getElem?_modify, this]⟩
/-- A slice of ints of the call's own, its block from lo to hi. -/
structure OwnI (w : World) (lo hi : Nat) (v : Value) (xs : List Int) : Prop where
  has : Has (Value.int .i64) 3 w lo v xs
  lt : ∀ k, v.ownBlock = some k → k < hi
  le : hi ≤ w.heap.size
theorem Has.of_same {α : Type} {enc : α → Value} {e : TypeId} {w w' : World} {base : Nat} {v : Value} {xs : List α} (h : Has enc e w base v xs) (hk : ∀ k, v.ownBlock = some k → w'.heap[k]? = w.heap[k]?) : Has enc e w' base v xs :=
  ⟨h.1, h.2.imp id fun ⟨g, cap, cur, h1, h2, h3, r⟩ => ⟨g, cap, cur, h1, h2, (hk g (by rw [h1]; rfl)).trans h3, r⟩⟩
theorem OwnI.lies {w : World} {lo hi : Nat} {v : Value} {xs : List Int} (h : OwnI w lo hi v xs) : Lies (Value.int .i64) w v xs := h.has.lies
theorem OwnI.range {w : World} {lo hi : Nat} {v : Value} {xs : List Int} (h : OwnI w lo hi v xs) : ∀ k, v.ownBlock = some k → lo ≤ k ∧ k < hi := fun k hk => ⟨(h.has.lt k hk).1, h.lt k hk⟩
theorem OwnI.below {w w' : World} {lo hi : Nat} {v : Value} {xs : List Int} (h : OwnI w lo hi v xs) (hb : Below w.heap.size w w') : OwnI w' lo hi v xs := ⟨h.has.below hb, h.lt, Nat.le_trans h.le hb.size⟩
theorem OwnI.touch {w w' : World} {lo hi lo' hi' : Nat} {v : Value} {xs : List Int} (h : OwnI w lo hi v xs) (ht : Touch lo' hi' w w') (hd : hi ≤ lo' ∨ hi' ≤ lo) : OwnI w' lo hi v xs :=
  ⟨h.has.of_same fun k hk => ht.block k (h.has.lt k hk).2 (by have := h.range k hk; omega), h.lt, Nat.le_trans h.le ht.size⟩
theorem OwnI.wrote {w w' : World} {lo hi : Nat} {v : Value} {xs : List Int} {us : List Value} (h : OwnI w lo hi v xs) (hw : Wrote us w w') (hn : ∀ u ∈ us, v.ownBlock = none ∨ v.ownBlock ≠ u.ownBlock) : OwnI w' lo hi v xs :=
  ⟨h.has.of_same fun k hk => hw.block k (h.has.lt k hk).2 (fun u hu e => by rcases hn u hu with h1 | h1 <;> simp_all), h.lt, Nat.le_trans h.le hw.size⟩
theorem OwnI.mono {w : World} {lo hi lo' hi' : Nat} {v : Value} {xs : List Int} (h : OwnI w lo hi v xs) (h1 : lo' ≤ lo) (h2 : hi ≤ hi') (h3 : hi' ≤ w.heap.size) : OwnI w lo' hi' v xs := ⟨h.has.mono h1, fun k hk => Nat.lt_of_lt_of_le (h.lt k hk) h2, h3⟩
theorem OwnI.of_gives {w w' : World} {v : Value} {xs : List Int} (h : Has (Value.int .i64) 3 w' w.heap.size v xs) : OwnI w' w.heap.size w'.heap.size v xs := ⟨h, fun k hk => (h.lt k hk).2, Nat.le_refl _⟩

/-- Rows of ints of the call's own, no two in one block. -/
structure OwnRows (w : World) (lo hi : Nat) (us : List Value) (rows : List (List Int)) : Prop where
  len : us.length = rows.length
  row : ∀ (i : Nat) (u : Value) (r : List Int), us[i]? = some u → rows[i]? = some r → OwnI w lo hi u r
  apart : ∀ (i j : Nat) (u u' : Value), us[i]? = some u → us[j]? = some u' → i ≠ j → u.ownBlock = none ∨ u.ownBlock ≠ u'.ownBlock
/-- In w the slice v holds the rows. -/
def LiesR (w : World) (v : Value) (rows : List (List Int)) : Prop := ∃ us : List Value, Lies id w v us ∧ us.length = rows.length ∧ ∀ (i : Nat) (u : Value) (r : List Int), us[i]? = some u → rows[i]? = some r → Lies (Value.int .i64) w u r
/-- In w the value v is the sequence with base b, the next states rows and the terms out. -/
def LiesS (w : World) (v : Value) (b : Int) (rows : List (List Int)) (out : List Int) : Prop := ∃ vn vo, v = .agg #[.int .i64 b, vn, vo] ∧ LiesR w vn rows ∧ Lies (Value.int .i64) w vo out
/-- The slice v of rows is the call's own, whole, in the blocks from lo to hi; us are the rows' values. -/
structure OwnR (w : World) (lo hi : Nat) (v : Value) (us : List Value) (rows : List (List Int)) : Prop where
  top : Has id 23 w lo v us
  lt : ∀ k, v.ownBlock = some k → k < hi
  le : hi ≤ w.heap.size
  rows : OwnRows w lo hi us rows
/-- The sequence v is the call's own, whole, in the blocks from lo to hi. -/
def OwnS (w : World) (lo hi : Nat) (v : Value) (b : Int) (rows : List (List Int)) (out : List Int) : Prop :=
  ∃ vn vo us, v = .agg #[.int .i64 b, vn, vo] ∧ OwnR w lo hi vn us rows ∧ OwnRows w lo hi (us ++ [vo]) (rows ++ [out])

theorem LiesR.below {w w' : World} {v : Value} {rows : List (List Int)} (h : LiesR w v rows) (hb : Below w.heap.size w w') : LiesR w' v rows := by
  obtain ⟨us, h1, h2, h3⟩ := h
  exact ⟨us, h1.below hb, h2, fun i u r hu hr => (h3 i u r hu hr).below hb⟩
theorem LiesS.below {w w' : World} {v : Value} {b : Int} {rows : List (List Int)} {out : List Int} (h : LiesS w v b rows out) (hb : Below w.heap.size w w') : LiesS w' v b rows out := by
  obtain ⟨vn, vo, h1, h2, h3⟩ := h
  exact ⟨vn, vo, h1, h2.below hb, h3.below hb⟩
theorem OwnRows.lies {w : World} {lo hi : Nat} {v : Value} {us : List Value} {rows : List (List Int)} (h : OwnRows w lo hi us rows) (ht : Lies id w v us) : LiesR w v rows := ⟨us, ht, h.len, fun i u r hu hr => (h.row i u r hu hr).lies⟩
theorem OwnR.lies {w : World} {lo hi : Nat} {v : Value} {us : List Value} {rows : List (List Int)} (h : OwnR w lo hi v us rows) : LiesR w v rows := h.rows.lies h.top.lies
theorem OwnRows.last {w : World} {lo hi : Nat} {us : List Value} {rows : List (List Int)} {vo : Value} {out : List Int} (h : OwnRows w lo hi (us ++ [vo]) (rows ++ [out])) : OwnI w lo hi vo out := by
  have hl : us.length = rows.length := by have := h.len; simpa using this
  exact h.row us.length vo out (by simp) (by rw [hl]; simp)
theorem OwnS.lies {w : World} {lo hi : Nat} {v : Value} {b : Int} {rows : List (List Int)} {out : List Int} (h : OwnS w lo hi v b rows out) : LiesS w v b rows out := by
  obtain ⟨vn, vo, us, h1, h2, h3⟩ := h
  exact ⟨vn, vo, h1, h2.lies, h3.last.lies⟩
theorem OwnRows.below {w w' : World} {lo hi : Nat} {us : List Value} {rows : List (List Int)} (h : OwnRows w lo hi us rows) (hb : Below w.heap.size w w') : OwnRows w' lo hi us rows := ⟨h.len, fun i u r hu hr => (h.row i u r hu hr).below hb, h.apart⟩
theorem OwnRows.touch {w w' : World} {lo hi lo' hi' : Nat} {us : List Value} {rows : List (List Int)} (h : OwnRows w lo hi us rows) (ht : Touch lo' hi' w w') (hd : hi ≤ lo' ∨ hi' ≤ lo) : OwnRows w' lo hi us rows := ⟨h.len, fun i u r hu hr => (h.row i u r hu hr).touch ht hd, h.apart⟩
theorem OwnR.below {w w' : World} {lo hi : Nat} {v : Value} {us : List Value} {rows : List (List Int)} (h : OwnR w lo hi v us rows) (hb : Below w.heap.size w w') : OwnR w' lo hi v us rows := ⟨h.top.below hb, h.lt, Nat.le_trans h.le hb.size, h.rows.below hb⟩
theorem OwnR.touch {w w' : World} {lo hi lo' hi' : Nat} {v : Value} {us : List Value} {rows : List (List Int)} (h : OwnR w lo hi v us rows) (ht : Touch lo' hi' w w') (hd : hi ≤ lo' ∨ hi' ≤ lo) : OwnR w' lo hi v us rows :=
  ⟨h.top.of_same fun k hk => ht.block k (h.top.lt k hk).2 (by have := (h.top.lt k hk).1; have := h.lt k hk; omega), h.lt, Nat.le_trans h.le ht.size, h.rows.touch ht hd⟩
theorem OwnS.below {w w' : World} {lo hi : Nat} {v : Value} {b : Int} {rows : List (List Int)} {out : List Int} (h : OwnS w lo hi v b rows out) (hb : Below w.heap.size w w') : OwnS w' lo hi v b rows out := by
  obtain ⟨vn, vo, us, h1, h2, h3⟩ := h
  exact ⟨vn, vo, us, h1, h2.below hb, h3.below hb⟩
theorem OwnS.touch {w w' : World} {lo hi lo' hi' : Nat} {v : Value} {b : Int} {rows : List (List Int)} {out : List Int} (h : OwnS w lo hi v b rows out) (ht : Touch lo' hi' w w') (hd : hi ≤ lo' ∨ hi' ≤ lo) : OwnS w' lo hi v b rows out := by
  obtain ⟨vn, vo, us, h1, h2, h3⟩ := h
  exact ⟨vn, vo, us, h1, h2.touch ht hd, h3.touch ht hd⟩
theorem OwnS.le {w : World} {lo hi : Nat} {v : Value} {b : Int} {rows : List (List Int)} {out : List Int} (h : OwnS w lo hi v b rows out) : hi ≤ w.heap.size := by
  obtain ⟨vn, vo, us, h1, h2, h3⟩ := h
  exact h2.le
/-- A row that the rows do not hold yet. -/
theorem OwnRows.snoc {w : World} {lo hi hi' : Nat} {us : List Value} {rows : List (List Int)} {u : Value} {r : List Int} (h : OwnRows w lo hi us rows) (hu : OwnI w hi hi' u r) (hlo : lo ≤ hi) (hle : hi ≤ hi') : OwnRows w lo hi' (us ++ [u]) (rows ++ [r]) := by
  refine ⟨by simp [h.len], fun i x y hx hy => ?_, fun i j x x' hx hx' hij => ?_⟩
  · by_cases hi' : i < us.length
    · rw [List.getElem?_append_left hi'] at hx
      rw [List.getElem?_append_left (by rw [← h.len]; exact hi')] at hy
      exact (h.row i x y hx hy).mono (Nat.le_refl _) hle hu.le
    · have e1 : i = us.length := by have := (List.getElem?_eq_some_iff.1 hx).1; simp at this; omega
      subst e1
      rw [List.getElem?_append_right (Nat.le_refl _)] at hx
      rw [h.len, List.getElem?_append_right (Nat.le_refl _)] at hy
      simp at hx hy
      subst hx; subst hy
      exact hu.mono hlo (Nat.le_refl _) hu.le
  · have old : ∀ (i : Nat) (x : Value), us[i]? = some x → ∀ k, x.ownBlock = some k → k < hi := fun i x hx k hk => by
      obtain ⟨r', hr'⟩ : ∃ r', rows[i]? = some r' := ⟨_, List.getElem?_eq_getElem (by rw [← h.len]; exact (List.getElem?_eq_some_iff.1 hx).1)⟩
      exact (h.row i x r' hx hr').lt k hk
    have new : ∀ k, u.ownBlock = some k → hi ≤ k := fun k hk => (hu.range k hk).1
    have at_ : ∀ (i : Nat) (x : Value), (us ++ [u])[i]? = some x → (i < us.length ∧ us[i]? = some x) ∨ (i = us.length ∧ x = u) := fun i x hx => by
      by_cases hi' : i < us.length
      · rw [List.getElem?_append_left hi'] at hx
        exact .inl ⟨hi', hx⟩
      · have e1 : i = us.length := by have := (List.getElem?_eq_some_iff.1 hx).1; simp at this; omega
        subst e1
        rw [List.getElem?_append_right (Nat.le_refl _)] at hx
        simp at hx
        exact .inr ⟨rfl, hx.symm⟩
    rcases at_ i x hx with ⟨h1, h2⟩ | ⟨h1, rfl⟩ <;> rcases at_ j x' hx' with ⟨h3, h4⟩ | ⟨h3, rfl⟩
    · exact h.apart i j x x' h2 h4 hij
    · cases hb : x.ownBlock with
      | none => exact .inl rfl
      | some k =>
        refine .inr fun e => ?_
        have := old i x h2 k hb
        have := new k e.symm
        omega
    · cases hb : x.ownBlock with
      | none => exact .inl rfl
      | some k =>
        refine .inr fun e => ?_
        have := old j x' h4 k e.symm
        have := new k hb
        omega
    · omega
theorem OwnRows.nil (w : World) (lo hi : Nat) : OwnRows w lo hi [] [] := ⟨rfl, fun i u r h => by simp at h, fun i j u u' h => by simp at h⟩
/-- The outer slice's block is no row's. -/
theorem Has.ne_top {w : World} {lo lo' : Nat} {v u : Value} {us : List Value} {xs : List Int} (ht : Has id 23 w lo v us) (h : Has (Value.int .i64) 3 w lo' u xs) : v.ownBlock = none ∨ v.ownBlock ≠ u.ownBlock := by
  rcases ht.2 with ⟨rfl, _⟩ | ⟨g, cap, cur, rfl, _, hg, _⟩
  · exact .inl rfl
  · rcases h.2 with ⟨rfl, _⟩ | ⟨g', cap', cur', rfl, _, hg', _⟩
    · exact .inr (by simp [Value.ownBlock])
    · refine .inr fun e => ?_
      have e1 : g = g' := by simpa [Value.ownBlock] using e
      subst e1
      rw [hg] at hg'
      simp at hg'
theorem Has.ne_row {w : World} {lo lo' : Nat} {v u : Value} {us : List Value} {xs : List Int} (ht : Has id 23 w lo v us) (h : Has (Value.int .i64) 3 w lo' u xs) : u.ownBlock = none ∨ u.ownBlock ≠ v.ownBlock := by
  rcases ht.ne_top h with h1 | h1
  · cases hu : u.ownBlock with
    | none => exact .inl rfl
    | some k => exact .inr (by rw [h1]; simp)
  · exact .inr (Ne.symm h1)
/-- How many numbers the rows hold. -/
def tot (rows : List (List Int)) : Nat := (rows.map List.length).sum
theorem tot_snoc (rows : List (List Int)) (r : List Int) : tot (rows ++ [r]) = tot rows + r.length := by simp [tot]
theorem tot_take (rows : List (List Int)) (i : Nat) (r : List Int) (h : rows[i]? = some r) : tot (rows.take (i + 1)) = tot (rows.take i) + r.length := by
  obtain ⟨hi, rfl⟩ := List.getElem?_eq_some_iff.1 h
  rw [List.take_succ_eq_append_getElem hi, tot_snoc]
theorem tot_take_le (rows : List (List Int)) (i : Nat) : tot (rows.take i) ≤ tot rows := by
  have : tot rows = tot (rows.take i) + tot (rows.drop i) := by
    simp only [tot, List.map_take, List.map_drop]
    rw [← List.sum_append, List.take_append_drop]
  omega
theorem row_le (rows : List (List Int)) (i : Nat) (r : List Int) (h : rows[i]? = some r) : r.length ≤ tot rows := by
  have := tot_take rows i r h
  have := tot_take_le rows (i + 1)
  omega
/-- A row's value, its cell in the outer slice, its own cells. -/
theorem LiesR.row {w : World} {v : Value} {rows : List (List Int)} (h : LiesR w v rows) : ∃ a cap, v = .slice a rows.length cap ∧ rows.length ≤ 9223372036854775807 ∧
    ∀ (i : Nat) (r : List Int), rows[i]? = some r → ∃ b off u, a = some ⟨b, off, none⟩ ∧ w.cell? ⟨b, off + i, none⟩ = some u ∧ Lies (Value.int .i64) w u r := by
  obtain ⟨us, ⟨hl, a, cap, rfl, hn, hc⟩, hlen, hrow⟩ := h
  refine ⟨a, cap, by rw [hlen], by omega, fun i r hr => ?_⟩
  have hi : i < us.length := by rw [hlen]; exact (List.getElem?_eq_some_iff.1 hr).1
  obtain ⟨b, off, rfl, hcell⟩ := hc i _ (List.getElem?_eq_getElem hi)
  exact ⟨b, off, _, rfl, hcell, hrow i _ r (List.getElem?_eq_getElem hi) hr⟩
/-- A write into the outer slice's block leaves the rows. -/
theorem OwnRows.top_grown {w w' : World} {lo lo' hi : Nat} {v : Value} {us xs : List Value} {rows : List (List Int)} (h : OwnRows w lo hi us rows) (ht : Has id 23 w lo' v xs) (hg : w.grownBy w' v.ownBlock) : OwnRows w' lo hi us rows :=
  ⟨h.len, fun i u r hu hr => (h.row i u r hu hr).wrote (Wrote.of_grown hg) (fun x hx => by
    obtain rfl : x = v := by simpa using hx
    exact ht.ne_row (h.row i u r hu hr).has), h.apart⟩
theorem OwnRows.mono {w : World} {lo hi hi' : Nat} {us : List Value} {rows : List (List Int)} (h : OwnRows w lo hi us rows) (h1 : hi ≤ hi') (h2 : hi' ≤ w.heap.size) : OwnRows w lo hi' us rows :=
  ⟨h.len, fun i u r hu hr => (h.row i u r hu hr).mono (Nat.le_refl _) h1 h2, h.apart⟩
theorem OwnRows.lower {w : World} {lo lo' hi : Nat} {us : List Value} {rows : List (List Int)} (h : OwnRows w lo hi us rows) (h1 : lo' ≤ lo) : OwnRows w lo' hi us rows :=
  ⟨h.len, fun i u r hu hr => (h.row i u r hu hr).mono h1 (Nat.le_refl _) (h.row i u r hu hr).le, h.apart⟩
theorem OwnS.make {w : World} {base lo mid hi : Nat} {vn vo : Value} {us : List Value} {b : Int} {rows : List (List Int)} {out : List Int} (h : OwnR w lo mid vn us rows) (ho : OwnI w mid hi vo out) (h0 : base ≤ lo) (h1 : lo ≤ mid) (h2 : mid ≤ hi) :
    OwnS w base hi (.agg #[.int .i64 b, vn, vo]) b rows out :=
  ⟨vn, vo, us, rfl, ⟨h.top.mono h0, fun k hk => Nat.lt_of_lt_of_le (h.lt k hk) h2, ho.le, (h.rows.lower h0).mono h2 ho.le⟩, (h.rows.snoc ho h1 h2).lower h0⟩
theorem LiesS.form {w : World} {v : Value} {b : Int} {rows : List (List Int)} {out : List Int} (h : LiesS w v b rows out) : ∃ an cn ao co, v = .agg #[.int .i64 b, .slice an rows.length cn, .slice ao out.length co] := by
  obtain ⟨vn, vo, rfl, ⟨us, ⟨_, an, cn, rfl, _⟩, hl, _⟩, ⟨_, ao, co, rfl, _⟩⟩ := h
  exact ⟨an, cn, ao, co, by rw [hl]⟩
/-- All of a sequence's cells, by their numbers. -/
theorem LiesS.parts {w : World} {v : Value} {b : Int} {rows : List (List Int)} {out : List Int} (h : LiesS w v b rows out) : ∃ an cn ao co, v = .agg #[.int .i64 b, .slice an rows.length cn, .slice ao out.length co] ∧
    (∀ (i : Nat) (r : List Int), rows[i]? = some r → ∃ p o a' c', an = some ⟨p, o, none⟩ ∧ w.cell? ⟨p, o + i, none⟩ = some (.slice a' r.length c') ∧ ∀ (k : Nat) (x : Int), r[k]? = some x → ∃ q s, a' = some ⟨q, s, none⟩ ∧ w.cell? ⟨q, s + k, none⟩ = some (.int .i64 x)) ∧
    ∀ (k : Nat) (x : Int), out[k]? = some x → ∃ q s, ao = some ⟨q, s, none⟩ ∧ w.cell? ⟨q, s + k, none⟩ = some (.int .i64 x) := by
  obtain ⟨vn, vo, rfl, hn, ⟨_, ao, co, rfl, _, hco⟩⟩ := h
  obtain ⟨an, cn, rfl, _, hc⟩ := hn.row
  refine ⟨an, cn, ao, co, rfl, fun i r hr => ?_, fun k x hx => ?_⟩
  · obtain ⟨p, o, u, h1, h2, ⟨_, a', c', rfl, _, h3⟩⟩ := hc i r hr
    refine ⟨p, o, a', c', h1, h2, fun k x hx => ?_⟩
    obtain ⟨q, s, h4, h5⟩ := h3 k x hx
    exact ⟨q, s, h4, h5⟩
  · obtain ⟨q, s, h4, h5⟩ := hco k x hx
    exact ⟨q, s, h4, h5⟩
/-- The same of a sequence whose slices are known by name. -/
theorem LiesS.cells {w : World} {b : Int} {rows : List (List Int)} {out : List Int} {an ao : Option Addr} {cn co : Nat} (h : LiesS w (.agg #[.int .i64 b, .slice an rows.length cn, .slice ao out.length co]) b rows out) :
    (∀ (i : Nat) (r : List Int), rows[i]? = some r → ∃ p o a' c', an = some ⟨p, o, none⟩ ∧ w.cell? ⟨p, o + i, none⟩ = some (.slice a' r.length c') ∧ ∀ (k : Nat) (x : Int), r[k]? = some x → ∃ q s, a' = some ⟨q, s, none⟩ ∧ w.cell? ⟨q, s + k, none⟩ = some (.int .i64 x)) ∧
    ∀ (k : Nat) (x : Int), out[k]? = some x → ∃ q s, ao = some ⟨q, s, none⟩ ∧ w.cell? ⟨q, s + k, none⟩ = some (.int .i64 x) := by
  obtain ⟨an', cn', ao', co', hv, h1, h2⟩ := h.parts
  injection hv with hv
  simp only [Array.mk.injEq, List.cons.injEq, Value.slice.injEq, true_and, and_true] at hv
  obtain ⟨⟨rfl, rfl⟩, rfl, rfl⟩ := hv
  exact ⟨h1, h2⟩
theorem OwnS.form {w : World} {lo hi : Nat} {v : Value} {b : Int} {rows : List (List Int)} {out : List Int} (h : OwnS w lo hi v b rows out) : ∃ an cn ao co, v = .agg #[.int .i64 b, .slice an rows.length cn, .slice ao out.length co] := h.lies.form
theorem OwnI.form {w : World} {lo hi : Nat} {v : Value} {xs : List Int} (h : OwnI w lo hi v xs) : ∃ a c, v = .slice a xs.length c := by
  obtain ⟨a, c, h1, _⟩ := h.has.form
  exact ⟨a, c, h1⟩
theorem below_drew' (w : World) : Below w.heap.size w w.drew := ⟨rfl, rfl, rfl, Nat.le_refl _, fun _ _ => rfl⟩
/-- A call that hands back a new slice of rows, a new sequence. -/
def GivesR (rows : List (List Int)) (w : World) (en : Ending) (w' : World) : Prop := ∃ v us, en = .returned v ∧ OwnR w' w.heap.size w'.heap.size v us rows ∧ Below w.heap.size w w'
def GivesS (b : Int) (rows : List (List Int)) (out : List Int) (w : World) (en : Ending) (w' : World) : Prop := ∃ v, en = .returned v ∧ OwnS w' w.heap.size w'.heap.size v b rows out ∧ Below w.heap.size w w'
theorem set_next (us : List Value) (n : Nat) (z x : Value) (h : us.length < n) : ((us ++ List.replicate (n - us.length) z).map id).set us.length (id x) = ((us ++ [x]) ++ List.replicate (n - (us.length + 1)) z).map id := by
  rw [show n - us.length = (n - (us.length + 1)) + 1 from by omega, List.replicate_succ, List.map_append, List.map_cons, set_mid _ _ _ _ us.length (by simp), List.append_assoc, List.map_append]
  rfl
theorem made_rows {w1 : World} {base n : Nat} {v : Value} (h : w1.ownsRow base 23 1 v n (madeCells (Value.slice none 0 0).cells (n * 1)).toList) : Has id 23 w1 base v (List.replicate n (.slice none 0 0)) := by
  rw [show (Value.slice none 0 0).cells = #[Value.slice none 0 0] from rfl, toList_madeCells_one] at h
  show w1.ownsRow _ _ _ _ _ _
  rw [List.length_replicate]
  simpa using h
end Go.Proofs.Ytgbgcaaekpgapac.Plain
/- Contracts of the exact laws' own helpers on sequences, first part: the size of one. No conditions beyond those that each states. -/
namespace Go.Proofs.Ytgbgcaaekpgapac
open Go.ChangeShapes Go.WideShapes Go.ChangeAt Go.RowKit
open Go.PlainAid Plain
set_option linter.unusedVariables false
namespace Seqs

theorem ret_i {a b : Int} (h : a = b) : Ending.returned (.int .i64 a) = Ending.returned (.int .i64 b) := by rw [h]
theorem ret_b {a b : Bool} (h : a = b) : Ending.returned (.bool a) = Ending.returned (.bool b) := by rw [h]
/-- What is left of a size, -1 where nothing is. -/
def szV (left : Int) (n : Nat) : Int := if (n : Int) ≤ left then left - n else -1
theorem szV_yes {left : Int} {n : Nat} (h : (n : Int) ≤ left) : szV left n = left - n := by rw [szV, if_pos h]
theorem szV_no {left : Int} {n : Nat} (h : ¬ (n : Int) ≤ left) : szV left n = -1 := by rw [szV, if_neg h]
theorem szI_yes (v : Value) (xs : List Int) (left : Int) (w : World) (h : Lies (Value.int .i64) w v xs) (h0 : (xs.length : Int) ≤ left) (h1 : left ≤ 1048576) :
    Calls Try.prog 18 #[v, .int .i64 left] w fun e w' => e = .returned (.int .i64 (left - xs.length)) ∧ w = w' := by
  obtain ⟨hl, a, ca, rfl, _, hca⟩ := h
  clear hca
  go_enter Try.func18, Try.ntmps18
  have hd := decide_eq_false (show ¬ left - (xs.length : Int) < 0 by omega)
  go_wp2
  go_ret
  exact ⟨rfl, rfl⟩
theorem szI_no (v : Value) (xs : List Int) (left : Int) (w : World) (h : Lies (Value.int .i64) w v xs) (h2 : 0 ≤ left) (h0 : ¬ (xs.length : Int) ≤ left) (h1 : left ≤ 1048576) :
    Calls Try.prog 18 #[v, .int .i64 left] w fun e w' => e = .returned (.int .i64 (-1)) ∧ w = w' := by
  obtain ⟨hl, a, ca, rfl, _, hca⟩ := h
  clear hca
  go_enter Try.func18, Try.ntmps18
  have hd := decide_eq_true (show left - (xs.length : Int) < 0 by omega)
  go_wp2
  go_ret
  exact ⟨rfl, rfl⟩
theorem szR_no0 (v : Value) (rows : List (List Int)) (left : Int) (w : World) (h : LiesR w v rows) (h2 : 0 ≤ left) (h0 : ¬ (rows.length : Int) ≤ left) (h1 : left ≤ 1048576) :
    Calls Try.prog 17 #[v, .int .i64 left] w fun e w' => e = .returned (.int .i64 (-1)) ∧ w = w' := by
  obtain ⟨a, ca, rfl, hl, hc⟩ := h.row
  clear hc h
  go_enter Try.func17, Try.ntmps17
  have hd := decide_eq_true (show left - (rows.length : Int) < 0 by omega)
  go_wp2
  go_ret
  exact ⟨rfl, rfl⟩
theorem szR (v : Value) (rows : List (List Int)) (left : Int) (w : World) (h : LiesR w v rows) (h2 : 0 ≤ left) (h1 : left ≤ 1048576) :
    Calls Try.prog 17 #[v, .int .i64 left] w fun e w' => e = .returned (.int .i64 (szV left (rows.length + tot rows))) ∧ w = w' := by
  by_cases h0 : (rows.length : Int) ≤ left
  · obtain ⟨a, ca, rfl, hl, hc⟩ := h.row
    have HC := Lib.hid hc
    clear hc h
    obtain ⟨n, rfl⟩ : ∃ n : Nat, left = n := ⟨left.toNat, by omega⟩
    go_enter Try.func17, Try.ntmps17
    have hd := decide_eq_false (show ¬ (n : Int) - (rows.length : Int) < 0 by omega)
    go_wp2
    go_loop [1, 5] (fun l' i' => ∃ i m : Nat, i ≤ rows.length ∧ i' = .int .i64 i ∧ l' = .int .i64 m ∧ Hid (m + (rows.length + tot (rows.take i)) = n) ∧ m ≤ n) (fun _ i' => rows.length - (intOf i').toNat)
    case atStart =>
      obtain ⟨m, hm⟩ : ∃ m : Nat, (n : Int) - (rows.length : Int) = m := ⟨((n : Int) - (rows.length : Int)).toNat, by omega⟩
      exact ⟨0, m, Nat.zero_le _, rfl, by rw [hm], by show m + (rows.length + tot []) = n; simp [tot]; omega, by omega⟩
    case round =>
      obtain ⟨i, m, hi, rfl, rfl, HM, hmn⟩ := hrel
      by_cases hlt : i < rows.length
      · obtain ⟨r, hr⟩ : ∃ r, rows[i]? = some r := ⟨_, List.getElem?_eq_getElem hlt⟩
        obtain ⟨b, off, u, rfl, hcell, hlies⟩ := HC.out i r hr
        have HT := Lib.hid (tot_take rows i r hr)
        have HL := Lib.hid hlies
        clear hlies hr
        by_cases hfit : r.length ≤ m
        · obtain ⟨q, hq⟩ : ∃ q : Nat, (m : Int) - (r.length : Int) = (q : Int) := ⟨m - r.length, by omega⟩
          have HQ := Lib.hid hq
          have hqm : q ≤ m := by omega
          clear hq
          go_wp2_with fail
          refine (szI_yes _ r _ _ HL.out (by omega) (by omega)).mono ?_
          rintro e w' ⟨rfl, rfl⟩
          rw [HQ.out]
          have hdq := decide_eq_false (show ¬ (q : Int) < 0 by omega)
          go_wp2
          go_round
          case rel => exact ⟨i + 1, q, by omega, by go_num, rfl, by show q + (rows.length + tot (rows.take (i + 1))) = n; have := HM.out; have := HT.out; have := HQ.out; omega, by omega⟩
          case measure => simp [intOf]; omega
        · go_wp2_with fail
          refine (szI_no _ r _ _ HL.out (by omega) (by omega) (by omega)).mono ?_
          rintro e w' ⟨rfl, rfl⟩
          go_wp2
          go_ret
          exact ⟨ret_i (by rw [szV_no]; have := HM.out; have := HT.out; have := tot_take_le rows (i + 1); omega), rfl⟩
      · have HE : Hid (m + (rows.length + tot rows) = n) := by
          have := HM.out
          rw [List.take_of_length_le (by omega)] at this
          exact this
        go_wp2
        go_ret
        exact ⟨ret_i (by have := HE.out; rw [szV_yes (by omega)]; omega), rfl⟩
  · rw [szV_no (by omega)]
    exact szR_no0 v rows left w h h2 h0 h1
theorem sz (v : Value) (b : Int) (rows : List (List Int)) (out : List Int) (left : Int) (w : World) (h : LiesS w v b rows out) (h2 : 0 ≤ left) (h1 : left ≤ 1048576) :
    Calls Try.prog 5 #[v, .int .i64 left] w fun e w' => e = .returned (.int .i64 (szV left (rows.length + tot rows + out.length))) ∧ Below w.heap.size w w' := by
  obtain ⟨vn, vo, rfl, hn, ho⟩ := h
  by_cases h0 : ((rows.length + tot rows : Nat) : Int) ≤ left
  · obtain ⟨m, hm⟩ : ∃ m : Nat, left - ((rows.length + tot rows : Nat) : Int) = m := ⟨(left - ((rows.length + tot rows : Nat) : Int)).toNat, by omega⟩
    have HS := Lib.hid (szV_yes h0)
    rw [hm] at HS
    have HM := Lib.hid hm
    have hml : (m : Int) ≤ 1048576 := by omega
    clear hm
    have hd := decide_eq_false (show ¬ (m : Int) < 0 by omega)
    by_cases h3 : out.length ≤ m
    · obtain ⟨q, hq⟩ : ∃ q : Nat, (m : Int) - (out.length : Int) = (q : Int) := ⟨m - out.length, by omega⟩
      have HQ := Lib.hid hq
      clear hq
      have hdq := decide_eq_false (show ¬ (q : Int) < 0 by omega)
      go_enter Try.func5, Try.ntmps5
      go_wp2_with fail
      refine (szR _ rows _ _ (hn.below ((Below.refl _ _).alloc (Nat.le_refl _) _)) h2 h1).mono ?_
      rintro e w' ⟨rfl, rfl⟩
      rw [HS.out]
      go_wp2_with fail
      refine (szI_yes _ out _ _ (ho.below ((Below.refl _ _).alloc (Nat.le_refl _) _)) (by omega) (by omega)).mono ?_
      rintro e w' ⟨rfl, rfl⟩
      rw [HQ.out]
      go_wp2
      go_ret
      exact ⟨ret_i (by have := HM.out; have := HQ.out; rw [szV_yes (by omega)]; omega), (Below.refl _ _).alloc (Nat.le_refl _) _⟩
    · go_enter Try.func5, Try.ntmps5
      go_wp2_with fail
      refine (szR _ rows _ _ (hn.below ((Below.refl _ _).alloc (Nat.le_refl _) _)) h2 h1).mono ?_
      rintro e w' ⟨rfl, rfl⟩
      rw [HS.out]
      go_wp2_with fail
      refine (szI_no _ out _ _ (ho.below ((Below.refl _ _).alloc (Nat.le_refl _) _)) (by omega) (by omega) (by omega)).mono ?_
      rintro e w' ⟨rfl, rfl⟩
      go_wp2
      go_ret
      exact ⟨ret_i (by have := HM.out; rw [szV_no (by omega)]), (Below.refl _ _).alloc (Nat.le_refl _) _⟩
  · have HS := Lib.hid (szV_no h0)
    go_enter Try.func5, Try.ntmps5
    go_wp2_with fail
    refine (szR _ rows _ _ (hn.below ((Below.refl _ _).alloc (Nat.le_refl _) _)) h2 h1).mono ?_
    rintro e w' ⟨rfl, rfl⟩
    rw [HS.out]
    go_wp2
    go_ret
    exact ⟨ret_i (by rw [szV_no (by omega)]), (Below.refl _ _).alloc (Nat.le_refl _) _⟩
end Seqs
end Go.Proofs.Ytgbgcaaekpgapac
/- A struct of three cells that lies in a block of its own: what it holds, and what stays of it. No conditions beyond those that each fact states. -/
namespace Go.Proofs.Ytgbgcaaekpgapac.Plain
open Go.RowKit
/-- Block b holds three cells. -/
structure Cells3 (w : World) (b : Nat) (t : TypeId) (x y z : Value) : Prop where
  row : w.heap[b]? = some (.cells #[x, y, z] t (0, 0))
section
variable {w w' : World} {b : Nat} {t : TypeId} {x y z : Value}
theorem Cells3.c0 (h : Cells3 w b t x y z) : w.cell? ⟨b, 0, none⟩ = some x := by simp [World.cell?, h.row]
theorem Cells3.c1 (h : Cells3 w b t x y z) : w.cell? ⟨b, 1, none⟩ = some y := by simp [World.cell?, h.row]
theorem Cells3.c2 (h : Cells3 w b t x y z) : w.cell? ⟨b, 2, none⟩ = some z := by simp [World.cell?, h.row]
theorem Cells3.f (h : Cells3 w b t x y z) (o : Nat) : w.frozen? ⟨b, o, none⟩ = false := frozen_of_row w b o _ t h.row
theorem Cells3.lt (h : Cells3 w b t x y z) : b < w.heap.size := by
  have h1 := h.row
  rw [Array.getElem?_eq_some_iff] at h1
  exact h1.1
theorem Cells3.new (w : World) (t : TypeId) (x y z : Value) : Cells3 (w.alloc (.cells #[x, y, z] t)) w.heap.size t x y z := ⟨heap_alloc_new w _⟩
theorem Cells3.below (h : Cells3 w b t x y z) (hb : Below w.heap.size w w') : Cells3 w' b t x y z := ⟨(hb.block b h.lt).trans h.row⟩
theorem Cells3.alloc (h : Cells3 w b t x y z) (o : Obj) : Cells3 (w.alloc o) b t x y z := h.below ((Below.refl _ _).alloc (Nat.le_refl _) _)
theorem Cells3.set0 (h : Cells3 w b t x y z) (v : Value) : Cells3 (w.setCell ⟨b, 0, none⟩ v) b t v y z := by
  have hlt := h.lt
  have h' : w.heap[b] = .cells #[x, y, z] t (0, 0) := by simpa [Array.getElem?_eq_getElem hlt] using h.row
  refine ⟨?_⟩
  show (w.heap.modify b _)[b]? = _
  rw [Array.getElem?_eq_getElem (by simpa using hlt), Array.getElem_modify_self, h']
  rfl
theorem Cells3.set1 (h : Cells3 w b t x y z) (v : Value) : Cells3 (w.setCell ⟨b, 1, none⟩ v) b t x v z := by
  have hlt := h.lt
  have h' : w.heap[b] = .cells #[x, y, z] t (0, 0) := by simpa [Array.getElem?_eq_getElem hlt] using h.row
  refine ⟨?_⟩
  show (w.heap.modify b _)[b]? = _
  rw [Array.getElem?_eq_getElem (by simpa using hlt), Array.getElem_modify_self, h']
  rfl
theorem Cells3.set2 (h : Cells3 w b t x y z) (v : Value) : Cells3 (w.setCell ⟨b, 2, none⟩ v) b t x y v := by
  have hlt := h.lt
  have h' : w.heap[b] = .cells #[x, y, z] t (0, 0) := by simpa [Array.getElem?_eq_getElem hlt] using h.row
  refine ⟨?_⟩
  show (w.heap.modify b _)[b]? = _
  rw [Array.getElem?_eq_getElem (by simpa using hlt), Array.getElem_modify_self, h']
  rfl
theorem Cells3.other (h : Cells3 w b t x y z) {a : Addr} (ha : a.block ≠ b) (v : Value) : Cells3 (w.setCell a v) b t x y z := by
  refine ⟨?_⟩
  rw [← h.row]
  simp [World.setCell, Array.getElem?_modify, ha]
theorem Cells3.touch {lo hi : Nat} (h : Cells3 w b t x y z) (ht : Plain.Touch lo hi w w') (hn : b < lo ∨ hi ≤ b) : Cells3 w' b t x y z := ⟨(ht.block b h.lt hn).trans h.row⟩
theorem Cells3.grown {row : Option Nat} (h : Cells3 w b t x y z) (hg : w.grownBy w' row) (hn : row ≠ some b) : Cells3 w' b t x y z := ⟨(hg.block b h.lt (Ne.symm hn)).trans h.row⟩
end
theorem size_alloc' (w : World) (o : Obj) : (w.alloc o).heap.size = w.heap.size + 1 := by simp
theorem size_setCell' (w : World) (a : Addr) (v : Value) : (w.setCell a v).heap.size = w.heap.size := by simp [World.setCell]
end Go.Proofs.Ytgbgcaaekpgapac.Plain
/- Contracts of the exact laws' own helpers on sequences, second part: copying one. No conditions beyond those that each states. -/
namespace Go.Proofs.Ytgbgcaaekpgapac
open Go.ChangeShapes Go.WideShapes Go.ChangeAt Go.RowKit
open Go.PlainAid Plain
set_option linter.unusedVariables false
namespace Seqs
theorem infoR : (Try.prog.info? 23).map (fun i => (i.zero, i.size, i.bytes)) = some (some (.slice none 0 0), 1, 24) := by kernel_rfl
theorem toR (v : Value) (rows : List (List Int)) (w : World) (h : LiesR w v rows) (hs : rows.length ≤ 1048576) (ht : tot rows ≤ 1048576) :
    Calls Try.prog 22 #[v] w (GivesR rows w) := by
  obtain ⟨i0, hi, hz0, hz1, hz2⟩ := info_parts infoR
  obtain ⟨a, ca, rfl, hl, hc⟩ := h.row
  have HC := Lib.hid hc
  clear hc h
  go_enter Try.func22, Try.ntmps22
  go_wp2_with (at_make; refine wpList_make_full w rfl _ _ 22 rfl w.heap.size 23 i0 (.slice none 0 0) 1 Try.underlying22 hi hz0 hz1 .i64 .i64 _ _ rows.length rfl rfl rfl rfl (by rw [hz2]; omega) (by unfold maxLen; omega) (Nat.le_refl _) ?_; intro w1 hown hgrow)
  have hown0 : Hid (Has id 23 w1 w.heap.size (.slice (some ⟨w.heap.size, 0, none⟩) rows.length rows.length) ([] ++ List.replicate (rows.length - 0) (.slice none 0 0))) := made_rows hown
  have hbel0 := Lib.hid (below_of_grown hgrow)
  clear hown hgrow
  go_loopw [4] (fun i' wr => ∃ (i : Nat) (us : List Value) (hi : Nat), i ≤ rows.length ∧ us.length = i ∧ i' = .int .i64 i ∧ Hid (Has id 23 wr w.heap.size (.slice (some ⟨w.heap.size, 0, none⟩) rows.length rows.length) (us ++ List.replicate (rows.length - i) (.slice none 0 0))) ∧ Hid (OwnRows wr w.heap.size hi us (rows.take i)) ∧ Hid (w.heap.size ≤ hi ∧ hi ≤ wr.heap.size) ∧ Hid (Below w.heap.size w wr)) (fun i' _ => rows.length - (intOf i').toNat)
  case atStart => exact ⟨0, [], w.heap.size, Nat.zero_le _, rfl, rfl, hown0, OwnRows.nil _ _ _, ⟨Nat.le_refl _, hbel0.out.size⟩, hbel0⟩
  case round =>
    obtain ⟨i, us, hi, hile, hul, rfl, hown, hrows, hle, hbel⟩ := hrel
    by_cases hlt : i < rows.length
    · obtain ⟨r, hr⟩ : ∃ r, rows[i]? = some r := ⟨_, List.getElem?_eq_getElem hlt⟩
      obtain ⟨b, off, u, rfl, hcell, hlies⟩ := HC.out i r hr
      have hc1 : wr.cell? ⟨b, off + i, none⟩ = some u := (hbel.out.cell (p := ⟨b, off + i, none⟩) (World.block_lt_of_cell? w _ hcell)).trans hcell
      have HL := Lib.hid (hlies.below hbel.out)
      have HRL := Lib.hid (row_le rows i r hr)
      have HT := Lib.hid (show rows.take (i + 1) = rows.take i ++ [r] from by
        obtain ⟨h1, rfl⟩ := List.getElem?_eq_some_iff.1 hr
        exact List.take_succ_eq_append_getElem h1)
      have HUL := Lib.hid hul
      clear hlies hr hul hcell
      go_wp2_with fail
      refine (Ints.copied _ r _ HL.out (by have := HRL.out; omega)).mono ?_
      rintro e W1 ⟨v1, rfl, hv1, hb1⟩
      obtain ⟨a1, cap1, rfl, _⟩ := hv1.form
      have HN := Lib.hid (hown.out.below hb1)
      have HR1 := Lib.hid ((hrows.out.below hb1).snoc ((OwnI.of_gives hv1).mono hle.out.2 (Nat.le_refl _) (Nat.le_refl _)) hle.out.1 (Nat.le_trans hle.out.2 hb1.size))
      have HB1 := Lib.hid (hbel.out.trans (hb1.mono hbel.out.size))
      have HS1 := Lib.hid (Nat.le_trans hle.out.1 (Nat.le_trans hle.out.2 hb1.size))
      clear hown hrows hb1 hv1 hle hbel
      have H1 : W1.ownsRow w.heap.size 23 1 (.slice (some ⟨w.heap.size, 0, none⟩) rows.length rows.length) rows.length ((us ++ List.replicate (rows.length - i) (Value.slice none 0 0)).map id) := by
        have := HN.out
        unfold Has at this
        rw [show (us ++ List.replicate (rows.length - i) (Value.slice none 0 0)).length = rows.length from by rw [List.length_append, List.length_replicate, HUL.out]; omega] at this
        exact this
      have hc : W1.cell? ⟨w.heap.size, i, none⟩ = some (.slice none 0 0) := by
        rw [H1.cellAt i (by omega), List.getElem?_map, List.getElem?_append_right (by rw [HUL.out]; omega), List.getElem?_replicate, if_pos (by rw [HUL.out]; omega)]
        rfl
      have hfr := H1.frozenAt i
      have hst := H1.stored i (id (.slice a1 r.length cap1))
      rw [← HUL.out, set_next us _ _ (.slice a1 r.length cap1) (by rw [HUL.out]; omega), HUL.out] at hst
      have HST := Lib.hid hst
      clear hst H1
      go_wp2
      go_roundw
      case rel =>
        refine ⟨i + 1, us ++ [.slice a1 r.length cap1], W1.heap.size, by omega, by simp [HUL.out], by go_num, ?_, ?_, ⟨HS1.out, HST.out.2.size⟩, HB1.out.grown HST.out.2 HB1.out.size (fun k hk => by cases hk; exact Nat.le_refl _)⟩
        · show World.ownsRow _ _ _ _ _ _ _
          rw [show (us ++ [Value.slice a1 r.length cap1] ++ List.replicate (rows.length - (i + 1)) (Value.slice none 0 0)).length = rows.length from by simp [HUL.out]; omega]
          exact HST.out.1
        · rw [HT.out]
          exact HR1.out.top_grown HN.out HST.out.2
      case measure => simp [intOf]; omega
    · obtain rfl : i = rows.length := by omega
      have HE : Hid (OwnR wr w.heap.size wr.heap.size (.slice (some ⟨w.heap.size, 0, none⟩) rows.length rows.length) us rows) := by
        have h1 := hown.out
        have h2 := hrows.out
        rw [List.take_length] at h2
        rw [Nat.sub_self, List.replicate_zero, List.append_nil] at h1
        exact ⟨h1, fun k hk => (h1.lt k hk).2, Nat.le_refl _, h2.mono hle.out.2 (Nat.le_refl _)⟩
      clear hown hrows hle hul
      go_wp2
      go_ret
      exact ⟨_, us, rfl, HE.out, hbel.out⟩
theorem toS (v : Value) (b : Int) (rows : List (List Int)) (out : List Int) (w : World) (h : LiesS w v b rows out) (hs : rows.length + tot rows + out.length ≤ 1048576) :
    Calls Try.prog 7 #[v] w (GivesS b rows out w) := by
  obtain ⟨vn, vo, rfl, hn, ho⟩ := h
  have HO := Lib.hid ho
  have HN := Lib.hid hn
  clear hn ho
  go_enter Try.func7, Try.ntmps7
  go_wp2_with fail
  have hB0 : Hid (Below w.heap.size w (((w.alloc (Obj.cells #[Value.int .i64 b, vn, vo] 25)).alloc (Obj.cells #[Value.int .i64 0, Value.slice none 0 0, Value.slice none 0 0] 30)).alloc (Obj.cells #[Value.int .i64 b, Value.slice none 0 0, Value.slice none 0 0] 30))) :=
    (((Below.refl _ _).alloc (Nat.le_refl _) _).alloc (by simp) _).alloc (by simp; omega) _
  have hA := Lib.hid (((Cells3.new w 25 (.int .i64 b) vn vo).alloc (.cells #[.int .i64 0, .slice none 0 0, .slice none 0 0] 30)).alloc (.cells #[.int .i64 b, .slice none 0 0, .slice none 0 0] 30))
  have hR := Lib.hid ((Cells3.new (w.alloc (Obj.cells #[Value.int .i64 b, vn, vo] 25)) 30 (.int .i64 0) (.slice none 0 0) (.slice none 0 0)).alloc (.cells #[.int .i64 b, .slice none 0 0, .slice none 0 0] 30))
  have hS := Lib.hid (Cells3.new ((w.alloc (Obj.cells #[Value.int .i64 b, vn, vo] 25)).alloc (Obj.cells #[Value.int .i64 0, Value.slice none 0 0, Value.slice none 0 0] 30)) 30 (.int .i64 b) (.slice none 0 0) (.slice none 0 0))
  refine (toR _ rows _ (HN.out.below hB0.out) (by omega) (by omega)).mono ?_
  rintro e W1 ⟨v1, us, rfl, hr1, hb1⟩
  obtain ⟨a1, cap1, rfl, _⟩ := hr1.top.form
  have HA1 := Lib.hid (hA.out.below hb1)
  have HR1 := Lib.hid (hR.out.below hb1)
  have HS1 := Lib.hid (hS.out.below hb1)
  have HB1 := Lib.hid (hB0.out.trans (hb1.mono hB0.out.size))
  have HO1 := Lib.hid hr1
  have hz1 := Lib.hid hb1.size
  simp only [size_alloc'] at HA1 HR1 HS1 HO1 hz1
  clear hr1 hb1 hA hR hS hB0
  have k1 := HS1.out.c1
  have k2 := HS1.out.f
  have k3 := (HA1.out.other (a := ⟨w.heap.size + 1 + 1, 1, none⟩) (by simp; omega) (.slice a1 us.length cap1)).c2
  go_wp2_with fail
  have HS2 := Lib.hid (HS1.out.set1 (.slice a1 us.length cap1))
  have HR2 := Lib.hid (HR1.out.other (a := ⟨w.heap.size + 1 + 1, 1, none⟩) (by simp) (.slice a1 us.length cap1))
  have HB2 : Hid (Below w.heap.size w (W1.setCell ⟨w.heap.size + 1 + 1, 1, none⟩ (.slice a1 us.length cap1))) := HB1.out.setCell (show w.heap.size ≤ w.heap.size + 1 + 1 by omega) _
  have HO2 := Lib.hid (HO1.out.touch (Plain.Touch.of_set (a := ⟨w.heap.size + 1 + 1, 1, none⟩) (.slice a1 us.length cap1) (lo := w.heap.size) (hi := w.heap.size + 1 + 1 + 1) (show w.heap.size ≤ w.heap.size + 1 + 1 by omega) (show w.heap.size + 1 + 1 < w.heap.size + 1 + 1 + 1 by omega)) (.inr (Nat.le_refl _)))
  clear k1 k2 k3 HA1 HS1 HR1 HB1 HO1
  refine (Ints.copied _ out _ (HO.out.below HB2.out) (by omega)).mono ?_
  rintro e W2 ⟨v2, rfl, ho2, hb2⟩
  obtain ⟨a2, cap2, rfl, _⟩ := ho2.form
  have HS3 := Lib.hid (HS2.out.below hb2)
  have HR3 := Lib.hid (HR2.out.below hb2)
  have HB3 := Lib.hid (HB2.out.trans (hb2.mono HB2.out.size))
  have HN3 := Lib.hid (HO2.out.below hb2)
  have HO3 := Lib.hid (OwnI.of_gives ho2)
  have hz := Lib.hid hb2.size
  simp only [size_setCell'] at HO3 hz
  clear HS2 HR2 HB2 HO2 ho2 hb2
  have k1 := HS3.out.c2
  have k2 := HS3.out.f
  have k3 := (HS3.out.set2 (.slice a2 out.length cap2)).c0
  have k4 := (HS3.out.set2 (.slice a2 out.length cap2)).c1
  have k5 := (HS3.out.set2 (.slice a2 out.length cap2)).c2
  have HR4 := Lib.hid (HR3.out.other (a := ⟨w.heap.size + 1 + 1, 2, none⟩) (by simp) (.slice a2 out.length cap2))
  have k6 := HR4.out.c0
  have k7 := HR4.out.c1
  have k8 := HR4.out.c2
  have k9 := HR4.out.f
  have HR5 := Lib.hid (((HR4.out.set0 (.int .i64 b)).set1 (.slice a1 us.length cap1)).set2 (.slice a2 out.length cap2))
  go_wp2
  have m0 := HR5.out.c0
  have m1 := HR5.out.c1
  have m2 := HR5.out.c2
  refine bodyPost_ret (v := .agg #[.int .i64 b, .slice a1 us.length cap1, .slice a2 out.length cap2]) (by simp [results, Try.results7, go_sem, m0, m1, m2]) rfl ⟨_, rfl, ?_, ?_⟩
  · have T0 : Plain.Touch w.heap.size (w.heap.size + 1 + 1 + 1) W2 ((((W2.setCell ⟨w.heap.size + 1 + 1, 2, none⟩ (.slice a2 out.length cap2)).setCell ⟨w.heap.size + 1, 0, none⟩ (.int .i64 b)).setCell ⟨w.heap.size + 1, 1, none⟩ (.slice a1 us.length cap1)).setCell ⟨w.heap.size + 1, 2, none⟩ (.slice a2 out.length cap2)) :=
      (((Plain.Touch.of_set _ (by show _ ≤ _ + 1 + 1; omega) (by show _ + 1 + 1 < _; omega)).trans (Plain.Touch.of_set _ (by show _ ≤ _ + 1; omega) (by show _ + 1 < _; omega))).trans (Plain.Touch.of_set _ (by show _ ≤ _ + 1; omega) (by show _ + 1 < _; omega))).trans (Plain.Touch.of_set _ (by show _ ≤ _ + 1; omega) (by show _ + 1 < _; omega))
    have hz2 := hz.out
    have hz3 := hz1.out
    simp only [size_setCell']
    exact OwnS.make (HN3.out.touch T0 (.inr (Nat.le_refl _))) (HO3.out.touch T0 (.inr (by omega))) (by omega) (by omega) hz2
  · exact (((HB3.out.setCell (by show _ ≤ _ + 1 + 1; omega) _).setCell (by show _ ≤ _ + 1; omega) _).setCell (by show _ ≤ _ + 1; omega) _).setCell (by show _ ≤ _ + 1; omega) _
end Seqs
end Go.Proofs.Ytgbgcaaekpgapac
/- A sequence that came in as an argument reads as lists. No conditions beyond those that each fact states. -/
namespace Go.Proofs.Ytgbgcaaekpgapac
open Go.ChangeShapes Go.WideShapes Go.ChangeAt Go.RowKit
open Go.PlainAid Plain
set_option linter.unusedVariables false
namespace Seqs
theorem open_row_ints {H : Type} {enc : TypeId × Value → H} {W : World} {n : Nat} {v : Value} {y : DataW H × List MemPlace} (h : DataW.trod enc Try.prog W 0 (fun _ => true) true n 23 [v] = some y) : ∃ xs, Lies (Value.int .i64) W v xs := by
  rcases open_ints Try.underlying23 Try.underlying3 (by kernel_rfl) h with ⟨hcs, _⟩ | ⟨x, l, c, zs, hcs, _, hl, hm, hz, _, hcell, hwz⟩
  · obtain rfl : v = .slice none 0 0 := by simpa using hcs
    obtain ⟨xs, h1, h2⟩ := Ints.lies_of_row (w := W) (a := none) (len := 0) (cap := 0) (zs := []) (.inl ⟨rfl, rfl, rfl, rfl⟩)
    rw [← h1] at h2
    exact ⟨xs, h2⟩
  · obtain rfl : v = .slice (some x) l c := by simpa using hcs
    obtain ⟨xs, h1, h2⟩ := Ints.lies_of_row (w := W) (a := some x) (len := l) (cap := c) (zs := zs) (.inr ⟨x, rfl, hl, hm, by simpa using hz, hcell, hwz⟩)
    rw [← h1] at h2
    exact ⟨xs, h2⟩
theorem open_rows {H : Type} {enc : TypeId × Value → H} {W : World} {n : Nat} {v : Value} {y : DataW H × List MemPlace} (h : DataW.trod enc Try.prog W 0 (fun _ => true) true n 22 [v] = some y) : ∃ rows, LiesR W v rows := by
  rcases Go.Deep.open_int_rows Try.underlying22 Try.underlying23 Try.underlying3 (by kernel_rfl) (by kernel_rfl) h with ⟨hcs, _⟩ | ⟨a, len, cap, A, L, C, Z, hcs, _, hl, hm, _, hrow⟩
  · obtain rfl : v = .slice none 0 0 := by simpa using hcs
    exact ⟨[], [], ⟨by simp, none, 0, rfl, fun _ => rfl, fun i x hx => by simp at hx⟩, rfl, fun i u r hu => by simp at hu⟩
  · obtain rfl : v = .slice (some a) len cap := by simpa using hcs
    have each : ∀ r, r < len → ∃ xs : List Int, L r = xs.length ∧ Lies (Value.int .i64) W (.slice (A r) xs.length (C r)) xs := fun r hr => by
      obtain ⟨_, h1, h2, h3, h4, h5, h6⟩ := hrow r (by omega)
      cases hA : A r with
      | none =>
        have hC := h5 hA
        obtain ⟨xs, e1, e2⟩ := Ints.lies_of_row (w := W) (a := none) (len := 0) (cap := 0) (zs := []) (.inl ⟨rfl, rfl, rfl, rfl⟩)
        refine ⟨xs, by omega, ?_⟩
        rw [hC]
        exact e2
      | some a' =>
        obtain ⟨_, h7⟩ := h6 a' hA
        obtain ⟨xs, e1, e2⟩ := Ints.lies_of_row (w := W) (a := some a') (len := L r) (cap := C r) (zs := Z r) (.inr ⟨a', rfl, h1, h2, h3, by rw [h3]; exact h7, h4⟩)
        exact ⟨xs, e1, e2⟩
    obtain ⟨f, hf⟩ := Go.Deep.choose_lt each
    refine ⟨(List.range len).map f, (List.range len).map (fun r => .slice (A r) (L r) (C r)), ⟨by simp; unfold maxLen at hm; omega, some a, cap, by simp, (fun h => by cases h), fun i x hx => ?_⟩, by simp, fun i u r hu hr => ?_⟩
    · have hi : i < len := by have := (List.getElem?_eq_some_iff.1 hx).1; simpa using this
      obtain ⟨hc, _⟩ := hrow i (by omega)
      obtain ⟨b, off, spot⟩ := a
      obtain ⟨h0, _⟩ := hrow 0 (by omega)
      obtain rfl : spot = none := by simpa [Addr.add] using World.cell?_spot h0
      rw [addr_plus] at hc
      refine ⟨b, off, rfl, ?_⟩
      rw [hc]
      simp [hi] at hx
      rw [← hx]
      rfl
    · have hi : i < len := by have := (List.getElem?_eq_some_iff.1 hu).1; simpa using this
      simp [hi] at hu hr
      subst hu; subst hr
      obtain ⟨h1, h2⟩ := hf i hi
      rw [h1]
      exact h2
set_option maxRecDepth 100000 in
theorem open_seq {H : Type} {enc : TypeId × Value → H} {W : World} {base : Nat} {v : Value} {d : DataW H} {p : List MemPlace} (hv : Value.okWide Try.prog W .any base 25 v) (h : DataW.Trod enc Try.prog W 0 (fun _ => true) true 25 v d p) :
    ∃ b rows out, LiesS W v b rows out := by
  obtain ⟨v0, v1, v2, y0, y1, y2, n, rfl, _, _, h0, h1, h2⟩ := Go.Joins.open_agg3 Try.underlying25 (by kernel_rfl) (by kernel_rfl) hv h
  obtain ⟨rows, hr⟩ := open_rows h1
  obtain ⟨out, ho⟩ := open_row_ints h2
  obtain ⟨b, hb, _⟩ := DataW.trod_int Try.underlying3 h0
  obtain rfl : v0 = .int .i64 b := by simpa using hb
  exact ⟨b, rows, out, v1, v2, rfl, hr, ho⟩
theorem open_list {H : Type} {enc : TypeId × Value → H} {W : World} {v : Value} {d : DataW H} {p : List MemPlace} (h : DataW.Trod enc Try.prog W 0 (fun _ => true) true 23 v d p) (hv : ∃ a l c, v = .slice a l c) : ∃ xs, Lies (Value.int .i64) W v xs := by
  obtain ⟨a, l, c, rfl⟩ := hv
  obtain ⟨n, hn⟩ := h
  exact open_row_ints hn
end Seqs
end Go.Proofs.Ytgbgcaaekpgapac
/- Contracts of the exact laws' own helpers on sequences, third part: comparing two that are equal. No conditions beyond those that each states. -/
namespace Go.Proofs.Ytgbgcaaekpgapac
open Go.ChangeShapes Go.WideShapes Go.ChangeAt Go.RowKit
open Go.PlainAid Plain
set_option linter.unusedVariables false
namespace Seqs
theorem quiet_more {P : Program} {f : FuncId} {args : Array Value} {w : World} {a n : Nat} {v : Value}
    (h : Calls P f args (w.drewN (a + n)) fun e w' => e = .returned v ∧ ∃ m, w' = (w.drewN (a + n)).drewN m) :
    Calls P f args (w.drewN (a + n)) fun e w'' => e = .returned v ∧ ∃ m, w'' = w.drewN (a + m) :=
  h.mono fun _ _ ⟨he, m, hm⟩ => ⟨he, n + m, by rw [hm, World.drewN_drewN, Nat.add_assoc]⟩
theorem Lies_drewN {v : Value} {xs : List Int} {w : World} (h : Lies (Value.int .i64) w v xs) (n : Nat) : Lies (Value.int .i64) (w.drewN n) v xs := h.below (below_drewN (Below.refl _ _) n)
theorem eqI (u v : Value) (xs : List Int) (w : World) (h1 : Lies (Value.int .i64) w u xs) (h2 : Lies (Value.int .i64) w v xs) :
    Calls Try.prog 26 #[u, v] w fun e w' => e = .returned (.bool true) ∧ ∃ n, w' = w.drewN n := by
  obtain ⟨hl, a, ca, rfl, _, hca⟩ := h1
  obtain ⟨_, b, cb, rfl, _, hcb⟩ := h2
  have HA := Lib.hid hca
  have HB := Lib.hid hcb
  clear hca hcb
  go_enter Try.func26, Try.ntmps26
  go_wp2
  go_loopw [5] (fun i' wr => ∃ k : Nat, k ≤ xs.length ∧ i' = .int .i64 k ∧ ∃ n, wr = w.drewN n) (fun i' _ => xs.length - (intOf i').toNat)
  case atStart => exact ⟨0, Nat.zero_le _, rfl, 0, rfl⟩
  case round =>
    obtain ⟨k, hk, rfl, n, rfl⟩ := hrel
    by_cases hlt : k < xs.length
    · obtain ⟨p, o, rfl, hc1⟩ := HA.out k _ (List.getElem?_eq_getElem hlt)
      obtain ⟨q, r, rfl, hc2⟩ := HB.out k _ (List.getElem?_eq_getElem hlt)
      go_wp2
      go_quiet (fail)
      go_wp2
      go_roundw
      case rel => exact ⟨k + 1, by omega, by go_num, _, rfl⟩
      case measure => simp [intOf]; omega
    · go_wp2
      go_ret
      exact ⟨rfl, n, rfl⟩
theorem eqR (u v : Value) (rows : List (List Int)) (w : World) (h1 : LiesR w u rows) (h2 : LiesR w v rows) :
    Calls Try.prog 25 #[u, v] w fun e w' => e = .returned (.bool true) ∧ ∃ n, w' = w.drewN n := by
  obtain ⟨a, ca, rfl, hl, hc1⟩ := h1.row
  obtain ⟨b, cb, rfl, _, hc2⟩ := h2.row
  have HA := Lib.hid hc1
  have HB := Lib.hid hc2
  clear hc1 hc2 h1 h2
  go_enter Try.func25, Try.ntmps25
  go_wp2
  go_loopw [5] (fun i' wr => ∃ k : Nat, k ≤ rows.length ∧ i' = .int .i64 k ∧ ∃ n, wr = w.drewN n) (fun i' _ => rows.length - (intOf i').toNat)
  case atStart => exact ⟨0, Nat.zero_le _, rfl, 0, rfl⟩
  case round =>
    obtain ⟨k, hk, rfl, n, rfl⟩ := hrel
    by_cases hlt : k < rows.length
    · obtain ⟨r, hr⟩ : ∃ r, rows[k]? = some r := ⟨_, List.getElem?_eq_getElem hlt⟩
      obtain ⟨p, o, x, rfl, hx, lx⟩ := HA.out k r hr
      obtain ⟨q, s, y, rfl, hy, ly⟩ := HB.out k r hr
      have LX := Lib.hid lx
      have LY := Lib.hid ly
      clear lx ly hr
      go_wp2
      go_quiet ((go_at_call 26; exact quiet_more (eqI _ _ r _ (Lies_drewN LX.out _) (Lies_drewN LY.out _))))
      go_wp2
      go_roundw
      case rel => exact ⟨k + 1, by omega, by go_num, _, rfl⟩
      case measure => simp [intOf]; omega
    · go_wp2
      go_ret
      exact ⟨rfl, n, rfl⟩
theorem eqS (u v : Value) (b : Int) (rows : List (List Int)) (out : List Int) (w : World) (h1 : LiesS w u b rows out) (h2 : LiesS w v b rows out) :
    Calls Try.prog 10 #[u, v] w fun e w' => e = .returned (.bool true) ∧ Below w.heap.size w w' := by
  obtain ⟨un, uo, rfl, hn, ho⟩ := h1
  obtain ⟨vn, vo, rfl, hn', ho'⟩ := h2
  have hB : ∀ n, Below w.heap.size w (((w.alloc (Obj.cells #[Value.int .i64 b, un, uo] 30)).alloc (Obj.cells #[Value.int .i64 b, vn, vo] 30)).drewN n) :=
    fun n => below_drewN (((Below.refl _ _).alloc (Nat.le_refl _) _).alloc (by simp) _) n
  have HB := Lib.hid hB
  have HN := Lib.hid hn
  have HO := Lib.hid ho
  have HN' := Lib.hid hn'
  have HO' := Lib.hid ho'
  clear hB hn ho hn' ho'
  go_enter Try.func10, Try.ntmps10
  go_wp2_with fail
  refine (eqR _ _ rows _ (HN.out.below (HB.out 0)) (HN'.out.below (HB.out 0))).mono ?_
  rintro e w' ⟨rfl, n, rfl⟩
  go_wp2_with fail
  refine (eqI _ _ out _ (HO.out.below (HB.out n)) (HO'.out.below (HB.out n))).mono ?_
  rintro e w' ⟨rfl, m, rfl⟩
  go_wp2
  go_ret
  exact ⟨rfl, HB.out _⟩
end Seqs
end Go.Proofs.Ytgbgcaaekpgapac
/- Contracts of the exact laws' own helpers on sequences, fourth part: writing marks into one, asking for the marks. No conditions beyond those that each states. -/
namespace Go.Proofs.Ytgbgcaaekpgapac
open Go.ChangeShapes Go.WideShapes Go.ChangeAt Go.RowKit
open Go.PlainAid Plain
set_option linter.unusedVariables false
namespace Seqs
open Ints
theorem lies_at {α : Type} {enc : α → Value} {w : World} {a : Option Addr} {n cap : Nat} {xs : List α} (h : Lies enc w (.slice a n cap) xs) {i : Nat} {x : α} (hx : xs[i]? = some x) : ∃ b off, a = some ⟨b, off, none⟩ ∧ w.cell? ⟨b, off + i, none⟩ = some (enc x) := by
  obtain ⟨_, a', cap', he, _, hc⟩ := h
  injection he with e1 e2 e3
  subst e1
  exact hc i x hx
/-- The rows' marks from k on. -/
def markedR (k : Int) (rows : List (List Int)) : List (List Int) := rows.mapIdx fun j r => marks (k + tot (rows.take j)) r.length
theorem markedR_at (k : Int) (rows : List (List Int)) (j : Nat) (r : List Int) (h : rows[j]? = some r) : (markedR k rows)[j]? = some (marks (k + tot (rows.take j)) r.length) := by simp [markedR, h]
theorem markedR_len (k : Int) (rows : List (List Int)) : (markedR k rows).length = rows.length := by simp [markedR]
/-- The marks are written into the rows before i. -/
def MarkAt (w : World) (lo hi : Nat) (us : List Value) (rows : List (List Int)) (k : Int) (i : Nat) : Prop :=
  ∀ (j : Nat) (u : Value) (r : List Int), us[j]? = some u → rows[j]? = some r → OwnI w lo hi u (if j < i then marks (k + tot (rows.take j)) r.length else r)
theorem MarkAt.step {w w' : World} {lo hi : Nat} {us : List Value} {rows : List (List Int)} {k : Int} {i : Nat} {u : Value} {r : List Int} (h : MarkAt w lo hi us rows k i)
    (hap : ∀ (i j : Nat) (u u' : Value), us[i]? = some u → us[j]? = some u' → i ≠ j → u.ownBlock = none ∨ u.ownBlock ≠ u'.ownBlock)
    (hu : us[i]? = some u) (hr : rows[i]? = some r) (hm : Has (Value.int .i64) 3 w' lo u (marks (k + tot (rows.take i)) r.length)) (hg : w.grownBy w' u.ownBlock) : MarkAt w' lo hi us rows k (i + 1) := by
  intro j u' r' hu' hr'
  by_cases e : j = i
  · subst e
    obtain rfl : u = u' := Option.some.inj (hu.symm.trans hu')
    obtain rfl : r = r' := Option.some.inj (hr.symm.trans hr')
    rw [if_pos (by omega)]
    have := h j u r hu hr
    exact ⟨hm, this.lt, Nat.le_trans this.le hg.size⟩
  · have h1 := (h j u' r' hu' hr').wrote (Wrote.of_grown hg) (fun x hx => by
      obtain rfl : x = u := by simpa using hx
      exact hap j i u' x hu' hu e)
    by_cases hj : j < i
    · rw [if_pos hj] at h1
      rw [if_pos (by omega)]
      exact h1
    · rw [if_neg hj] at h1
      rw [if_neg (by omega)]
      exact h1
theorem markR (v : Value) (us : List Value) (rows : List (List Int)) (w : World) (lo hi : Nat) (k : Int) (h : OwnR w lo hi v us rows) (h0 : 0 ≤ k) (h1 : k + tot rows ≤ 9223372036854775807) :
    Calls Try.prog 27 #[v, .int .i64 k] w fun e w' => e = .returned (.int .i64 (k + tot rows)) ∧ OwnRows w' lo hi us (markedR k rows) ∧ Wrote us w w' := by
  obtain ⟨a, ca, rfl, _⟩ := h.top.form
  have hlen := Lib.hid h.rows.len
  have hsm := h.top.small
  have HT := Lib.hid h.top
  have HAP := Lib.hid h.rows.apart
  have HM : Hid (MarkAt w lo hi us rows k 0) := fun j u r hu hr => by
    rw [if_neg (by omega)]
    exact h.rows.row j u r hu hr
  have HN := Lib.hid h.rows.row
  clear h
  go_enter Try.func27, Try.ntmps27
  go_wp2
  go_loopw [1, 5] (fun k' i' wr => ∃ (i : Nat) (m : Int), i ≤ us.length ∧ k' = .int .i64 m ∧ Hid (m = k + tot (rows.take i)) ∧ 0 ≤ m ∧ i' = .int .i64 i ∧ Hid (MarkAt wr lo hi us rows k i) ∧ Hid (Wrote us w wr)) (fun _ i' _ => us.length - (intOf i').toNat)
  case atStart => exact ⟨0, k, Nat.zero_le _, rfl, (by show k = k + tot []; simp [tot]), h0, rfl, HM, Wrote.refl _ _⟩
  case round =>
    obtain ⟨i, m, hile, rfl, hm, hm0, rfl, hat, hw⟩ := hrel
    by_cases hlt : i < us.length
    · obtain ⟨r, hr⟩ : ∃ r, rows[i]? = some r := ⟨_, List.getElem?_eq_getElem (by rw [← hlen.out]; exact hlt)⟩
      obtain ⟨u, hu⟩ : ∃ u, us[i]? = some u := ⟨_, List.getElem?_eq_getElem hlt⟩
      have HTr := Lib.hid (HT.out.of_same (w' := wr) fun b hb => hw.out.block b (HT.out.lt b hb).2 fun x hx e => by
        obtain ⟨j, hj⟩ := List.getElem?_of_mem hx
        obtain ⟨y, hy⟩ : ∃ y, rows[j]? = some y := ⟨_, List.getElem?_eq_getElem (by rw [← hlen.out]; exact (List.getElem?_eq_some_iff.1 hj).1)⟩
        rcases HT.out.ne_top (HN.out j x y hj hy).has with h2 | h2
        · rw [h2] at hb; cases hb
        · exact h2 (hb.trans e.symm))
      obtain ⟨b, off, rfl, hcell⟩ := lies_at HTr.out.lies hu
      have hcell' : wr.cell? ⟨b, off + i, none⟩ = some u := hcell
      have HO := Lib.hid (hat.out i u r hu hr)
      rw [if_neg (Nat.lt_irrefl i)] at HO
      have HTK := Lib.hid (tot_take rows i r hr)
      have hle := tot_take_le rows (i + 1)
      have hmle : m + r.length ≤ 9223372036854775807 := by have := HTK.out; have := hm.out; omega
      have HU := Lib.hid hu
      have HR := Lib.hid hr
      clear hcell hu hr HTr hle
      go_wp2_with fail
      refine (Ints.mark u r _ lo m HO.out.has hm0 hmle).mono ?_
      rintro e W1 ⟨rfl, hh, hg⟩
      rw [hm.out] at hh
      have HA1 := Lib.hid (hat.out.step HAP.out HU.out HR.out hh hg)
      have HW1 := Lib.hid (hw.out.trans ((Wrote.of_grown hg).mono (us' := us) fun x hx => by
        obtain rfl : x = u := by simpa using hx
        exact List.mem_of_getElem? HU.out))
      clear hh hg hat hw
      go_wp2
      go_roundw
      case rel => exact ⟨i + 1, m + r.length, by omega, rfl, (by show m + (r.length : Int) = k + tot (rows.take (i + 1)); have := HTK.out; have := hm.out; omega), by omega, by go_num, HA1.out, HW1.out⟩
      case measure => simp [intOf]; omega
    · have HE : Hid (m = k + tot rows) := by
        have := hm.out
        rw [List.take_of_length_le (by have := hlen.out; omega)] at this
        exact this
      have HZ : Hid (OwnRows wr lo hi us (markedR k rows)) := ⟨by rw [markedR_len, hlen.out], fun j u r hu hr => by
        obtain ⟨y, hy⟩ : ∃ y, rows[j]? = some y := ⟨_, List.getElem?_eq_getElem (by rw [← hlen.out]; exact (List.getElem?_eq_some_iff.1 hu).1)⟩
        have h2 := hat.out j u y hu hy
        rw [if_pos (by have := (List.getElem?_eq_some_iff.1 hu).1; omega)] at h2
        rw [markedR_at k rows j y hy] at hr
        obtain rfl := Option.some.inj hr
        exact h2, HAP.out⟩
      go_wp2
      go_ret
      exact ⟨ret_i HE.out, HZ.out, hw.out⟩
theorem markS (v : Value) (b : Int) (rows : List (List Int)) (out : List Int) (w : World) (lo hi : Nat) (k : Int) (h : OwnS w lo hi v b rows out) (h0 : 0 ≤ k) (h1 : k + (tot rows + out.length : Nat) ≤ 9223372036854775807) :
    Calls Try.prog 11 #[v, .int .i64 k] w fun e w' => e = .returned (.int .i64 (k + (tot rows + out.length : Nat))) ∧ OwnS w' lo hi v b (markedR k rows) (marks (k + tot rows) out.length) ∧ Plain.Touch lo hi w w' := by
  obtain ⟨vn, vo, us, rfl, hn, ho⟩ := h
  have HN := Lib.hid hn
  have HO := Lib.hid ho
  have hlen : us.length = rows.length := hn.rows.len
  have HAP := Lib.hid ho.apart
  clear hn ho
  go_enter Try.func11, Try.ntmps11
  go_wp2_with fail
  have hB : Below w.heap.size w (w.alloc (Obj.cells #[Value.int .i64 b, vn, vo] 30)) := (Below.refl _ _).alloc (Nat.le_refl _) _
  have HC := Lib.hid (Cells3.new w 30 (.int .i64 b) vn vo)
  have HB := Lib.hid hB
  have HN0 := Lib.hid (HN.out.below hB)
  have HL := Lib.hid (HO.out.last.below hB)
  clear hB
  refine (markR _ us rows _ lo hi k HN0.out h0 (by omega)).mono ?_
  rintro e W1 ⟨rfl, hr, hw⟩
  have HW := Lib.hid hw
  have HR := Lib.hid hr
  have nb : ∀ x ∈ us, x.ownBlock ≠ some w.heap.size := fun x hx e => by
    obtain ⟨j, hj⟩ := List.getElem?_of_mem hx
    obtain ⟨y, hy⟩ : ∃ y, rows[j]? = some y := ⟨_, List.getElem?_eq_getElem (by rw [← hlen]; exact (List.getElem?_eq_some_iff.1 hj).1)⟩
    have := (HN.out.rows.row j x y hj hy).lt _ e
    have := HN.out.le
    omega
  have HC1 : Hid (Cells3 W1 w.heap.size 30 (.int .i64 b) vn vo) := ⟨(HW.out.block _ HC.out.lt nb).trans HC.out.row⟩
  have HL1 := Lib.hid (HL.out.wrote hw (fun x hx => by
    obtain ⟨j, hj⟩ := List.getElem?_of_mem hx
    have hjl := (List.getElem?_eq_some_iff.1 hj).1
    exact HAP.out us.length j vo x (by simp) (by rw [List.getElem?_append_left hjl]; exact hj) (by omega)))
  have HT1 : Hid (Has id 23 W1 lo vn us) := HN0.out.top.of_same fun k hk => hw.block k (HN0.out.top.lt k hk).2 fun x hx e => by
    obtain ⟨j, hj⟩ := List.getElem?_of_mem hx
    obtain ⟨y, hy⟩ : ∃ y, rows[j]? = some y := ⟨_, List.getElem?_eq_getElem (by rw [← hlen]; exact (List.getElem?_eq_some_iff.1 hj).1)⟩
    rcases HN0.out.top.ne_top (HN0.out.rows.row j x y hj hy).has with h2 | h2
    · rw [h2] at hk; cases hk
    · exact h2 (hk.trans e.symm)
  clear hw hr nb HC
  have k1 := HC1.out.c2
  have hk1 : 0 ≤ k + (tot rows : Int) := by omega
  go_wp2_with fail
  refine (Ints.mark vo out _ lo (k + (tot rows : Int)) HL1.out.has hk1 (by omega)).mono ?_
  rintro e W2 ⟨rfl, hh, hg⟩
  have HF : Hid (OwnS W2 lo hi (.agg #[.int .i64 b, vn, vo]) b (markedR k rows) (marks (k + tot rows) out.length) ∧ Plain.Touch lo hi w W2) := by
    have hO : OwnI W2 lo hi vo (marks (k + tot rows) out.length) := ⟨hh, HL1.out.lt, Nat.le_trans HL1.out.le hg.size⟩
    have hap2 : ∀ (j : Nat) (x : Value), us[j]? = some x → x.ownBlock = none ∨ x.ownBlock ≠ vo.ownBlock := fun j x hj => by
      have hjl := (List.getElem?_eq_some_iff.1 hj).1
      exact HAP.out j us.length x vo (by rw [List.getElem?_append_left hjl]; exact hj) (by simp) (by omega)
    have hR : OwnRows W2 lo hi us (markedR k rows) := ⟨HR.out.len, fun j x r hj hr => (HR.out.row j x r hj hr).wrote (Wrote.of_grown hg) (fun y hy => by
      obtain rfl : y = vo := by simpa using hy
      exact hap2 j x hj), HR.out.apart⟩
    have hT : Has id 23 W2 lo vn us := HT1.out.of_same fun k hk => hg.block k (HT1.out.lt k hk).2 fun e => by
      rcases HT1.out.ne_top HL1.out.has with h2 | h2
      · rw [h2] at hk; cases hk
      · exact h2 (hk.trans e)
    refine ⟨⟨vn, vo, us, rfl, ⟨hT, HN.out.lt, hO.le, hR⟩, ⟨by simp [markedR_len, hlen], fun j x r hj hr => ?_, HAP.out⟩⟩, ?_⟩
    · by_cases hjl : j < us.length
      · rw [List.getElem?_append_left hjl] at hj
        rw [List.getElem?_append_left (by rw [markedR_len]; omega)] at hr
        exact hR.row j x r hj hr
      · have e1 : j = us.length := by have := (List.getElem?_eq_some_iff.1 hj).1; simp at this; omega
        subst e1
        rw [List.getElem?_append_right (Nat.le_refl _)] at hj
        rw [hlen, ← markedR_len k rows, List.getElem?_append_right (Nat.le_refl _)] at hr
        simp at hj hr
        subst hj; subst hr
        exact hO
    · have t1 : Plain.Touch lo hi (w.alloc (Obj.cells #[Value.int .i64 b, vn, vo] 30)) W1 := Touch.of_wrote HW.out fun x hx q hq => by
        obtain ⟨j, hj⟩ := List.getElem?_of_mem hx
        obtain ⟨y, hy⟩ : ∃ y, rows[j]? = some y := ⟨_, List.getElem?_eq_getElem (by rw [← hlen]; exact (List.getElem?_eq_some_iff.1 hj).1)⟩
        exact (HN.out.rows.row j x y hj hy).range q hq
      have t2 : Plain.Touch lo hi W1 W2 := Touch.of_wrote (Wrote.of_grown hg) fun x hx q hq => by
        obtain rfl : x = vo := by simpa using hx
        exact HL1.out.range q hq
      have t0 : Plain.Touch lo hi w (w.alloc (Obj.cells #[Value.int .i64 b, vn, vo] 30)) := ⟨HB.out.os, HB.out.tape, HB.out.output, HB.out.size, fun q hq _ => HB.out.block q hq⟩
      exact (t0.trans t1).trans t2
  clear hh hg HC1 HL1 HT1 HR HW HN0 HL k1
  go_wp2
  go_ret
  exact ⟨ret_i (by omega), HF.out⟩
end Seqs
end Go.Proofs.Ytgbgcaaekpgapac
/- Contracts of the exact laws' own helpers on sequences, fifth part: asking one for the marks. No conditions beyond those that each states. -/
namespace Go.Proofs.Ytgbgcaaekpgapac
open Go.ChangeShapes Go.WideShapes Go.ChangeAt Go.RowKit
open Go.PlainAid Plain
set_option linter.unusedVariables false
namespace Seqs
open Ints
theorem heldR (v : Value) (rows : List (List Int)) (w : World) (k : Int) (h : LiesR w v (markedR k rows)) (h0 : 0 ≤ k) (h1 : k + tot rows ≤ 9223372036854775807) :
    Calls Try.prog 29 #[v, .int .i64 k] w fun e w' => e = .returned (.int .i64 (k + tot rows)) ∧ w = w' := by
  obtain ⟨a, ca, rfl, hl, hc⟩ := h.row
  rw [markedR_len] at *
  have HC := Lib.hid hc
  clear hc h
  go_enter Try.func29, Try.ntmps29
  go_wp2
  go_loop [1, 5] (fun k' i' => ∃ (i : Nat) (m : Int), i ≤ rows.length ∧ k' = .int .i64 m ∧ Hid (m = k + tot (rows.take i)) ∧ 0 ≤ m ∧ i' = .int .i64 i) (fun _ i' => rows.length - (intOf i').toNat)
  case atStart => exact ⟨0, k, Nat.zero_le _, rfl, (by show k = k + tot []; simp [tot]), h0, rfl⟩
  case round =>
    obtain ⟨i, m, hile, rfl, hm, hm0, rfl⟩ := hrel
    by_cases hlt : i < rows.length
    · obtain ⟨r, hr⟩ : ∃ r, rows[i]? = some r := ⟨_, List.getElem?_eq_getElem hlt⟩
      obtain ⟨b, off, u, rfl, hcell, hlies⟩ := HC.out i _ (markedR_at k rows i r hr)
      have HTK := Lib.hid (tot_take rows i r hr)
      have hle := tot_take_le rows (i + 1)
      have hmle : m + r.length ≤ 9223372036854775807 := by have := HTK.out; have := hm.out; omega
      have HL := Lib.hid hlies
      rw [← hm.out] at HL
      have hd := decide_eq_false (show ¬ m + (r.length : Int) < 0 by omega)
      clear hr hle hlies
      go_wp2_with fail
      refine (Ints.held u r.length _ m HL.out hm0 hmle).mono ?_
      rintro e W1 ⟨rfl, rfl⟩
      go_wp2
      go_round
      case rel => exact ⟨i + 1, m + r.length, by omega, rfl, (by show m + (r.length : Int) = k + tot (rows.take (i + 1)); have := HTK.out; have := hm.out; omega), by omega, by go_num⟩
      case measure => simp [intOf]; omega
    · have HE : Hid (m = k + tot rows) := by
        have := hm.out
        rw [List.take_of_length_le (by omega)] at this
        exact this
      go_wp2
      go_ret
      exact ⟨ret_i HE.out, rfl⟩
theorem heldS (v : Value) (b : Int) (rows : List (List Int)) (n : Nat) (w : World) (k : Int) (h : LiesS w v b (markedR k rows) (marks (k + tot rows) n)) (h0 : 0 ≤ k) (h1 : k + (tot rows + n : Nat) ≤ 9223372036854775807) :
    Calls Try.prog 16 #[v, .int .i64 k] w fun e w' => e = .returned (.int .i64 (k + (tot rows + n : Nat))) ∧ Below w.heap.size w w' := by
  obtain ⟨vn, vo, rfl, hn, ho⟩ := h
  have HN := Lib.hid hn
  have HO := Lib.hid ho
  clear hn ho
  have hd := decide_eq_false (show ¬ k + (tot rows : Int) < 0 by omega)
  have hd1 := decide_eq_false (show ¬ k + (tot rows : Int) + (n : Int) < 0 by omega)
  have hk1 : 0 ≤ k + (tot rows : Int) := by omega
  go_enter Try.func16, Try.ntmps16
  go_wp2_with fail
  refine (heldR _ rows _ k (HN.out.below ((Below.refl _ _).alloc (Nat.le_refl _) _)) h0 (by omega)).mono ?_
  rintro e w' ⟨rfl, rfl⟩
  go_wp2_with fail
  refine (Ints.held _ n _ (k + (tot rows : Int)) (HO.out.below ((Below.refl _ _).alloc (Nat.le_refl _) _)) hk1 (by omega)).mono ?_
  rintro e w' ⟨rfl, rfl⟩
  go_wp2
  go_ret
  exact ⟨ret_i (by omega), (Below.refl _ _).alloc (Nat.le_refl _) _⟩
theorem markI' (v : Value) (xs : List Int) (w : World) (lo hi : Nat) (h : OwnI w lo hi v xs) (h1 : xs.length ≤ 4194304) :
    Calls Try.prog 28 #[v, .int .i64 1] w fun e w' => e = .returned (.int .i64 (1 + xs.length)) ∧ OwnI w' lo hi v (marks 1 xs.length) ∧ Plain.Touch lo hi w w' :=
  (Ints.mark v xs w lo 1 h.has (by omega) (by omega)).mono fun e w' ⟨h2, h3, h4⟩ => ⟨h2, ⟨h3, h.lt, Nat.le_trans h.le h4.size⟩, Touch.of_wrote (Wrote.of_grown h4) fun x hx q hq => by
    obtain rfl : x = v := by simpa using hx
    exact h.range q hq⟩
theorem markS' (v : Value) (b : Int) (rows : List (List Int)) (out : List Int) (T : Nat) (w : World) (lo hi : Nat) (hT : T = tot rows + out.length) (h : OwnS w lo hi v b rows out) (h1 : T ≤ 4194304) :
    Calls Try.prog 11 #[v, .int .i64 1] w fun e w' => e = .returned (.int .i64 (1 + T)) ∧ OwnS w' lo hi v b (markedR 1 rows) (marks (1 + tot rows) out.length) ∧ Plain.Touch lo hi w w' := by
  subst hT
  exact markS v b rows out w lo hi 1 h (by omega) (by omega)
theorem heldS' (v : Value) (b : Int) (rows : List (List Int)) (out : List Int) (T : Nat) (w : World) (hT : T = tot rows + out.length) (h : LiesS w v b (markedR 1 rows) (marks (1 + tot rows) out.length)) (h1 : T ≤ 4194304) :
    Calls Try.prog 16 #[v, .int .i64 1] w fun e w' => e = .returned (.int .i64 (1 + T)) ∧ Below w.heap.size w w' := by
  subst hT
  exact heldS v b rows out.length w 1 h (by omega) (by omega)
end Seqs
end Go.Proofs.Ytgbgcaaekpgapac
/- The laws' marks, begun at a later number: behind another argument's. No conditions beyond those that each states. -/
namespace Go.Proofs.Ytgbgcaaekpgapac
open Go.ChangeShapes Go.WideShapes Go.ChangeAt Go.RowKit
open Go.PlainAid Plain
open Ints (marks)
set_option linter.unusedVariables false
namespace Seqs
theorem markIk (v : Value) (xs : List Int) (w : World) (lo hi : Nat) (k : Int) (h : OwnI w lo hi v xs) (h1 : xs.length ≤ 4194304) (hk0 : 0 ≤ k) (hk1 : k ≤ 4194304) :
    Calls Try.prog 28 #[v, .int .i64 k] w fun e w' => e = .returned (.int .i64 (k + xs.length)) ∧ OwnI w' lo hi v (marks k xs.length) ∧ Plain.Touch lo hi w w' :=
  (Ints.mark v xs w lo k h.has hk0 (by omega)).mono fun e w' ⟨h2, h3, h4⟩ => ⟨h2, ⟨h3, h.lt, Nat.le_trans h.le h4.size⟩, Touch.of_wrote (Wrote.of_grown h4) fun x hx q hq => by
    obtain rfl : x = v := by simpa using hx
    exact h.range q hq⟩
theorem markSk (v : Value) (b : Int) (rows : List (List Int)) (out : List Int) (T : Nat) (w : World) (lo hi : Nat) (k : Int) (hT : T = tot rows + out.length) (h : OwnS w lo hi v b rows out) (h1 : T ≤ 4194304) (hk0 : 0 ≤ k) (hk1 : k ≤ 4194304) :
    Calls Try.prog 11 #[v, .int .i64 k] w fun e w' => e = .returned (.int .i64 (k + T)) ∧ OwnS w' lo hi v b (markedR k rows) (marks (k + tot rows) out.length) ∧ Plain.Touch lo hi w w' := by
  subst hT
  exact markS v b rows out w lo hi k h hk0 (by omega)
end Seqs
end Go.Proofs.Ytgbgcaaekpgapac
/- Plain facts on lists without repetition: how many elements they can have, an element put behind a list that lacks it, the different elements of a list and their numbers. No conditions beyond those that each fact states. -/
namespace Go.Proofs.Ytgbgcaaekpgapac.Plain
set_option linter.unusedVariables false
/-! ### lists without repetition -/
theorem nodup_sub_len {α : Type} [DecidableEq α] : ∀ (l m : List α), l.Nodup → (∀ x ∈ l, x ∈ m) → l.length ≤ m.length
  | [], _, _, _ => Nat.zero_le _
  | a :: l, m, hn, hs => by
    have ha : a ∈ m := hs a (by simp)
    rw [List.nodup_cons] at hn
    have h1 := nodup_sub_len l (m.erase a) hn.2 (fun x hx => (List.mem_erase_of_ne (fun e => hn.1 (by rw [← e]; exact hx))).2 (hs x (by simp [hx])))
    rw [List.length_erase_of_mem ha] at h1
    have : 0 < m.length := List.length_pos_of_mem ha
    simp
    omega
theorem nodup_of_sub_len {α : Type} [DecidableEq α] : ∀ (l m : List α), l.Nodup → (∀ x ∈ l, x ∈ m) → m.length ≤ l.length → m.Nodup
  | [], m, _, _, hl => by
    have : m = [] := List.eq_nil_of_length_eq_zero (by simpa using hl)
    subst this
    exact List.nodup_nil
  | a :: l, m, hn, hs, hl => by
    have ha : a ∈ m := hs a (by simp)
    have hn' := hn
    rw [List.nodup_cons] at hn
    have hs' : ∀ x ∈ l, x ∈ m.erase a := fun x hx => (List.mem_erase_of_ne (fun e => hn.1 (by rw [← e]; exact hx))).2 (hs x (by simp [hx]))
    have hle : (m.erase a).length = m.length - 1 := List.length_erase_of_mem ha
    have h0 : 0 < m.length := List.length_pos_of_mem ha
    have hl' : m.length ≤ l.length + 1 := by simpa using hl
    have h1 := nodup_of_sub_len l (m.erase a) hn.2 hs' (by omega)
    have hna : a ∉ m.erase a := fun h2 => by
      have h3 := nodup_sub_len (a :: l) (m.erase a) hn' (fun x hx => by
        rcases List.mem_cons.1 hx with rfl | hx
        · exact h2
        · exact hs' x hx)
      simp at h3
      omega
    exact (List.perm_cons_erase ha).nodup_iff.2 (List.nodup_cons.2 ⟨hna, h1⟩)
theorem nodup_bounded (l : List Int) (N : Nat) (hn : l.Nodup) (hb : ∀ x ∈ l, 0 ≤ x ∧ x < N) : l.length ≤ N := by
  have h := nodup_sub_len l ((List.range N).map (fun n : Nat => (n : Int))) hn (fun x hx => by
    have := hb x hx
    exact List.mem_map.2 ⟨x.toNat, List.mem_range.2 (by omega), by omega⟩)
  simpa using h

/-! ### an element is put behind a list that lacks it -/
section
variable {α : Type} [DecidableEq α]
def addTo (l : List α) (x : α) : List α := if x ∈ l then l else l ++ [x]
def addAll (l xs : List α) : List α := xs.foldl addTo l
theorem addTo_in {l : List α} {x : α} (h : x ∈ l) : addTo l x = l := if_pos h
theorem addTo_new {l : List α} {x : α} (h : x ∉ l) : addTo l x = l ++ [x] := if_neg h
theorem addTo_nodup {l : List α} (h : l.Nodup) (x : α) : (addTo l x).Nodup := by
  unfold addTo
  split
  · exact h
  · rename_i hx
    rw [List.nodup_append]
    exact ⟨h, by simp, by simp; exact fun a ha e => hx (e ▸ ha)⟩
theorem mem_addTo {l : List α} {x y : α} : y ∈ addTo l x ↔ y ∈ l ∨ y = x := by
  unfold addTo
  split
  · rename_i h
    exact ⟨.inl, fun h1 => h1.elim id (fun e => e ▸ h)⟩
  · simp
theorem addTo_prefix (l : List α) (x : α) : l <+: addTo l x := by
  unfold addTo
  split
  · exact List.prefix_refl _
  · exact List.prefix_append _ _
theorem addAll_nil (l : List α) : addAll l [] = l := rfl
theorem addAll_cons (l : List α) (x : α) (xs : List α) : addAll l (x :: xs) = addAll (addTo l x) xs := rfl
theorem addAll_snoc (l xs : List α) (x : α) : addAll l (xs ++ [x]) = addTo (addAll l xs) x := by simp [addAll]
theorem addAll_nodup : ∀ (xs : List α) (l : List α), l.Nodup → (addAll l xs).Nodup
  | [], _, h => h
  | x :: xs, l, h => addAll_nodup xs _ (addTo_nodup h x)
theorem mem_addAll : ∀ (xs l : List α) (y : α), y ∈ addAll l xs ↔ y ∈ l ∨ y ∈ xs
  | [], l, y => by simp [addAll]
  | x :: xs, l, y => by
    rw [addAll_cons, mem_addAll xs, mem_addTo, List.mem_cons]
    constructor
    · rintro ((h | h) | h)
      · exact .inl h
      · exact .inr (.inl h)
      · exact .inr (.inr h)
    · rintro (h | h | h)
      · exact .inl (.inl h)
      · exact .inl (.inr h)
      · exact .inr h
theorem addAll_prefix : ∀ (xs l : List α), l <+: addAll l xs
  | [], _ => List.prefix_refl _
  | x :: xs, l => (addTo_prefix l x).trans (addAll_prefix xs _)
theorem addAll_get {l xs : List α} {i : Nat} {s : α} (h : l[i]? = some s) : (addAll l xs)[i]? = some s := by
  obtain ⟨t, ht⟩ := addAll_prefix xs l
  have hi := (List.getElem?_eq_some_iff.1 h).1
  rw [← ht, List.getElem?_append_left hi]
  exact h
theorem addAll_of_sub : ∀ (xs l : List α), (∀ x ∈ xs, x ∈ l) → addAll l xs = l
  | [], _, _ => rfl
  | x :: xs, l, h => by
    rw [addAll_cons, addTo_in (h x (by simp))]
    exact addAll_of_sub xs l fun y hy => h y (by simp [hy])
theorem addAll_append (l xs ys : List α) : addAll l (xs ++ ys) = addAll (addAll l xs) ys := by simp [addAll]
/-- An element's first place. -/
def ix (l : List α) (x : α) : Nat := l.idxOf x
/-- The first place of an element stays while the list grows behind. -/
theorem idxOf_prefix {l m : List α} (h : l <+: m) {x : α} (hx : x ∈ l) : ix m x = ix l x := by
  obtain ⟨t, rfl⟩ := h
  rw [ix, List.idxOf_append, if_pos hx]
  rfl
theorem idxOf_lt {l : List α} {x : α} (h : x ∈ l) : ix l x < l.length := List.idxOf_lt_length_of_mem h
theorem get_idxOf {l : List α} {x : α} (h : x ∈ l) : l[ix l x]? = some x := by
  rw [List.getElem?_eq_getElem (idxOf_lt h)]
  exact congrArg some (List.getElem_idxOf (idxOf_lt h))
theorem idxOf_inj {l : List α} {x y : α} (hx : x ∈ l) (hy : y ∈ l) (h : ix l x = ix l y) : x = y := by
  have h1 := get_idxOf hx
  rw [h, get_idxOf hy] at h1
  exact (Option.some.inj h1).symm
theorem idxOf_get {l : List α} (hn : l.Nodup) {i : Nat} {x : α} (h : l[i]? = some x) : ix l x = i := by
  obtain ⟨hi, rfl⟩ := List.getElem?_eq_some_iff.1 h
  have h1 : l[i] ∈ l := List.getElem_mem _
  have h2 := get_idxOf h1
  obtain ⟨h3, h4⟩ := List.getElem?_eq_some_iff.1 h2
  have hp := List.pairwise_iff_getElem.1 hn
  rcases Nat.lt_trichotomy (ix l l[i]) i with h5 | h5 | h5
  · exact absurd h4 (hp _ _ h3 hi h5)
  · exact h5
  · exact absurd h4.symm (hp _ _ hi h3 h5)
/-- The different elements, as they first come. -/
def dist (keys : List α) : List α := addAll [] keys
theorem dist_nodup (keys : List α) : (dist keys).Nodup := addAll_nodup keys _ List.nodup_nil
theorem mem_dist {keys : List α} {x : α} : x ∈ dist keys ↔ x ∈ keys := by simp [dist, mem_addAll]
theorem dist_snoc (keys : List α) (x : α) : dist (keys ++ [x]) = addTo (dist keys) x := addAll_snoc _ _ _
theorem dist_prefix (keys ys : List α) : dist keys <+: dist (keys ++ ys) := by
  rw [dist, dist, addAll_append]
  exact addAll_prefix _ _
/-- Each key's number, by the order in which they first come. -/
def numb (keys : List α) : List Int := keys.map fun k => (ix (dist keys) k : Int)
theorem numb_len (keys : List α) : (numb keys).length = keys.length := by simp [numb]
theorem numb_get {keys : List α} {i : Nat} {k : α} (h : keys[i]? = some k) : (numb keys)[i]? = some (ix (dist keys) k : Int) := by simp [numb, h]
theorem numb_snoc (keys : List α) (k : α) : numb (keys ++ [k]) = numb keys ++ [(ix (addTo (dist keys) k) k : Int)] := by
  rw [numb, dist_snoc, List.map_append]
  congr 1
  apply List.map_congr_left
  intro x hx
  rw [idxOf_prefix (addTo_prefix _ _) (mem_dist.2 hx)]
theorem numb_new {keys : List α} {k : α} (h : k ∉ keys) : numb (keys ++ [k]) = numb keys ++ [((dist keys).length : Int)] := by
  rw [numb_snoc, addTo_new (fun h1 => h (mem_dist.1 h1)), ix, List.idxOf_append, if_neg (fun h1 => h (mem_dist.1 h1))]
  simp
theorem numb_old {keys : List α} {k : α} (h : k ∈ keys) : numb (keys ++ [k]) = numb keys ++ [(ix (dist keys) k : Int)] := by
  rw [numb_snoc, addTo_in (mem_dist.2 h)]
theorem numb_bd {keys : List α} {c : Int} (h : c ∈ numb keys) : 0 ≤ c ∧ c < (dist keys).length := by
  obtain ⟨k, hk, rfl⟩ := List.mem_map.1 h
  have := idxOf_lt (mem_dist.2 hk)
  omega
theorem numb_eq_iff {keys : List α} {i j : Nat} {k k' : α} (h : keys[i]? = some k) (h' : keys[j]? = some k') : (numb keys)[i]? = (numb keys)[j]? ↔ k = k' := by
  rw [numb_get h, numb_get h']
  constructor
  · intro e
    have e1 : ix (dist keys) k = ix (dist keys) k' := by injection e with e; omega
    exact idxOf_inj (mem_dist.2 (List.mem_of_getElem? h)) (mem_dist.2 (List.mem_of_getElem? h')) e1
  · rintro rfl; rfl
end
theorem mem_map_inj {α β : Type} {f : α → β} {l : List α} {x : α} (hf : ∀ a b, a ∈ l → f a = f b → b = x → a = b) : f x ∈ l.map f ↔ x ∈ l := by
  constructor
  · intro h
    obtain ⟨a, ha, e⟩ := List.mem_map.1 h
    exact (hf a x ha e rfl) ▸ ha
  · exact fun h => List.mem_map.2 ⟨x, h, rfl⟩
section
variable {α β : Type} [DecidableEq α] [DecidableEq β]
theorem addAll_map (f : α → β) (S : List α) (hf : ∀ a ∈ S, ∀ b ∈ S, f a = f b → a = b) : ∀ (xs l : List α), (∀ x ∈ l, x ∈ S) → (∀ x ∈ xs, x ∈ S) → addAll (l.map f) (xs.map f) = (addAll l xs).map f
  | [], _, _, _ => rfl
  | x :: xs, l, hl, hx => by
    have hxS := hx x (by simp)
    have hm : f x ∈ l.map f ↔ x ∈ l := mem_map_inj (fun a b ha e eb => by subst eb; exact hf a (hl a ha) b hxS e)
    have e1 : addTo (l.map f) (f x) = (addTo l x).map f := by
      by_cases h : x ∈ l
      · rw [addTo_in h, addTo_in (hm.2 h)]
      · rw [addTo_new h, addTo_new (fun h1 => h (hm.1 h1))]
        simp
    rw [List.map_cons, addAll_cons, e1, addAll_cons]
    exact addAll_map f S hf xs _ (fun y hy => by rcases mem_addTo.1 hy with h | rfl; exact hl y h; exact hxS) (fun y hy => hx y (by simp [hy]))
theorem dist_map (f : α → β) (keys : List α) (hf : ∀ a ∈ keys, ∀ b ∈ keys, f a = f b → a = b) : dist (keys.map f) = (dist keys).map f :=
  addAll_map f keys hf keys [] (by simp) (fun _ h => h)
theorem idxOf_map (f : α → β) : ∀ (l : List α) (x : α), (∀ a ∈ l, f a = f x → a = x) → ix (l.map f) (f x) = ix l x
  | [], _, _ => rfl
  | a :: l, x, h => by
    rw [ix, ix, List.map_cons, List.idxOf_cons, List.idxOf_cons]
    have ih := idxOf_map f l x (fun b hb => h b (by simp [hb]))
    by_cases e : a = x
    · subst e
      simp
    · have e2 : f a ≠ f x := fun e2 => e (h a (by simp) e2)
      have b1 : (f a == f x) = false := by simpa using e2
      have b2 : (a == x) = false := by simpa using e
      have ih' : List.idxOf (f x) (l.map f) = List.idxOf x l := ih
      rw [b1, b2, ih']
theorem numb_map (f : α → β) (keys : List α) (hf : ∀ a ∈ keys, ∀ b ∈ keys, f a = f b → a = b) : numb (keys.map f) = numb keys := by
  unfold numb
  rw [dist_map f keys hf, List.map_map]
  apply List.map_congr_left
  intro k hk
  show (ix ((dist keys).map f) (f k) : Int) = _
  rw [idxOf_map f _ k (fun a ha e => hf a (mem_dist.1 ha) k hk e)]
/-- Equal partitions have equal numbers. -/
theorem numb_same (keys : List α) (keys' : List β) (hl : keys.length = keys'.length) (h : ∀ (i j : Nat), i < keys.length → j < keys.length → (keys[i]? = keys[j]? ↔ keys'[i]? = keys'[j]?)) : numb keys = numb keys' := by
  cases keys' with
  | nil =>
    have : keys = [] := List.eq_nil_of_length_eq_zero (by simpa using hl)
    subst this; rfl
  | cons k0 ks0 =>
    obtain ⟨ks', hks⟩ : ∃ ks', ks' = k0 :: ks0 := ⟨_, rfl⟩
    rw [← hks] at hl h ⊢
    have e1 : ks' = keys.map (fun k => ks'.getD (ix keys k) k0) := by
      apply List.ext_getElem?
      intro i
      rw [List.getElem?_map]
      by_cases hi : i < keys.length
      · obtain ⟨k, hk⟩ : ∃ k, keys[i]? = some k := ⟨_, List.getElem?_eq_getElem hi⟩
        have hm := List.mem_of_getElem? hk
        have hj := idxOf_lt hm
        have h2 := (h (ix keys k) i hj hi).1 (by rw [get_idxOf hm, hk])
        rw [hk, Option.map_some, List.getD_eq_getElem?_getD, h2, List.getElem?_eq_getElem (by omega)]
        rfl
      · rw [List.getElem?_eq_none (by omega), List.getElem?_eq_none (by omega)]
        rfl
    have e2 : numb keys = numb (keys.map (fun k => ks'.getD (ix keys k) k0)) := (numb_map _ keys (fun a ha b hb e => by
      have ja := idxOf_lt ha
      have jb := idxOf_lt hb
      rw [List.getD_eq_getElem?_getD, List.getD_eq_getElem?_getD, List.getElem?_eq_getElem (show ix keys a < ks'.length by omega), List.getElem?_eq_getElem (show ix keys b < ks'.length by omega)] at e
      have h2 := (h (ix keys a) (ix keys b) ja jb).2 (by
        rw [List.getElem?_eq_getElem (show ix keys a < ks'.length by omega), List.getElem?_eq_getElem (show ix keys b < ks'.length by omega)]
        exact congrArg some e)
      rw [get_idxOf ha, get_idxOf hb] at h2
      exact Option.some.inj h2)).symm
    rw [← e1] at e2
    exact e2
end
end Go.Proofs.Ytgbgcaaekpgapac.Plain
/- Plain facts on the digits of a number: the digits, the number of some digits, padding with zeros, sums of digits. No conditions beyond those that each fact states. -/
namespace Go.Proofs.Ytgbgcaaekpgapac.Plain

theorem pow_bd (b i : Nat) (h1 : 2 ≤ b) (h2 : b ≤ 4) (hi : i ≤ 16) : 1 ≤ b ^ i ∧ b ^ i ≤ 4294967296 := by
  refine ⟨Nat.pow_pos (by omega), ?_⟩
  have h3 : b ^ i ≤ 4 ^ i := Nat.pow_le_pow_left h2 i
  have h4 : 4 ^ i ≤ 4 ^ 16 := Nat.pow_le_pow_right (by omega) hi
  have h5 : (4 : Nat) ^ 16 = 4294967296 := by decide
  omega

/-- The digits of n, the lowest one first, at most f of them. -/
def lows (b : Nat) : Nat → Nat → List Int
  | 0, _ => []
  | f + 1, n => if n = 0 then [] else ((n % b : Nat) : Int) :: lows b f (n / b)
/-- The digits of n, the highest one first. -/
def digs (n b : Nat) : List Int := (lows b 16 n).reverse
theorem lows_zero (b f : Nat) : lows b f 0 = [] := by cases f <;> simp [lows]
theorem lows_succ (b f n : Nat) (h : 0 < n) : lows b (f + 1) n = ((n % b : Nat) : Int) :: lows b f (n / b) := by rw [lows, if_neg (by omega)]
/-- Where the taking of n's digits stands: cs are taken (the lowest one first), m is left. -/
def DigitsAt (n b m : Nat) (cs : List Int) : Prop := ∃ f : Nat, cs.length + f = 16 ∧ m < b ^ f ∧ cs ++ lows b f m = lows b 16 n
theorem digits_start (n b : Nat) (h : n < b ^ 16) : DigitsAt n b n [] := ⟨16, rfl, h, rfl⟩
theorem digits_bd {n b m : Nat} {cs : List Int} (h : DigitsAt n b m cs) (h1 : 2 ≤ b) (h2 : b ≤ 4) : m ≤ 4294967295 ∧ cs.length ≤ 16 := by
  obtain ⟨f, hl, hm, _⟩ := h
  have := pow_bd b f h1 h2 (by omega)
  omega
theorem digits_step {n b m : Nat} {cs : List Int} (h : DigitsAt n b m cs) (hm : 0 < m) : DigitsAt n b (m / b) (cs ++ [((m % b : Nat) : Int)]) ∧ cs.length + 1 ≤ 16 := by
  obtain ⟨f, hl, h1, he⟩ := h
  cases f with
  | zero => simp at h1; omega
  | succ f =>
    refine ⟨⟨f, by simp; omega, ?_, ?_⟩, by omega⟩
    · rw [Nat.div_lt_iff_lt_mul (by rcases Nat.eq_zero_or_pos b with rfl | h; · simp at h1
                                    · exact h)]
      rw [Nat.pow_succ] at h1
      exact h1
    · rw [← he, lows_succ b f m hm]
      simp
theorem digits_end {n b : Nat} {cs : List Int} (h : DigitsAt n b 0 cs) : cs = lows b 16 n := by
  obtain ⟨f, _, _, he⟩ := h
  rw [← he, lows_zero, List.append_nil]
theorem lows_len (b : Nat) : ∀ f n, (lows b f n).length ≤ f
  | 0, n => by simp [lows]
  | f + 1, n => by
    rw [lows]
    split
    · simp
    · have := lows_len b f (n / b)
      simp
      omega
theorem digs_len (n b : Nat) : (digs n b).length ≤ 16 := by have := lows_len b 16 n; simp [digs]; omega
theorem lows_mem (b : Nat) (h : 2 ≤ b) : ∀ f n, ∀ x ∈ lows b f n, 0 ≤ x ∧ x < b
  | 0, n, x, hx => by simp [lows] at hx
  | f + 1, n, x, hx => by
    rw [lows] at hx
    split at hx
    · cases hx
    · simp only [List.mem_cons] at hx
      rcases hx with rfl | hx
      · have := Nat.mod_lt n (show 0 < b by omega)
        omega
      · exact lows_mem b h f _ x hx
theorem digs_mem (n b : Nat) (h : 2 ≤ b) : ∀ x ∈ digs n b, 0 ≤ x ∧ x < b := fun x hx => lows_mem b h 16 n x (by simpa [digs] using hx)

/-- The number of some digits. -/
def valD (b : Nat) (xs : List Int) : Int := xs.foldl (fun n d => n * b + d) 0
theorem valD_snoc (b : Nat) (xs : List Int) (d : Int) : valD b (xs ++ [d]) = valD b xs * b + d := by simp [valD]
theorem valD_lows (b : Nat) : ∀ f n, n < b ^ f → valD b (lows b f n).reverse = n
  | 0, n, h => by simp at h; subst h; rfl
  | f + 1, n, h => by
    rcases Nat.eq_zero_or_pos n with rfl | hn
    · rw [lows_zero]; rfl
    · have hb : 0 < b := by
        rcases Nat.eq_zero_or_pos b with rfl | hb
        · simp at h
        · exact hb
      rw [Nat.pow_succ] at h
      rw [lows_succ b f n hn, List.reverse_cons, valD_snoc, valD_lows b f (n / b) ((Nat.div_lt_iff_lt_mul hb).2 h)]
      have := Nat.div_add_mod n b
      have h2 : ((n / b : Nat) : Int) * b = ((b * (n / b) : Nat) : Int) := by rw [Int.natCast_mul, Int.mul_comm]
      rw [h2]
      omega
theorem valD_digs (n b : Nat) (h : n < b ^ 16) : valD b (digs n b) = n := valD_lows b 16 n h
theorem valD_zeros (b k : Nat) (xs : List Int) : valD b (List.replicate k 0 ++ xs) = valD b xs := by
  have h : ∀ k : Nat, (List.replicate k (0 : Int)).foldl (fun n d : Int => n * b + d) 0 = 0 := by
    intro k
    induction k with
    | zero => rfl
    | succ k ih => rw [List.replicate_succ, List.foldl_cons, Int.zero_mul, Int.zero_add, ih]
  rw [valD, List.foldl_append, h]
  rfl
theorem valD_bd (b : Nat) (hb : 2 ≤ b) : ∀ (k : Nat) (xs : List Int), k ≤ xs.length → (∀ x ∈ xs, 0 ≤ x ∧ x < b) → 0 ≤ valD b (xs.take k) ∧ valD b (xs.take k) < ((b ^ k : Nat) : Int)
  | 0, xs, _, _ => by simp [valD]
  | k + 1, xs, hk, h => by
    have ih := valD_bd b hb k xs (by omega) h
    have hx := h xs[k] (List.getElem_mem _)
    rw [List.take_succ_eq_append_getElem (by omega), valD_snoc, Nat.pow_succ]
    have h1 : 0 ≤ valD b (xs.take k) * (b : Int) := Int.mul_nonneg ih.1 (by omega)
    have h2 : (valD b (xs.take k) + 1) * (b : Int) ≤ ((b ^ k : Nat) : Int) * (b : Int) := Int.mul_le_mul_of_nonneg_right (by omega) (by omega)
    rw [Int.add_mul, Int.one_mul] at h2
    rw [Int.natCast_mul]
    omega
/-- The sum of a list. -/
def sumD (xs : List Int) : Int := xs.foldl (fun n d => n + d) 0
theorem sumD_snoc (xs : List Int) (d : Int) : sumD (xs ++ [d]) = sumD xs + d := by simp [sumD]
theorem sumD_bd (b : Nat) : ∀ (k : Nat) (xs : List Int), k ≤ xs.length → (∀ x ∈ xs, 0 ≤ x ∧ x < b) → 0 ≤ sumD (xs.take k) ∧ sumD (xs.take k) ≤ k * b
  | 0, xs, _, _ => by simp [sumD]
  | k + 1, xs, hk, h => by
    have ih := sumD_bd b k xs (by omega) h
    have hx := h xs[k] (List.getElem_mem _)
    rw [List.take_succ_eq_append_getElem (by omega), sumD_snoc]
    have : ((k + 1 : Nat) : Int) * (b : Int) = (k : Int) * b + b := by rw [Int.natCast_add, Int.add_mul]; simp
    omega
theorem sum_mod (b : Nat) (hb : 2 ≤ b) : ∀ f n, n < b ^ f → ∃ q : Int, (n : Int) - sumD (lows b f n).reverse = q * ((b : Int) - 1)
  | 0, n, h => ⟨0, by simp at h; subst h; simp [lows, sumD]⟩
  | f + 1, n, h => by
    rcases Nat.eq_zero_or_pos n with rfl | hn
    · exact ⟨0, by rw [lows_zero]; simp [sumD]⟩
    · rw [Nat.pow_succ] at h
      obtain ⟨q, hq⟩ := sum_mod b hb f (n / b) ((Nat.div_lt_iff_lt_mul (by omega)).2 h)
      refine ⟨q + ((n / b : Nat) : Int), ?_⟩
      rw [lows_succ b f n hn, List.reverse_cons, sumD_snoc, Int.add_mul, ← hq, Int.mul_sub, Int.mul_one]
      have := Nat.div_add_mod n b
      have h2 : ((n / b : Nat) : Int) * b = ((b * (n / b) : Nat) : Int) := by rw [Int.natCast_mul, Int.mul_comm]
      rw [h2]
      omega
/-- No digits begin with a zero. -/
theorem lows_last (b : Nat) (hb : 2 ≤ b) : ∀ f n, n < b ^ f → 0 < n → ∃ x cs, lows b f n = cs ++ [x] ∧ x ≠ 0
  | 0, n, h, hn => by simp at h; omega
  | f + 1, n, h, hn => by
    rw [Nat.pow_succ] at h
    rw [lows_succ b f n hn]
    rcases Nat.eq_zero_or_pos (n / b) with h0 | h0
    · refine ⟨((n % b : Nat) : Int), [], by rw [h0, lows_zero]; rfl, ?_⟩
      have : n < b := by
        rcases Nat.div_eq_zero_iff.1 h0 with h | h <;> omega
      rw [Nat.mod_eq_of_lt this]
      omega
    · obtain ⟨x, cs, he, hx⟩ := lows_last b hb f (n / b) ((Nat.div_lt_iff_lt_mul (by omega)).2 h) h0
      exact ⟨x, _ :: cs, by rw [he]; rfl, hx⟩
theorem digs_head (n b : Nat) (hb : 2 ≤ b) (h : n < b ^ 16) : digs n b = [] ∨ ∃ x cs, digs n b = x :: cs ∧ x ≠ 0 := by
  rcases Nat.eq_zero_or_pos n with rfl | hn
  · exact .inl (by simp [digs, lows_zero])
  · obtain ⟨x, cs, he, hx⟩ := lows_last b hb 16 n h hn
    exact .inr ⟨x, cs.reverse, by simp [digs, he], hx⟩

/-- Whether xs are digits of base b. -/
def areD (b : Int) (xs : List Int) : Bool := decide (2 ≤ b ∧ b ≤ 4 ∧ xs.length ≤ 16 ∧ ∀ x ∈ xs, 0 ≤ x ∧ x < b)
theorem areD_yes {b : Int} {xs : List Int} (h0 : 2 ≤ b) (h1 : b ≤ 4) (h2 : xs.length ≤ 16) (h3 : ∀ x ∈ xs, 0 ≤ x ∧ x < b) : areD b xs = true := decide_eq_true ⟨h0, h1, h2, h3⟩
theorem areD_base {b : Int} (xs : List Int) (h : b < 2 ∨ 4 < b) : areD b xs = false := decide_eq_false (fun h' => by omega)
theorem areD_long {b : Int} {xs : List Int} (h : 16 < xs.length) : areD b xs = false := decide_eq_false (fun h' => by omega)
theorem areD_at {b : Int} {xs : List Int} (k : Nat) (hk : k < xs.length) (h : xs[k] < 0 ∨ b ≤ xs[k]) : areD b xs = false := decide_eq_false (fun h' => by
  have := h'.2.2.2 xs[k] (List.getElem_mem _)
  omega)
theorem areD_out {b : Int} {xs : List Int} (h : areD b xs = true) : 2 ≤ b ∧ b ≤ 4 ∧ xs.length ≤ 16 ∧ ∀ x ∈ xs, 0 ≤ x ∧ x < b := of_decide_eq_true h
theorem mem_of_all {p : Int → Prop} {xs : List Int} (h : ∀ i, (hi : i < xs.length) → p xs[i]) : ∀ x ∈ xs, p x := fun x hx => by
  obtain ⟨i, hi, rfl⟩ := List.getElem_of_mem hx
  exact h i hi
/-- xs with zeros before it up to w numbers. -/
def padD (w : Int) (xs : List Int) : List Int := if w ≤ xs.length ∨ 16 < w then xs else List.replicate (w.toNat - xs.length) 0 ++ xs
end Go.Proofs.Ytgbgcaaekpgapac.Plain
