/- Slices as lists: what it is that a slice value reads as a list, and that the call owns one; what stays of both from world to world. No conditions beyond those that each fact states. -/
import Derived.WalkKit
import Derived.OwnWalk
import Derived.Lib.Hide
import Derived.WalkSmall
import Derived.Below
import Derived.Laws.CopyOwn
import Derived.Laws.AppendOwnNone
import Derived.Test.YtfpdikohlafpiaaGreatKit
namespace Go.Proofs.YtfpdikohlafpiaaGreat.Plain
open Go.RowKit

theorem addr_plus (b o j : Nat) : (⟨b, o, none⟩ : Addr).add j = ⟨b, o + j, none⟩ := by unfold Addr.add; split <;> simp_all
theorem set_mid {α : Type} (A C : List α) (b x : α) (n : Nat) (h : A.length = n) : (A ++ b :: C).set n x = A ++ x :: C := by subst h; simp
section
variable {α : Type} {enc : α → Value} {e : TypeId} {w w' : World} {base : Nat} {v : Value} {xs : List α}

/-- In w the slice v holds the list xs, an element a cell. -/
def Lies (enc : α → Value) (w : World) (v : Value) (xs : List α) : Prop :=
  xs.length ≤ 9223372036854775807 ∧ ∃ a cap, v = .slice a xs.length cap ∧ (a = none → cap = 0) ∧ ∀ i x, xs[i]? = some x → ∃ b off, a = some ⟨b, off, none⟩ ∧ w.cell? ⟨b, off + i, none⟩ = some (enc x)
/-- The slice v is the call's own, its block one from base on, and holds the list xs. -/
def Has (enc : α → Value) (e : TypeId) (w : World) (base : Nat) (v : Value) (xs : List α) : Prop := w.ownsRow base e 1 v xs.length (xs.map enc)
/-- A call that hands back a new slice with the list xs. -/
def Gives (enc : α → Value) (e : TypeId) (xs : List α) (w : World) (en : Ending) (w' : World) : Prop := ∃ v, en = .returned v ∧ Has enc e w' w.heap.size v xs ∧ Below w.heap.size w w'

theorem Has.form (h : Has enc e w base v xs) : ∃ a cap, v = .slice a xs.length cap ∧ (0 < xs.length → ∃ g, a = some ⟨g, 0, none⟩) := by
  rcases h.2 with ⟨rfl, hn⟩ | ⟨g, cap, cur, rfl, _⟩
  · exact ⟨none, 0, by rw [hn], fun h => by omega⟩
  · exact ⟨_, cap, rfl, fun _ => ⟨g, rfl⟩⟩
theorem Has.small (h : Has enc e w base v xs) : xs.length ≤ 9223372036854775807 := by
  rcases h.2 with ⟨rfl, hn⟩ | ⟨g, cap, cur, rfl, _, _, hc, hm, _⟩
  · omega
  · unfold maxLen at hm; omega
theorem Has.lies (h : Has enc e w base v xs) : Lies enc w v xs := by
  refine ⟨h.small, ?_⟩
  rcases h.2 with ⟨rfl, hn⟩ | ⟨g, cap, cur, rfl, hb, hg, hc, hm, hs, ht⟩
  · refine ⟨none, 0, by rw [hn], fun _ => rfl, fun i x hx => ?_⟩
    rw [List.eq_nil_of_length_eq_zero hn] at hx
    cases hx
  · refine ⟨_, cap, rfl, fun h => (by cases h), fun i x hx => ⟨g, 0, rfl, ?_⟩⟩
    have hi : i < xs.length := (List.getElem?_eq_some_iff.1 hx).1
    have h2 : w.ownsRow base e 1 (.slice (some ⟨g, 0, none⟩) xs.length cap) xs.length (xs.map enc) := h
    rw [Nat.zero_add, h2.cellAt i (by omega)]
    simp [hx]
theorem Lies.keep (h : Lies enc w v xs) (hk : ∀ k, v.ownBlock = some k → k < w.heap.size → w'.heap[k]? = w.heap[k]?) : Lies enc w' v xs := by
  obtain ⟨hl, a, cap, rfl, hn, hc⟩ := h
  refine ⟨hl, a, cap, rfl, hn, fun i x hx => ?_⟩
  obtain ⟨b, off, rfl, hcell⟩ := hc i x hx
  have hb : b < w.heap.size := World.block_lt_of_cell? w _ hcell
  exact ⟨b, off, rfl, by rw [← hcell]; exact World.cell?_of_block (hk b rfl hb)⟩
/-- What was there when the call began is there still. -/
theorem Lies.below (h : Lies enc w v xs) (hb : Below w.heap.size w w') : Lies enc w' v xs := h.keep fun k _ hk => hb.block k hk
theorem Lies.grown {row : Option Nat} (h : Lies enc w v xs) (hg : w.grownBy w' row) (hr : v.ownBlock = none ∨ v.ownBlock ≠ row) : Lies enc w' v xs :=
  h.keep fun k hk hlt => hg.block k hlt (by rintro rfl; simp [hk] at hr)
theorem Has.mono {base' : Nat} (h : Has enc e w base v xs) (hb : base' ≤ base) : Has enc e w base' v xs := ⟨h.1, h.2.imp id fun ⟨g, cap, cur, h1, h2, r⟩ => ⟨g, cap, cur, h1, Nat.le_trans hb h2, r⟩⟩
theorem Has.lt (h : Has enc e w base v xs) : ∀ k, v.ownBlock = some k → base ≤ k ∧ k < w.heap.size := World.ownsRow.lt h
theorem grown_of_below (hb : Below w.heap.size w w') : w.grownBy w' none := ⟨hb.os, hb.tape, hb.output, hb.size, fun k hk _ => hb.block k hk⟩
theorem below_of_grown (hb : w.grownBy w' none) : Below w.heap.size w w' := ⟨hb.os, hb.tape, hb.output, hb.size, fun k hk => hb.block k hk (by simp)⟩
theorem Has.below (h : Has enc e w base v xs) (hb : Below w.heap.size w w') : Has enc e w' base v xs := World.ownsRow.kept h (grown_of_below hb) (by cases v.ownBlock <;> simp)
theorem Has.grown {row : Option Nat} (h : Has enc e w base v xs) (hg : w.grownBy w' row) (hr : v.ownBlock = none ∨ v.ownBlock ≠ row) : Has enc e w' base v xs := World.ownsRow.kept h hg hr
/-- Two slices of the call's own that were made one behind the other share no block. -/
theorem Has.apart {β : Type} {enc' : β → Value} {e' : TypeId} {u : Value} {ys : List β} {b' : Nat} {w1 : World} (h : Has enc e w base v xs) (h' : Has enc' e' w1 b' u ys) (hb : w.heap.size ≤ b') :
    (u.ownBlock = none ∨ u.ownBlock ≠ v.ownBlock) ∧ (v.ownBlock = none ∨ v.ownBlock ≠ u.ownBlock) := by
  have h1 := h.lt
  have h2 := h'.lt
  cases hv : v.ownBlock with
  | none => exact ⟨by cases hu : u.ownBlock <;> simp, .inl rfl⟩
  | some p =>
    cases hu : u.ownBlock with
    | none => exact ⟨.inl rfl, .inr (by simp)⟩
    | some q =>
      have := h1 p hv
      have := h2 q hu
      exact ⟨.inr (by simp; omega), .inr (by simp; omega)⟩
theorem grown_trans' {w2 : World} {r : Option Nat} (h : w.grownBy w' r) (k : w'.grownBy w2 r) : w.grownBy w2 r :=
  ⟨k.os.trans h.os, k.tape.trans h.tape, k.output.trans h.output, Nat.le_trans h.size k.size, fun i hi hne => (k.block i (Nat.lt_of_lt_of_le hi h.size) hne).trans (h.block i hi hne)⟩
/-- What is written into a slice of the call's own touches nothing below. -/
theorem Has.frame {w0 : World} (h : Has enc e w base v xs) (hb : Below w0.heap.size w0 w) (hB : w0.heap.size ≤ base) (hg : w.grownBy w' v.ownBlock) : Below w0.heap.size w0 w' :=
  hb.grown hg hb.size (fun k hk => Nat.le_trans hB (h.lt k hk).1)
/-- 'append(v, u...)', v a slice of the call's own, u any slice. -/
theorem append_lies {P : Program} (w : World) {ops : Array Oper} {rest : List Oper} {o : Oper} {a : Act} {Q : Exit → Act → World → Prop} (hgd : o.guard = none) (s x : Operand) (t : TypeId)
    (ho : o.op = .call { callee := .builtin .append, args := #[s, x], argTypes := #[t, t] })
    (base : Nat) (i : TypeInfo) (z : Value) (bytes : Nat) (ht : P.underlying t = some (.slice e)) (hi : P.info? e = some i) (hz : i.zero = some z)
    (hsize : i.size = 1) (hby : i.bytes = bytes) (hzs : z.cells.size = 1)
    (v : Value) (xs : List α) (hs : a.eval s = v) (hown : Has enc e w base v xs) (u : Value) (ys : List α) (hx : a.eval x = u) (hu : Lies enc w u ys)
    (h1 : ∀ y : α, (enc y).oneCell' = true) (hbytes : (xs.length + ys.length) * bytes ≤ 140737488355328) (h63 : xs.length + ys.length ≤ 9223372036854775807) (hb2 : base ≤ w.heap.size)
    (h : ∀ v' w', Has enc e w' base v' (xs ++ ys) → w.grownBy w' v.ownBlock → wpList P ops Q rest (a.put o.dst v') w') :
    wpList P ops Q (o :: rest) a w := by
  obtain ⟨hl, A, cap, rfl, hnone, hc⟩ := hu
  have hh : ∀ v' w', w'.ownsRow base e 1 v' (xs.length + ys.length) (xs.map enc ++ ys.map enc) → w.grownBy w' v.ownBlock → wpList P ops Q rest (a.put o.dst v') w' := by
    intro v' w' ho' hg'
    refine h v' w' ?_ hg'
    show w'.ownsRow base e 1 v' _ _
    rw [List.length_append, List.map_append]
    exact ho'
  cases A with
  | none =>
    obtain rfl := hnone rfl
    have hy : ys = [] := by
      cases ys with
      | nil => rfl
      | cons y l => obtain ⟨_, _, h', _⟩ := hc 0 y rfl; cases h'
    subst hy
    exact wpList_append_own_none hgd s x t ho base e i 1 ht hi v xs.length (xs.map enc) hs hown hx (hh v w (by simpa [Has] using hown) (World.grownBy.refl w _))
  | some ad =>
    refine wpList_append_own w hgd s x t ho base e i z 1 bytes ht hi hz hsize hby hzs (by decide) v xs.length (xs.map enc) hs hown ad ys.length cap (ys.map enc) hx (by simp) ?_ ?_ (by unfold maxLen; omega) hbytes hb2 (fun v' w' h1 h2 _ => hh v' w' h1 h2)
    · intro j y hj
      rw [List.getElem?_map, Option.map_eq_some_iff] at hj
      obtain ⟨x', hx', rfl⟩ := hj
      obtain ⟨b, off, he, hcell⟩ := hc j x' hx'
      obtain rfl := Option.some.inj he
      rw [addr_plus]
      exact hcell
    · intro y hy
      obtain ⟨x', _, rfl⟩ := List.mem_map.1 hy
      exact h1 x'
/-- A slice literal that has just been laid. -/
theorem Has.lit (w : World) (cs : List α) (hb : base ≤ w.heap.size) (hm : cs.length ≤ 9223372036854775807) : Has enc e (w.alloc (.cells (cs.map enc).toArray e)) base (.slice (some ⟨w.heap.size, 0, none⟩) cs.length cs.length) cs := by
  have := World.ownsRow_lit (base := base) (e := e) (size := 1) w (cs.map enc).toArray cs.length hb (by unfold maxLen; omega) (by simp)
  simpa [Has] using this
/-- 'v = append(v, x)', v a slice of the call's own; the new value lies in a block that the statement has just laid. -/
theorem append_one {P : Program} (wr : World) {ops : Array Oper} {rest : List Oper} {o : Oper} {a : Act} {Q : Exit → Act → World → Prop} (hgd : o.guard = none) (s x : Operand) (t : TypeId)
    (ho : o.op = .call { callee := .builtin .append, args := #[s, x], argTypes := #[t, t] })
    (base : Nat) (i : TypeInfo) (z : Value) (bytes : Nat) (ht : P.underlying t = some (.slice e)) (hi : P.info? e = some i) (hz : i.zero = some z)
    (hsize : i.size = 1) (hby : i.bytes = bytes) (hzs : z.cells.size = 1)
    (v : Value) (xs : List α) (hs : a.eval s = v) (hown : Has enc e wr base v xs) (y : α) (hx : a.eval x = .slice (some ⟨wr.heap.size, 0, none⟩) 1 1)
    (h1 : ∀ y : α, (enc y).oneCell' = true) (hbytes : (xs.length + 1) * bytes ≤ 140737488355328) (h63 : xs.length + 1 ≤ 9223372036854775807) (hb2 : base ≤ wr.heap.size)
    (h : ∀ v' w', Has enc e w' base v' (xs ++ [y]) → wr.grownBy w' v.ownBlock → wpList P ops Q rest (a.put o.dst v') w') :
    wpList P ops Q (o :: rest) a (wr.alloc (.cells #[enc y] e)) := by
  have hlit : Has enc e (wr.alloc (.cells #[enc y] e)) wr.heap.size (.slice (some ⟨wr.heap.size, 0, none⟩) 1 1) [y] := Has.lit (enc := enc) (e := e) wr [y] (Nat.le_refl _) (by simp)
  refine append_lies (enc := enc) (e := e) _ hgd s x t ho base i z bytes ht hi hz hsize hby hzs v xs hs (hown.below ((Below.refl _ _).alloc (Nat.le_refl _) _)) _ [y] hx hlit.lies h1 hbytes h63 (by simp; omega) ?_
  intro v' w' ho' hg
  have hg0 := World.grownBy_alloc wr (.cells #[enc y] e) v.ownBlock
  exact h v' w' ho' (grown_trans' hg0 hg)
theorem take_mid {β : Type} (X R cs : List β) (off k : Nat) (hk : cs.length = k) (hf : off + k ≤ X.length) : ((X ++ R).take off ++ (cs ++ (X ++ R).drop (off + k))).take X.length = X.take off ++ (cs ++ X.drop (off + k)) := by
  have e1 : (X ++ R).take off = X.take off := List.take_append_of_le_length (by omega)
  have e2 : (X ++ R).drop (off + k) = X.drop (off + k) ++ R := List.drop_append_of_le_length hf
  rw [e1, e2]
  have h : X.length = (X.take off ++ (cs ++ X.drop (off + k))).length := by simp; omega
  rw [← List.append_assoc cs, ← List.append_assoc (X.take off), h]
  exact List.take_left
/-- 'copy(d, u)', d a part of a slice of the call's own, u any slice: k elements are laid over it from place off on. -/
theorem copy_has {P : Program} {w : World} {ops : Array Oper} {rest : List Oper} {o : Oper} {a : Act} {Q : Exit → Act → World → Prop} (hgd : o.guard = none) (d s : Operand) (dT sT : TypeId)
    (ho : o.op = .call { callee := .builtin .copy, args := #[d, s], argTypes := #[dT, sT] }) (hu : P.underlying dT = some (.slice e)) (hsz : (P.info? e).map (·.size) = some 1)
    (g n cap : Nat) (xs : List α) (hown : Has enc e w base (.slice (some ⟨g, 0, none⟩) n cap) xs)
    (dp : Option Addr) (dLen dCap : Nat) (hd : a.eval d = .slice dp dLen dCap) (u : Value) (ys : List α) (hs : a.eval s = u) (hl : Lies enc w u ys) (h1 : ∀ y : α, (enc y).oneCell' = true)
    (off k : Nat) (hk : k = min ys.length dLen) (hdp : 0 < k → dp = some ⟨g, off, none⟩) (hfit : off + k ≤ xs.length)
    (h : ∀ w', Has enc e w' base (.slice (some ⟨g, 0, none⟩) n cap) (xs.take off ++ (ys.take k ++ xs.drop (off + k))) → w.grownBy w' (some g) → wpList P ops Q rest (a.put o.dst (goInt k)) w') :
    wpList P ops Q (o :: rest) a w := by
  obtain ⟨_, A, c2, rfl, hnone, hc⟩ := hl
  rcases Nat.eq_zero_or_pos k with h0 | h0
  · subst h0
    refine wpList_copy_nothing hgd d s dT sT ho e hu hsz dp A dLen dCap ys.length c2 hd hs hk.symm ?_
    exact h w (by simpa [List.take_append_drop] using hown) (World.grownBy.refl _ _)
  · obtain rfl := hdp h0
    obtain ⟨y0, hy0⟩ : ∃ y, ys[0]? = some y := ⟨ys[0]'(by omega), List.getElem?_eq_getElem (by omega)⟩
    obtain ⟨b, o2, rfl, _⟩ := hc 0 y0 hy0
    have hown2 := hown
    rcases hown.2 with ⟨hv, _⟩ | ⟨g', cap', cur, hv, hbase, hg, hnc, hcm, hcs, htake⟩
    · cases hv
    · injection hv with e1 e2 e3
      injection e1 with e1
      injection e1 with e1
      subst e1; subst e3
      have hcs' : ((ys.take k).map enc).length = k := by simp; omega
      have hX : (xs.map enc).length = xs.length := by simp
      have hcur : cur.toList = xs.map enc ++ cur.toList.drop xs.length := by
        rw [Nat.mul_one] at htake
        rw [← htake, List.take_append_drop]
      have hlen : cur.toList.length = cap := by rw [Array.length_toList]; omega
      refine wpList_copy_own hgd d s dT sT ho e hu hsz g off dLen dCap ⟨b, o2, none⟩ ys.length c2 hd hs cur e hg ((ys.take k).map enc) (by rw [hcs', hk]) ?_ (by rw [hcs']; omega) ?_ ?_
      · intro j y hj
        rw [List.getElem?_map, List.getElem?_take] at hj
        split at hj
        · rw [Option.map_eq_some_iff] at hj
          obtain ⟨x', hx', rfl⟩ := hj
          obtain ⟨b', o', he, hcell⟩ := hc j x' hx'
          injection he with he
          injection he with he1 he2
          subst he1; subst he2
          rw [addr_plus]
          exact hcell
        · cases hj
      · intro y hy
        obtain ⟨x', _, rfl⟩ := List.mem_map.1 hy
        exact h1 x'
      · rw [hcs']
        subst e2
        have hl2 : (xs.take off ++ (ys.take k ++ xs.drop (off + k))).length = xs.length := by
          rw [List.length_append, List.length_append, List.length_take, List.length_take, List.length_drop]; omega
        have hsz2 : (cur.toList.take off ++ ((ys.take k).map enc ++ cur.toList.drop (off + k))).length = cap := by
          rw [List.length_append, List.length_append, hcs', List.length_take, List.length_drop, hlen]; omega
        refine h _ ?_ ⟨rfl, rfl, rfl, Nat.le_of_eq (size_setRow w g _).symm, fun i _ hi => setRow_other w g i _ (fun he => hi (by rw [he]))⟩
        show World.ownsRow _ base e 1 _ _ _
        rw [hl2]
        refine ⟨by rw [List.length_map, hl2, Nat.mul_one], .inr ⟨g, cap, _, rfl, hbase, setRow_heap w g cur _ e _ hg, by omega, hcm, by rw [List.size_toArray, hsz2, Nat.mul_one], ?_⟩⟩
        rw [Nat.mul_one]
        show (cur.toList.take off ++ ((ys.take k).map enc ++ cur.toList.drop (off + k))).take xs.length = _
        rw [hcur, ← hX, take_mid (xs.map enc) _ ((ys.take k).map enc) off k hcs' (by omega)]
        simp [List.map_take, List.map_drop]
end
end Go.Proofs.YtfpdikohlafpiaaGreat.Plain
