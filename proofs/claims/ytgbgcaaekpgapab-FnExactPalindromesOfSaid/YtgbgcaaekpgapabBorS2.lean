/- Contracts of the model's BordersOf, PeriodsOf, LeastPeriod, IsPrimitive and RootOf. No conditions beyond those that each states. -/
import Derived.Test.YtgbgcaaekpgapabBorS
import Derived.Test.YtgbgcaaekpgapabSeqs3
import Derived.Test.YtgbgcaaekpgapabCellsN2
namespace Go.Proofs.Ytgbgcaaekpgapab
open Go.ChangeShapes Go.WideShapes Go.ChangeAt Go.RowKit
open Go.PlainAid Plain
set_option linter.unusedVariables false
namespace Fac
theorem brs_more {u xs : List Int} {k m : Nat} (h : brs u k ++ xs = brV u) (hk : 0 < k) (hm : bd u k = m) : brs u m ++ ([(m : Int)] ++ xs) = brV u := by
  rw [brs_pos u hk, hm, Int.toNat_natCast, List.append_assoc] at h
  exact h
theorem brs_left {u xs : List Int} {k : Nat} (h : brs u k ++ xs = brV u) : xs.length ≤ u.length := by
  have h1 := congrArg List.length h
  rw [List.length_append] at h1
  have := brV_len u
  omega
def prT (u : List Int) (k : Nat) : List Int := ((brV u).drop k).reverse.map fun b => (u.length : Int) - b
theorem prT_end (u : List Int) : prT u (brV u).length = [] := by simp [prT]
theorem prT_zero (u : List Int) : prT u 0 = prV u := rfl
theorem prT_succ {u : List Int} {k : Nat} {x : Int} (h : (brV u)[k]? = some x) : prT u k = prT u (k + 1) ++ [(u.length : Int) - x] := by
  obtain ⟨h1, rfl⟩ := List.getElem?_eq_some_iff.1 h
  unfold prT
  rw [List.drop_eq_getElem_cons h1, List.reverse_cons, List.map_append]
  rfl
theorem prT_len (u : List Int) (k : Nat) : (prT u k).length ≤ u.length := by
  have := brV_len u
  simp [prT]
  omega
/-- 'v = append(v, x)', x an int; where the slice lies then. -/
theorem append_blk {P : Program} (wr : World) {ops : Array Oper} {rest : List Oper} {o : Oper} {a : Act} {Q : Exit → Act → World → Prop} (hgd : o.guard = none) (s x : Operand) (t : TypeId)
    (ho : o.op = .call { callee := .builtin .append, args := #[s, x], argTypes := #[t, t] })
    (base : Nat) (i : TypeInfo) (ht : P.underlying t = some (.slice 3)) (hi : P.info? 3 = some i) (hz : i.zero = some (.int .i64 0))
    (hsize : i.size = 1) (hby : i.bytes = 8)
    (v : Value) (xs : List Int) (hs : a.eval s = v) (hown : Has (Value.int .i64) 3 wr base v xs) (y : Int) (hx : a.eval x = .slice (some ⟨wr.heap.size, 0, none⟩) 1 1)
    (hlen : xs.length ≤ 100000000) (hb2 : base ≤ wr.heap.size)
    (h : ∀ v' w', Has (Value.int .i64) 3 w' base v' (xs ++ [y]) → wr.grownBy w' v.ownBlock → (∀ k, v'.ownBlock = some k → v.ownBlock = some k ∨ wr.heap.size ≤ k) → wpList P ops Q rest (a.put o.dst v') w') :
    wpList P ops Q (o :: rest) a (wr.alloc (.cells #[.int .i64 y] 3)) := by
  refine wpList_append_list (enc := (Value.int .i64)) (e := 3) hgd s x t ho base i (.int .i64 0) 8 ht hi hz hsize hby rfl v xs hs (has_alloc hown _) (.slice (some ⟨wr.heap.size, 0, none⟩) 1 1) [y] hx (lies_lit1 (enc := (Value.int .i64)) y rfl) (fun _ _ => rfl) (by simp; omega) (by simp; omega) (by simp; omega) ?_
  intro v' w' hv' hg hbk
  exact h v' w' hv' (grown_alloc hg) (fun k hk => (hbk k hk).imp id fun h => by simp at h; omega)
/-- A slice ahead of another one's making, or made behind it, shares no block with it. -/
def Beside (lo hi : Nat) (v : Value) : Prop := ∀ k, v.ownBlock = some k → k < lo ∨ hi ≤ k
theorem Beside.step {lo hi : Nat} {v v' : Value} {W : World} (h : Beside lo hi v) (hk : ∀ k, v'.ownBlock = some k → v.ownBlock = some k ∨ W.heap.size ≤ k) (hW : hi ≤ W.heap.size) : Beside lo hi v' := fun k h1 =>
  (hk k h1).elim (fun h2 => h k h2) fun h2 => .inr (by omega)
theorem Has.keep {e : TypeId} {α : Type} {enc : α → Value} {w w' : World} {lo hi : Nat} {v vo : Value} {xs : List α} (h : Has enc e w lo v xs) (hh : ∀ k, v.ownBlock = some k → k < hi) (hb : Beside lo hi vo) (hg : w.grownBy w' vo.ownBlock) : Has enc e w' lo v xs := by
  refine h.grown hg ?_
  cases hk : v.ownBlock with
  | none => exact .inl rfl
  | some k =>
    refine .inr fun e => ?_
    have h1 := (h.lt k hk).1
    have h2 := hh k hk
    have h3 := hb k e.symm
    omega
theorem tmod_nat (n p : Nat) : (n : Int).tmod (p : Int) = ((n % p : Nat) : Int) := rfl
theorem LiesC.to {w : World} {a : Option Addr} {c : Nat} {xs : List Int} {h : Nat} {H : Int} (hl : LiesC w (.slice a xs.length c) xs) (h2 : h ≤ xs.length) (hH : H = h) :
    ∃ a' c', (∀ W : World, (Instr.slice 22 (.slice a xs.length c) none (some (.int .i64 H)) none).run Try.prog W = .ok (.slice a' h c') W) ∧ LiesC w (.slice a' h c') (xs.take h) := by
  have hcut := hl.cut (Nat.zero_le h) h2
  have hcap := hl.2 _ _ _ rfl
  rw [Nat.sub_zero, List.drop_zero] at hcut
  subst hH
  refine ⟨_, _, fun W => ?_, hcut⟩
  have := run_slice_h (P := Try.prog) (w := W) (t := 22) (a := a) (len := xs.length) (cap := c) (by rw [elem_tr]; exact Try.underlying22) .i64 (h : Int) (by omega) (by omega)
  rw [this, elem_tr]
  simp [go_sem, Result.andThen]
end Fac
end Go.Proofs.Ytgbgcaaekpgapab
