/- Contracts of the exact laws' own helpers on sequences, fourth part: writing marks into one, asking for the marks. No conditions beyond those that each states. -/
import Derived.Test.YtfpdikohlafpiaaGreatSeqSz
import Derived.Test.YtfpdikohlafpiaaGreatCells3
import Derived.Outline
namespace Go.Proofs.YtfpdikohlafpiaaGreat
open Go.ChangeShapes Go.WideShapes Go.ChangeAt Go.RowKit
open Go.PlainAid Plain
set_option linter.unusedVariables false
namespace Seqs
open Ints
theorem lies_at {α : Type} {enc : α → Value} {w : World} {a : Option Addr} {n cap : Nat} {xs : List α} (h : Lies enc w (.slice a n cap) xs) {i : Nat} {x : α} (hx : xs[i]? = some x) : ∃ b off, a = some ⟨b, off, none⟩ ∧ w.cell? ⟨b, off + i, none⟩ = some (enc x) := by
  obtain ⟨_, a', cap', he, _, hc⟩ := h
  injection he with e1 e2 e3
  subst e1
  exact hc i x hx
/-- The rows' marks from k on. -/
def markedR (k : Int) (rows : List (List Int)) : List (List Int) := rows.mapIdx fun j r => marks (k + tot (rows.take j)) r.length
theorem markedR_at (k : Int) (rows : List (List Int)) (j : Nat) (r : List Int) (h : rows[j]? = some r) : (markedR k rows)[j]? = some (marks (k + tot (rows.take j)) r.length) := by simp [markedR, h]
theorem markedR_len (k : Int) (rows : List (List Int)) : (markedR k rows).length = rows.length := by simp [markedR]
/-- The marks are written into the rows before i. -/
def MarkAt (w : World) (lo hi : Nat) (us : List Value) (rows : List (List Int)) (k : Int) (i : Nat) : Prop :=
  ∀ (j : Nat) (u : Value) (r : List Int), us[j]? = some u → rows[j]? = some r → OwnI w lo hi u (if j < i then marks (k + tot (rows.take j)) r.length else r)
theorem MarkAt.step {w w' : World} {lo hi : Nat} {us : List Value} {rows : List (List Int)} {k : Int} {i : Nat} {u : Value} {r : List Int} (h : MarkAt w lo hi us rows k i)
    (hap : ∀ (i j : Nat) (u u' : Value), us[i]? = some u → us[j]? = some u' → i ≠ j → u.ownBlock = none ∨ u.ownBlock ≠ u'.ownBlock)
    (hu : us[i]? = some u) (hr : rows[i]? = some r) (hm : Has (Value.int .i64) 3 w' lo u (marks (k + tot (rows.take i)) r.length)) (hg : w.grownBy w' u.ownBlock) : MarkAt w' lo hi us rows k (i + 1) := by
  intro j u' r' hu' hr'
  by_cases e : j = i
  · subst e
    obtain rfl : u = u' := Option.some.inj (hu.symm.trans hu')
    obtain rfl : r = r' := Option.some.inj (hr.symm.trans hr')
    rw [if_pos (by omega)]
    have := h j u r hu hr
    exact ⟨hm, this.lt, Nat.le_trans this.le hg.size⟩
  · have h1 := (h j u' r' hu' hr').wrote (Wrote.of_grown hg) (fun x hx => by
      obtain rfl : x = u := by simpa using hx
      exact hap j i u' x hu' hu e)
    by_cases hj : j < i
    · rw [if_pos hj] at h1
      rw [if_pos (by omega)]
      exact h1
    · rw [if_neg hj] at h1
      rw [if_neg (by omega)]
      exact h1
end Seqs
end Go.Proofs.YtfpdikohlafpiaaGreat
