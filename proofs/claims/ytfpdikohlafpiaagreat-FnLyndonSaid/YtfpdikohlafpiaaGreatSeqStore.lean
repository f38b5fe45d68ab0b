/- What a sequence in the making keeps while a block of another moves (a cursor), and what a term written into one of its slices makes of it. No conditions beyond those that each fact states. -/
import Derived.Test.YtfpdikohlafpiaaGreatSeqMake
import Derived.Test.YtfpdikohlafpiaaGreatOwnW
import Derived.Test.YtfpdikohlafpiaaGreatDraw1
namespace Go.Proofs.YtfpdikohlafpiaaGreat.Plain
open Go.RowKit
set_option linter.unusedVariables false
section
variable {w w1 w2 : World} {c : Nat}
theorem grown_more {r : Option Nat} (h : w.grownBy w1 (some c)) (g : w1.grownBy w2 r) (hr : ∀ k, r = some k → k = c ∨ w.heap.size ≤ k) : w.grownBy w2 (some c) :=
  ⟨g.os.trans h.os, g.tape.trans h.tape, g.output.trans h.output, Nat.le_trans h.size g.size, fun k hk hn => by
    rw [g.block k (Nat.lt_of_lt_of_le hk h.size) (fun e => by
      rcases hr k e.symm with h1 | h1
      · exact hn (by rw [h1])
      · omega)]
    exact h.block k hk hn⟩
theorem grown_fresh (w : World) (o : Obj) : w.grownBy (w.alloc o) none := grown_of_below ((Below.refl _ _).alloc (Nat.le_refl _) o)
theorem grown_new (h : w.grownBy w1 (some c)) (o : Obj) : w.grownBy (w1.alloc o) (some c) := grown_more h (grown_fresh w1 o) (fun k hk => by cases hk)
theorem grown_set (h : w.grownBy w1 (some c)) {q j : Nat} (hq : w.heap.size ≤ q) (v : Value) : w.grownBy (w1.setCell ⟨q, j, none⟩ v) (some c) :=
  grown_more h (Cursor.grown_setCell w1 q j v) (fun k hk => by cases hk; exact .inr hq)
theorem grown_self (w : World) (c : Nat) : w.grownBy w (some c) := ⟨rfl, rfl, rfl, Nat.le_refl _, fun k _ _ => rfl⟩
end
theorem OwnRows.moved {w w' : World} {lo hi c : Nat} {us : List Value} {rows : List (List Int)} (h : OwnRows w lo hi us rows) (hg : w.grownBy w' (some c)) (hc : c < lo) : OwnRows w' lo hi us rows :=
  ⟨h.len, fun i u r a b => (h.row i u r a b).grown hg (fun k hk => by cases hk; exact .inl hc), h.apart⟩
theorem Has.moved {α : Type} {enc : α → Value} {e : TypeId} {w w' : World} {base c : Nat} {v : Value} {xs : List α} (h : Has enc e w base v xs) (hg : w.grownBy w' (some c)) (hc : c < base) : Has enc e w' base v xs :=
  h.grown hg (by
    cases hv : v.ownBlock with
    | none => exact .inl rfl
    | some q => exact .inr (fun e => by have := (h.lt q hv).1; cases e; omega))
section
variable {w w' : World} {base hi p c : Nat} {b : Int} {vn vo eo ro : Value} {us : List Value} {rows : List (List Int)} {out ed r : List Int}
theorem Making.moved (h : Making w base hi p b vn vo eo us rows out ed) (hg : w.grownBy w' (some c)) (hc : c < base) (hp : c ≠ p) : Making w' base hi p b vn vo eo us rows out ed :=
  ⟨h.top.moved hg hc, h.fam.moved hg hc, h.cells.grown hg (by simpa using hp), h.lo, Nat.le_trans h.le hg.size⟩
theorem Rowing.moved (h : Rowing w base hi p b vn vo eo ro us rows out ed r) (hg : w.grownBy w' (some c)) (hc : c < base) (hp : c ≠ p) : Rowing w' base hi p b vn vo eo ro us rows out ed r :=
  ⟨h.top.moved hg hc, h.fam.moved hg hc, h.cells.grown hg (by simpa using hp), h.lo, Nat.le_trans h.le hg.size⟩
end
end Go.Proofs.YtfpdikohlafpiaaGreat.Plain
