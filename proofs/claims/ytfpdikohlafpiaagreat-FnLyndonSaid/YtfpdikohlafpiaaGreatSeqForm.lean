/- The steady form told as lists, and what a call says that hands back a new sequence and whether there is one. No conditions beyond those that each fact states. -/
import Derived.Test.YtfpdikohlafpiaaGreatSeqVal
import Derived.Test.YtfpdikohlafpiaaGreatSeqs2
namespace Go.Proofs.YtfpdikohlafpiaaGreat.Plain
open Go.RowKit
/-- A call that hands back a new sequence and a bool. -/
def GivesK (b : Int) (rows : List (List Int)) (out : List Int) (k : Bool) (w : World) (en : Ending) (w' : World) : Prop := ∃ v, en = .returned (.tuple #[v, .bool k]) ∧ OwnS w' w.heap.size w'.heap.size v b rows out ∧ Below w.heap.size w w'
def formK (b : Int) (rows : List (List Int)) (out : List Int) : Bool := steadyB b rows out || (seqB b rows out && decide (rows.length < 16))
def formB (b : Int) (rows : List (List Int)) (out : List Int) : Int := if formK b rows out = true then b else 0
def formR (b : Int) (rows : List (List Int)) (out : List Int) : List (List Int) := if steadyB b rows out = true then rows else if formK b rows out = true then steadyRows rows else []
def formO (b : Int) (rows : List (List Int)) (out : List Int) : List Int := if steadyB b rows out = true then out else if formK b rows out = true then steadyOut out else []
theorem OwnS.zero (w : World) {lo : Nat} : OwnS w lo w.heap.size (.agg #[.int .i64 0, .slice none 0 0, .slice none 0 0]) 0 [] [] := by
  have h1 : OwnI w lo w.heap.size (.slice none 0 0) [] := ⟨World.ownsRow_nil _ _ _ _, fun k hk => (by cases hk), Nat.le_refl _⟩
  refine ⟨_, _, [], rfl, ⟨World.ownsRow_nil _ _ _ _, fun k hk => (by cases hk), Nat.le_refl _, OwnRows.nil _ _ _⟩, ?_⟩
  refine ⟨rfl, fun i u r hu hr => ?_, fun i j u u' hu hu' hij => ?_⟩
  · cases i with
    | zero => simp at hu hr; subst hu; subst hr; exact h1
    | succ i => simp at hu
  · cases i with
    | zero => simp at hu; subst hu; exact .inl rfl
    | succ i => simp at hu
theorem OwnS.lower {w : World} {lo lo' hi : Nat} {v : Value} {b : Int} {rows : List (List Int)} {out : List Int} (h : OwnS w lo hi v b rows out) (hl : lo' ≤ lo) : OwnS w lo' hi v b rows out := by
  obtain ⟨vn, vo, us, h1, h2, h3⟩ := h
  exact ⟨vn, vo, us, h1, ⟨h2.top.mono hl, h2.lt, h2.le, h2.rows.lower hl⟩, h3.lower hl⟩
end Go.Proofs.YtfpdikohlafpiaaGreat.Plain
