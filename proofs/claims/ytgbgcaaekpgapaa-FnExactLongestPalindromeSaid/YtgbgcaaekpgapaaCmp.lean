/- Contracts of CompareWords, of the model and of the program; a slice with room for what it holds, and parts of it. No conditions beyond those that each states. -/
import Derived.Test.YtgbgcaaekpgapaaSeqEqual
import Derived.Test.YtgbgcaaekpgapaaFacVal
import Derived.Test.YtgbgcaaekpgapaaShelf
import Derived.Test.YtgbgcaaekpgapaaSeqs2
import Derived.BigQuiet
namespace Go.Proofs.Ytgbgcaaekpgapaa
open Go.ChangeShapes Go.WideShapes Go.ChangeAt Go.RowKit
open Go.PlainAid Plain
set_option linter.unusedVariables false
namespace Fac
open Seqs
theorem ret_i {a b : Int} (h : a = b) : Ending.returned (.int .i64 a) = Ending.returned (.int .i64 b) := by rw [h]
theorem ret_b {a b : Bool} (h : a = b) : Ending.returned (.bool a) = Ending.returned (.bool b) := by rw [h]
/-- A slice that reads as a list, its capacity no less than its length. -/
def LiesC (w : World) (v : Value) (xs : List Int) : Prop := Lies (Value.int .i64) w v xs ∧ ∀ a n c, v = .slice a n c → n ≤ c
theorem LiesC.lies {w : World} {v : Value} {xs : List Int} (h : LiesC w v xs) : Lies (Value.int .i64) w v xs := h.1
theorem LiesC.below {w w' : World} {v : Value} {xs : List Int} (h : LiesC w v xs) (hb : Below w.heap.size w w') : LiesC w' v xs := ⟨h.1.below hb, h.2⟩
theorem LiesC.form {w : World} {v : Value} {xs : List Int} (h : LiesC w v xs) : ∃ a c, v = .slice a xs.length c ∧ xs.length ≤ c := by
  obtain ⟨⟨_, a, c, rfl, _⟩, h2⟩ := h
  exact ⟨a, c, rfl, h2 _ _ _ rfl⟩
theorem LiesC.of_has {w : World} {base : Nat} {v : Value} {xs : List Int} (h : Has (Value.int .i64) 3 w base v xs) : LiesC w v xs := by
  refine ⟨h.lies, fun a n c hv => ?_⟩
  rcases h.2 with ⟨rfl, hn⟩ | ⟨g, cap, cur, rfl, _, _, hc, _⟩
  · injection hv with e1 e2 e3
    omega
  · injection hv with e1 e2 e3
    omega
theorem size_ti : (Try.prog.info? 3).map (·.size) = some 1 := by kernel_rfl
theorem elem_tr : Try.prog.elem 22 = 3 := by kernel_rfl
/-- A part of such a slice. -/
theorem LiesC.cut {w : World} {a : Option Addr} {c : Nat} {xs : List Int} {l h : Nat} (hl : LiesC w (.slice a xs.length c) xs) (h1 : l ≤ h) (h2 : h ≤ xs.length) :
    LiesC w (sliced a l h c 1) ((xs.drop l).take (h - l)) := by
  obtain ⟨⟨hs, a', c', hv, hn, hc⟩, hcap⟩ := hl
  have hcap := hcap _ _ _ rfl
  injection hv with e1 e2 e3
  subst e1; subst e3
  have hlen : ((xs.drop l).take (h - l)).length = h - l := by rw [List.length_take, List.length_drop]; omega
  have hm : ∀ (i : Nat) (x : Int), ((xs.drop l).take (h - l))[i]? = some x → i < h - l ∧ xs[l + i]? = some x := fun i x hx => by
    rw [List.getElem?_take] at hx
    split at hx
    · rw [List.getElem?_drop] at hx
      exact ⟨by assumption, hx⟩
    · cases hx
  refine ⟨⟨by omega, ?_⟩, fun p n q hv => ?_⟩
  · unfold sliced
    rw [hlen]
    by_cases hcl : c = l
    · rw [if_pos hcl]
      refine ⟨a, c - l, rfl, fun _ => by omega, fun i x hx => ?_⟩
      have := (hm i x hx).1
      omega
    · rw [if_neg hcl]
      refine ⟨a.map (·.add (l * 1)), c - l, rfl, fun hnone => ?_, fun i x hx => ?_⟩
      · cases a with
        | none => have := hn rfl; omega
        | some _ => cases hnone
      · obtain ⟨b, off, rfl, hcell⟩ := hc _ _ (hm i x hx).2
        refine ⟨b, off + l, ?_, ?_⟩
        · rw [Option.map_some, addr_plus, Nat.mul_one]
        · rw [Nat.add_assoc]
          exact hcell
  · unfold sliced at hv
    injection hv with e1 e2 e3
    omega
/-- What the operation makes of it, under a name of its own. -/
theorem LiesC.slice {w : World} {a : Option Addr} {c : Nat} {xs : List Int} {l h : Nat} {L H : Int} (hl : LiesC w (.slice a xs.length c) xs) (h1 : l ≤ h) (h2 : h ≤ xs.length) (hL : L = l) (hH : H = h) :
    ∃ a' c', (∀ W : World, (Instr.slice 22 (.slice a xs.length c) (some (.int .i64 L)) (some (.int .i64 H)) none).run Try.prog W = .ok (.slice a' (h - l) c') W) ∧ LiesC w (.slice a' (h - l) c') ((xs.drop l).take (h - l)) := by
  have hcut := hl.cut h1 h2
  have hcap := hl.2 _ _ _ rfl
  subst hL; subst hH
  refine ⟨_, _, fun W => ?_, hcut⟩
  have := run_slice_lh (P := Try.prog) (w := W) (t := 22) (a := a) (len := xs.length) (cap := c) (by rw [elem_tr]; exact Try.underlying22) .i64 .i64 (l : Int) (h : Int) (by omega) (by omega) (by omega)
  rw [this, elem_tr]
  simp [go_sem, Result.andThen]
end Fac
end Go.Proofs.Ytgbgcaaekpgapaa
