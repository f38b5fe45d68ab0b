/- A sequence that came in as an argument reads as lists. No conditions beyond those that each fact states. -/
import Derived.Test.YtfpdikohlafpiaaGreatRows
import Derived.WalkKit
import Derived.ProofKit
import Derived.OpenShut
import Derived.ChangeOld
import Derived.Below
import Derived.Deep.Matrix
import Derived.Lib.SmallJoins
import Derived.Test.YtfpdikohlafpiaaGreatInts
import Derived.Test.YtfpdikohlafpiaaGreatSeqs
namespace Go.Proofs.YtfpdikohlafpiaaGreat
open Go.ChangeShapes Go.WideShapes Go.ChangeAt Go.RowKit
open Go.PlainAid Plain
set_option linter.unusedVariables false
namespace Seqs
theorem open_row_ints {H : Type} {enc : TypeId × Value → H} {W : World} {n : Nat} {v : Value} {y : DataW H × List MemPlace} (h : DataW.trod enc Tryz.prog W 0 (fun _ => true) true n 24 [v] = some y) : ∃ xs, Lies (Value.int .i64) W v xs := by
  rcases open_ints Tryz.underlying24 Tryz.underlying3 (by kernel_rfl) h with ⟨hcs, _⟩ | ⟨x, l, c, zs, hcs, _, hl, hm, hz, _, hcell, hwz⟩
  · obtain rfl : v = .slice none 0 0 := by simpa using hcs
    obtain ⟨xs, h1, h2⟩ := Ints.lies_of_row (w := W) (a := none) (len := 0) (cap := 0) (zs := []) (.inl ⟨rfl, rfl, rfl, rfl⟩)
    rw [← h1] at h2
    exact ⟨xs, h2⟩
  · obtain rfl : v = .slice (some x) l c := by simpa using hcs
    obtain ⟨xs, h1, h2⟩ := Ints.lies_of_row (w := W) (a := some x) (len := l) (cap := c) (zs := zs) (.inr ⟨x, rfl, hl, hm, by simpa using hz, hcell, hwz⟩)
    rw [← h1] at h2
    exact ⟨xs, h2⟩
theorem open_rows {H : Type} {enc : TypeId × Value → H} {W : World} {n : Nat} {v : Value} {y : DataW H × List MemPlace} (h : DataW.trod enc Tryz.prog W 0 (fun _ => true) true n 26 [v] = some y) : ∃ rows, LiesR W v rows := by
  rcases Go.Deep.open_int_rows Tryz.underlying26 Tryz.underlying24 Tryz.underlying3 (by kernel_rfl) (by kernel_rfl) h with ⟨hcs, _⟩ | ⟨a, len, cap, A, L, C, Z, hcs, _, hl, hm, _, hrow⟩
  · obtain rfl : v = .slice none 0 0 := by simpa using hcs
    exact ⟨[], [], ⟨by simp, none, 0, rfl, fun _ => rfl, fun i x hx => by simp at hx⟩, rfl, fun i u r hu => by simp at hu⟩
  · obtain rfl : v = .slice (some a) len cap := by simpa using hcs
    have each : ∀ r, r < len → ∃ xs : List Int, L r = xs.length ∧ Lies (Value.int .i64) W (.slice (A r) xs.length (C r)) xs := fun r hr => by
      obtain ⟨_, h1, h2, h3, h4, h5, h6⟩ := hrow r (by omega)
      cases hA : A r with
      | none =>
        have hC := h5 hA
        obtain ⟨xs, e1, e2⟩ := Ints.lies_of_row (w := W) (a := none) (len := 0) (cap := 0) (zs := []) (.inl ⟨rfl, rfl, rfl, rfl⟩)
        refine ⟨xs, by omega, ?_⟩
        rw [hC]
        exact e2
      | some a' =>
        obtain ⟨_, h7⟩ := h6 a' hA
        obtain ⟨xs, e1, e2⟩ := Ints.lies_of_row (w := W) (a := some a') (len := L r) (cap := C r) (zs := Z r) (.inr ⟨a', rfl, h1, h2, h3, by rw [h3]; exact h7, h4⟩)
        exact ⟨xs, e1, e2⟩
    obtain ⟨f, hf⟩ := Go.Deep.choose_lt each
    refine ⟨(List.range len).map f, (List.range len).map (fun r => .slice (A r) (L r) (C r)), ⟨by simp; unfold maxLen at hm; omega, some a, cap, by simp, (fun h => by cases h), fun i x hx => ?_⟩, by simp, fun i u r hu hr => ?_⟩
    · have hi : i < len := by have := (List.getElem?_eq_some_iff.1 hx).1; simpa using this
      obtain ⟨hc, _⟩ := hrow i (by omega)
      obtain ⟨b, off, spot⟩ := a
      obtain ⟨h0, _⟩ := hrow 0 (by omega)
      obtain rfl : spot = none := by simpa [Addr.add] using World.cell?_spot h0
      rw [addr_plus] at hc
      refine ⟨b, off, rfl, ?_⟩
      rw [hc]
      simp [hi] at hx
      rw [← hx]
      rfl
    · have hi : i < len := by have := (List.getElem?_eq_some_iff.1 hu).1; simpa using this
      simp [hi] at hu hr
      subst hu; subst hr
      obtain ⟨h1, h2⟩ := hf i hi
      rw [h1]
      exact h2
theorem open_list {H : Type} {enc : TypeId × Value → H} {W : World} {v : Value} {d : DataW H} {p : List MemPlace} (h : DataW.Trod enc Tryz.prog W 0 (fun _ => true) true 24 v d p) (hv : ∃ a l c, v = .slice a l c) : ∃ xs, Lies (Value.int .i64) W v xs := by
  obtain ⟨a, l, c, rfl⟩ := hv
  obtain ⟨n, hn⟩ := h
  exact open_row_ints hn
end Seqs
end Go.Proofs.YtfpdikohlafpiaaGreat
