/- Contracts of the program's isRightSpecial and RightSpecial, and of the library's IndexFunc and DeleteFunc at its closure. No conditions beyond those that each states. -/
import Derived.Test.YtcnejfihpaicdaaFacI
namespace Go.Proofs.Ytcnejfihpaicdaa
open Go.ChangeShapes Go.WideShapes Go.ChangeAt Go.RowKit
open Go.PlainAid Plain
set_option linter.unusedVariables false
namespace Fac
open Seqs
theorem occ_nat' {xs ys : List Int} {k : Nat} (h : k < (occ xs ys).length) : ∃ p : Nat, (occ xs ys)[k]? = some (p : Int) ∧ p + ys.length ≤ xs.length := by
  obtain ⟨x, hx⟩ : ∃ x, (occ xs ys)[k]? = some x := ⟨_, List.getElem?_eq_getElem h⟩
  have h1 := occ_at hx
  refine ⟨x.toNat, ?_, by omega⟩
  rw [hx]; congr 1; omega
/-- Slices of ints of the call's own, with their numbers, no two in one block. -/
structure FamP (w : World) (lo hi : Nat) (ps : List (Value × List Int)) : Prop where
  own : ∀ p ∈ ps, OwnI w lo hi p.1 p.2
  apart : ps.Pairwise fun p q => p.1.ownBlock = none ∨ p.1.ownBlock ≠ q.1.ownBlock
theorem FamP.below {w w' : World} {lo hi : Nat} {ps : List (Value × List Int)} (h : FamP w lo hi ps) (hb : Below w.heap.size w w') : FamP w' lo hi ps := ⟨fun p hp => (h.own p hp).below hb, h.apart⟩
theorem FamP.filter {w : World} {lo hi : Nat} {ps : List (Value × List Int)} (h : FamP w lo hi ps) (f : Value × List Int → Bool) : FamP w lo hi (ps.filter f) := ⟨fun p hp => h.own p (List.mem_filter.1 hp).1, h.apart.filter f⟩
theorem FamP.set {w : World} {lo hi g : Nat} {ps : List (Value × List Int)} (h : FamP w lo hi ps) (hg : ∀ p ∈ ps, p.1.ownBlock ≠ some g) (j : Nat) (x : Value) : FamP (w.setCell ⟨g, j, none⟩ x) lo hi ps := ⟨fun p hp => (h.own p hp).set (a := ⟨g, j, none⟩) (hg p hp) x, h.apart⟩
theorem FamP.grown {w w' : World} {lo hi g : Nat} {ps : List (Value × List Int)} (h : FamP w lo hi ps) (hg : ∀ p ∈ ps, p.1.ownBlock ≠ some g) (hw : w.grownBy w' (some g)) : FamP w' lo hi ps :=
  ⟨fun p hp => ⟨(h.own p hp).has.grown hw (by
    cases hb : p.1.ownBlock with
    | none => exact .inl rfl
    | some k => exact .inr (by rw [← hb]; exact hg p hp)), (h.own p hp).lt, Nat.le_trans (h.own p hp).le hw.size⟩, h.apart⟩
theorem FamP.rows {w : World} {lo hi : Nat} {ps : List (Value × List Int)} (h : FamP w lo hi ps) : OwnRows w lo hi (ps.map Prod.fst) (ps.map Prod.snd) := by
  refine ⟨by simp, fun i u r hu hr => ?_, fun i j u u' hu hu' hij => ?_⟩
  · rw [List.getElem?_map, Option.map_eq_some_iff] at hu hr
    obtain ⟨p, hp, rfl⟩ := hu
    obtain ⟨q, hq, rfl⟩ := hr
    obtain rfl := Option.some.inj (hp.symm.trans hq)
    exact h.own p (List.mem_of_getElem? hp)
  · rw [List.getElem?_map, Option.map_eq_some_iff] at hu hu'
    obtain ⟨p, hp, rfl⟩ := hu
    obtain ⟨q, hq, rfl⟩ := hu'
    obtain ⟨h1, rfl⟩ := List.getElem?_eq_some_iff.1 hp
    obtain ⟨h2, rfl⟩ := List.getElem?_eq_some_iff.1 hq
    rcases Nat.lt_or_gt_of_ne hij with hl | hl
    · exact List.pairwise_iff_getElem.1 h.apart i j h1 h2 hl
    · have := List.pairwise_iff_getElem.1 h.apart j i h2 h1 hl
      cases hb : (ps[i]).1.ownBlock with
      | none => exact .inl rfl
      | some k =>
        refine .inr fun e => ?_
        rcases this with h5 | h5
        · rw [h5] at e; cases e
        · exact h5 (by rw [← e, hb])
theorem FamP.of_rows {w : World} {lo hi : Nat} {us : List Value} {rows : List (List Int)} (h : OwnRows w lo hi us rows) : FamP w lo hi (us.zip rows) := by
  refine ⟨fun p hp => ?_, List.pairwise_iff_getElem.2 fun i j hi hj hij => ?_⟩
  · obtain ⟨i, hi⟩ := List.getElem?_of_mem hp
    rw [List.getElem?_zip_eq_some] at hi
    exact h.row i _ _ hi.1 hi.2
  · have h1 : i < us.length := by rw [List.length_zip] at hi; omega
    have h2 : j < us.length := by rw [List.length_zip] at hj; omega
    have := h.apart i j _ _ (List.getElem?_eq_getElem h1) (List.getElem?_eq_getElem h2) (by omega)
    simpa using this
/-- What IndexFunc finds: the first of the slices that goes, or none. -/
def IdxR (ps : List (Value × List Int)) (xs : List Int) (r : Int) : Prop := (r = -1 ∧ ∀ p ∈ ps, rsB xs p.2 = true) ∨ ∃ i : Nat, r = i ∧ i < ps.length ∧ (∀ p ∈ ps.take i, rsB xs p.2 = true) ∧ ∀ p, ps[i]? = some p → rsB xs p.2 = false
def IdxE (ps : List (Value × List Int)) (xs : List Int) (w : World) (e : Ending) (w' : World) : Prop := ∃ r : Int, e = .returned (.int .i64 r) ∧ IdxR ps xs r ∧ Below w.heap.size w w'
theorem top_at {w : World} {lo n c : Nat} {a : Option Addr} {ps : List (Value × List Int)} {M : List Value} {i : Nat} {y : Value} (h : Has id 22 w lo (.slice a n c) M) (hy : M[i]? = some y) : ∃ g, a = some ⟨g, 0, none⟩ ∧ w.cell? ⟨g, i, none⟩ = some y := by
  obtain ⟨p, o, ha, hc⟩ := lies_at (enc := id) h.lies hy
  obtain ⟨a', c', hv, hg⟩ := h.form
  injection hv with e1 e2 e3
  obtain ⟨g, hg⟩ := hg (by have := (List.getElem?_eq_some_iff.1 hy).1; omega)
  rw [e1, hg] at ha
  injection ha with ha
  injection ha with h1 h2
  subst h1; subst h2
  rw [Nat.zero_add] at hc
  exact ⟨g, by rw [e1, hg], hc⟩
end Fac
end Go.Proofs.Ytcnejfihpaicdaa
