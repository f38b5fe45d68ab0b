/- Writes into slices that are the call's own. No conditions beyond those that each fact states. -/
import Derived.Test.YtfpdikohlafpiaaGreatSeqBuild
namespace Go.Proofs.YtfpdikohlafpiaaGreat.Plain
open Go.RowKit
set_option linter.unusedVariables false
/-- A term is written into an own slice. -/
theorem OwnI.write {w : World} {lo hi g n cap : Nat} {xs : List Int} (h : OwnI w lo hi (.slice (some ⟨g, 0, none⟩) n cap) xs) (j : Nat) (x : Int) : OwnI (w.setCell ⟨g, j, none⟩ (.int .i64 x)) lo hi (.slice (some ⟨g, 0, none⟩) n cap) (xs.set j x) := by
  have h0 : w.ownsRow lo 3 1 (.slice (some ⟨g, 0, none⟩) n cap) xs.length (xs.map (Value.int .i64)) := h.has
  obtain ⟨a, c, hf, _⟩ := h.has.form
  injection hf with _ h2 _
  subst h2
  have h1 := (h0.stored j (.int .i64 x)).1
  refine ⟨?_, h.lt, by rw [size_setCell']; exact h.le⟩
  show World.ownsRow _ _ _ _ _ _ _
  rw [List.length_set, List.map_set]
  exact h1
theorem OwnRows.write {w : World} {lo hi i g n cap : Nat} {us : List Value} {rows : List (List Int)} {r : List Int} (h : OwnRows w lo hi us rows) (hu : us[i]? = some (.slice (some ⟨g, 0, none⟩) n cap)) (hr : rows[i]? = some r) (j : Nat) (x : Int) :
    OwnRows (w.setCell ⟨g, j, none⟩ (.int .i64 x)) lo hi us (rows.set i (r.set j x)) := by
  refine ⟨by rw [List.length_set]; exact h.len, fun k u r' a b => ?_, h.apart⟩
  by_cases hk : i = k
  · subst hk
    rw [hu] at a
    injection a with a
    subst a
    rw [List.getElem?_set_self (List.getElem?_eq_some_iff.1 hr).1] at b
    injection b with b
    subst b
    exact (h.row i _ r hu hr).write j x
  · rw [List.getElem?_set_ne hk] at b
    refine (h.row k u r' a b).set (a := ⟨g, j, none⟩) ?_ _
    intro e
    rcases h.apart i k _ u hu a hk with h1 | h1
    · cases h1
    · exact h1 e.symm
theorem Building.write {w : World} {base hi p i g n cap : Nat} {b : Int} {vn vo : Value} {us : List Value} {rows : List (List Int)} {out r : List Int} (h : Building w base hi p b vn vo us rows out) (hu : us[i]? = some (.slice (some ⟨g, 0, none⟩) n cap)) (hr : rows[i]? = some r) (j : Nat) (x : Int) :
    Building (w.setCell ⟨g, j, none⟩ (.int .i64 x)) base hi p b vn vo us (rows.set i (r.set j x)) out := by
  have hI : OwnI w base hi (.slice (some ⟨g, 0, none⟩) n cap) r := h.rows.row (i + 1) _ r hu hr
  have h1 := h.rows.write (i := i + 1) hu hr j x
  have h2 : vn.ownBlock ≠ some g := by
    rcases h.top.ne_top hI.has with e | e
    · rw [e]; simp
    · exact e
  have h3 : g ≠ p := fun e => has_ne_c3 hI.has h.cells (by decide) (by rw [← e]; rfl)
  exact ⟨h.top.set (a := ⟨g, j, none⟩) h2 _, h1, h.cells.other (a := ⟨g, j, none⟩) h3 _, h.lo, by rw [size_setCell']; exact h.le⟩
/-- The sequence whose first row's or slice of terms' cell j is written. -/
theorem OwnS.parts_own {w : World} {lo hi : Nat} {v : Value} {b : Int} {rows : List (List Int)} {out : List Int} (h : OwnS w lo hi v b rows out) :
    ∃ an cn ao co us, v = .agg #[.int .i64 b, .slice an rows.length cn, .slice ao out.length co] ∧ OwnR w lo hi (.slice an rows.length cn) us rows ∧ OwnRows w lo hi (us ++ [.slice ao out.length co]) (rows ++ [out]) := by
  obtain ⟨vn, vo, us, rfl, h1, h2⟩ := h
  obtain ⟨an, cn, hn, _⟩ := h1.top.form
  obtain ⟨ao, co, ho⟩ := h2.last.form
  rw [h1.rows.len] at hn
  subst hn; subst ho
  exact ⟨an, cn, ao, co, us, rfl, h1, h2⟩
theorem own_at {w : World} {base : Nat} {v : Value} {xs : List Int} (h : Has (Value.int .i64) 3 w base v xs) (hp : 0 < xs.length) : ∃ g c, v = .slice (some ⟨g, 0, none⟩) xs.length c ∧ base ≤ g ∧ g < w.heap.size := by
  obtain ⟨a, c, rfl, hg⟩ := h.form
  obtain ⟨g, rfl⟩ := hg hp
  exact ⟨g, c, rfl, (h.lt g rfl).1, (h.lt g rfl).2⟩
theorem own_outj {w : World} {lo hi : Nat} {vn : Value} {ao : Option Addr} {co : Nat} {b : Int} {rows : List (List Int)} {out : List Int} (h : OwnS w lo hi (.agg #[.int .i64 b, vn, .slice ao out.length co]) b rows out) (j : Nat) (h0 : j < out.length) :
    ∃ g, ao = some ⟨g, 0, none⟩ ∧ lo ≤ g ∧ g < hi ∧ w.frozen? ⟨g, j, none⟩ = false ∧ (∃ y, w.cell? ⟨g, j, none⟩ = some y) ∧ ∀ x : Int, OwnS (w.setCell ⟨g, j, none⟩ (.int .i64 x)) lo hi (.agg #[.int .i64 b, vn, .slice ao out.length co]) b rows (out.set j x) := by
  obtain ⟨vn', vo', us, hv, hr, ho⟩ := h
  simp at hv
  obtain ⟨rfl, rfl⟩ := hv
  have hI := ho.last
  obtain ⟨g, c, hg, hl, _⟩ := own_at hI.has (show 0 < out.length by omega)
  injection hg with h1 _ h3
  subst h1; subst h3
  have hO : w.ownsRow lo 3 1 (.slice (some ⟨g, 0, none⟩) out.length co) out.length (out.map (Value.int .i64)) := hI.has
  refine ⟨g, rfl, hl, hI.lt g rfl, hO.frozenAt j, ?_, fun x => ?_⟩
  · have y3 := hO.cellAt j (by omega)
    rw [List.getElem?_map, List.getElem?_eq_getElem h0, Option.map_some] at y3
    exact ⟨_, y3⟩
  · have hu : (us ++ [Value.slice (some ⟨g, 0, none⟩) out.length co])[us.length]? = some (.slice (some ⟨g, 0, none⟩) out.length co) := by simp
    have hq : (rows ++ [out])[us.length]? = some out := by rw [hr.rows.len]; simp
    have h2 := ho.write hu hq j x
    rw [hr.rows.len, List.set_append_right _ _ (Nat.le_refl _), Nat.sub_self, List.set_cons_zero] at h2
    have ht : vn.ownBlock ≠ some g := by
      rcases hr.top.ne_top hI.has with e | e
      · rw [e]; simp
      · exact e
    have hne : ∀ u ∈ us, u.ownBlock ≠ some g := fun u hu e => by
      obtain ⟨i, hi'⟩ := List.getElem?_of_mem hu
      have hlt := (List.getElem?_eq_some_iff.1 hi').1
      rcases ho.apart i us.length u (.slice (some ⟨g, 0, none⟩) out.length co) (by rw [List.getElem?_append_left hlt]; exact hi') (by simp) (by omega) with e' | e'
      · rw [e] at e'; cases e'
      · exact e' e
    exact ⟨vn, _, us, rfl, ⟨hr.top.set (a := ⟨g, j, none⟩) ht _, hr.lt, by rw [size_setCell']; exact hr.le, hr.rows.set (a := ⟨g, j, none⟩) hne _⟩, h2⟩
theorem own_wide {w : World} {lo hi hi' : Nat} {v : Value} {b : Int} {rows : List (List Int)} {out : List Int} (h : OwnS w lo hi v b rows out) (h1 : hi ≤ hi') (h2 : hi' ≤ w.heap.size) : OwnS w lo hi' v b rows out := by
  obtain ⟨vn, vo, us, rfl, hr, ho⟩ := h
  exact ⟨vn, vo, us, rfl, ⟨hr.top, fun k hk => Nat.lt_of_lt_of_le (hr.lt k hk) h1, h2, hr.rows.mono h1 h2⟩, ho.mono h1 h2⟩
end Go.Proofs.YtfpdikohlafpiaaGreat.Plain
