/- Append and slice literals inside a statement whose order is drawn, told of slices as lists. No conditions beyond those that each fact states. -/
import Derived.Test.YtfpdikohlafpiaaGreatLists
import Derived.Deep.RegionLaw
namespace Go.Proofs.YtfpdikohlafpiaaGreat.Plain
open Go.RowKit
section
variable {α : Type} {enc : α → Value} {e : TypeId}
/-- Append inside a drawn region: onto a slice of the call's own, of any slice that reads as a list. -/
theorem step_append_list {P : Program} {ops : Array Oper} {o : Oper} {a : Act} {wx : World} {K : Act → World → Prop} {Q : Exit → Act → World → Prop} {E : Prop}
    (hgd : o.guard = none) (s x : Operand) (t : TypeId) (hop : o.op = Op.call { callee := Callee.builtin Builtin.append, args := #[s, x], argTypes := #[t, t] })
    (base : Nat) (i : TypeInfo) (z : Value) (bytes : Nat) (ht : P.underlying t = some (.slice e)) (hi : P.info? e = some i) (hz : i.zero = some z)
    (hsize : i.size = 1) (hby : i.bytes = bytes) (hzs : z.cells.size = 1)
    (v : Value) (xs : List α) (hs : a.eval s = v) (hown : Has enc e wx base v xs) (u : Value) (ys : List α) (hx : a.eval x = u) (hu : Lies enc wx u ys)
    (h1 : ∀ y ∈ ys, (enc y).oneCell' = true) (hbytes : (xs.length + ys.length) * bytes ≤ 140737488355328) (h63 : xs.length + ys.length ≤ 9223372036854775807) (hb2 : base ≤ wx.heap.size)
    (hK : ∀ v' w', Has enc e w' base v' (xs ++ ys) → wx.grownBy w' v.ownBlock → K (a.put o.dst v') w') :
    if Region.wanted o (yielded ops a.tmps) = true then Oper.wp P o a wx K Q else E := by
  have hw : Region.wanted o (yielded ops a.tmps) = true := by simp [Region.wanted, hgd]
  rw [if_pos hw]
  obtain ⟨hl, A, cap, rfl, hnone, hc⟩ := hu
  have hh : ∀ v' w', w'.ownsRow base e 1 v' (xs.length + ys.length) (xs.map enc ++ ys.map enc) → wx.grownBy w' v.ownBlock → K (a.put o.dst v') w' := by
    intro v' w' ho' hg'
    refine hK v' w' ?_ hg'
    show w'.ownsRow base e 1 v' _ _
    rw [List.length_append, List.map_append]
    exact ho'
  cases A with
  | none =>
    obtain rfl := hnone rfl
    have hy : ys = [] := by
      cases ys with
      | nil => rfl
      | cons y l => obtain ⟨_, _, h', _⟩ := hc 0 y rfl; cases h'
    subst hy
    have hrun := run_append_owned_none (P := P) (w := wx) base t o.type e i 1 ht hi v xs.length (xs.map enc) hown
    unfold Oper.wp
    simp only [List.length_nil] at hx
    simp [execOp, hop, resolve, invoke, builtin, hs, hx, hrun, Result.andThen]
    exact hh v wx (by simpa [Has] using hown) (World.grownBy.refl wx _)
  | some ad =>
    refine wp_append_own _ s x t hop base e i z 1 bytes ht hi hz hsize hby hzs (by decide) v xs.length (xs.map enc) hs hown ad ys.length cap (ys.map enc) hx (by simp) ?_ ?_ (by unfold maxLen; omega) hbytes hb2 (fun v' w' h1 h2 _ => hh v' w' h1 h2)
    · intro j y hj
      rw [List.getElem?_map, Option.map_eq_some_iff] at hj
      obtain ⟨x', hx', rfl⟩ := hj
      obtain ⟨b, off, he, hcell⟩ := hc j x' hx'
      obtain rfl := Option.some.inj he
      rw [addr_plus]
      exact hcell
    · intro y hy
      obtain ⟨x', hx', rfl⟩ := List.mem_map.1 hy
      exact h1 x' hx'
end
end Go.Proofs.YtfpdikohlafpiaaGreat.Plain
