/- Contract of the model's StandardSplit. No conditions beyond those that it states. -/
import Derived.Test.YtcnejfihpaicdaaLynS
import Derived.Test.YtcnejfihpaicdaaSplI
import Derived.Deep.RegionLawGrows
namespace Go.Proofs.Ytcnejfihpaicdaa
open Go.ChangeShapes Go.WideShapes Go.ChangeAt Go.RowKit
open Go.PlainAid Plain
set_option linter.unusedVariables false
namespace Lynd
open Fac Seqs
theorem bel_drew {w W : World} (h : Below w.heap.size w W) : Below w.heap.size w W.drew := h.trans ((below_drew' W).mono h.size)
theorem bel_alloc {w W : World} (h : Below w.heap.size w W) (o : Obj) : Below w.heap.size w (W.alloc o) := h.alloc h.size o
/-- Inside a drawn region: 'append([]int{}, x...)', x not empty: a new slice. -/
theorem step_copy_new {P : Program} {ops : Array Oper} {o : Oper} {a : Act} {wx : World} {K : Act → World → Prop} {Q : Exit → Act → World → Prop} {E : Prop}
    (hgd : o.guard = none) (s x : Operand) (t : TypeId) (hop : o.op = Op.call { callee := Callee.builtin Builtin.append, args := #[s, x], argTypes := #[t, t] })
    (i : TypeInfo) (ht : P.underlying t = some (.slice 3)) (hi : P.info? 3 = some i) (hz : i.zero = some (.int .i64 0)) (hsize : i.size = 1) (hby : i.bytes = 8)
    (g : Addr) (hs : a.eval s = .slice (some g) 0 0) (W : World) (hW : Below W.heap.size W wx) (b off n c : Nat) (ys : List Int) (hx : a.eval x = .slice (some ⟨b, off, none⟩) n c) (hu : Lies (Value.int .i64) W (.slice (some ⟨b, off, none⟩) n c) ys)
    (h0 : 0 < ys.length) (hl : ys.length ≤ 1048576)
    (hK : ∀ v' w', Has (Value.int .i64) 3 w' W.heap.size v' ys → Below W.heap.size W w' → K (a.put o.dst v') w') :
    if Region.wanted o (yielded ops a.tmps) = true then Oper.wp P o a wx K Q else E := by
  have hu' := hu.below hW
  obtain ⟨_, _, _, hv, _, _⟩ := hu
  injection hv with e1 e2 e3
  subst e2
  refine step_append_grows hgd s x t hop 3 i (.int .i64 0) 1 8 ht hi hz hsize hby rfl (by decide) (some g) 0 0 [] hs (fun h => by cases h) rfl (fun _ _ j u h => by simp at h) ⟨b, off, none⟩ ys.length c (ys.map (Value.int .i64)) hx (by simp) (fun j u hj => ?_) (fun u hu => by obtain ⟨_, _, rfl⟩ := List.mem_map.1 hu; rfl) (by omega) (by unfold maxLen; omega) (by omega) fun v' w' hr hg => hK v' w' ?_ ?_
  · rw [List.getElem?_map, Option.map_eq_some_iff] at hj
    obtain ⟨x', hx', rfl⟩ := hj
    obtain ⟨b', o', he, hcell⟩ := lies_at (enc := (Value.int .i64)) hu' hx'
    cases he
    rw [addr_plus]
    exact hcell
  · refine Has.mono ?_ hW.size
    show World.ownsRow _ _ _ _ _ _ _
    simpa using hr
  · exact hW.trans ((below_of_grown hg).mono hW.size)
theorem is_no {u : List Int} {w w' : World} {g g' : Nat} (h : spK u = false) (h1 : OwnI w' w.heap.size w'.heap.size (.slice (some ⟨g, 0, none⟩) 0 0) []) (h2 : OwnI w' w.heap.size w'.heap.size (.slice (some ⟨g', 0, none⟩) 0 0) []) (hb : Below w.heap.size w w') : GivesIS (spA u) (spB u) (spK u) w (.returned (.tuple #[.slice (some ⟨g, 0, none⟩) 0 0, .slice (some ⟨g', 0, none⟩) 0 0, .bool false])) w' := by
  rw [h, (spK_no h).1, (spK_no h).2]
  exact ⟨_, _, rfl, h1, h2, hb⟩
theorem is_yes {u : List Int} {w w' : World} {v1 v2 : Value} {k : Nat} (hk : spK u = true) (h : k = spN u) (h1 : Has (Value.int .i64) 3 w' w.heap.size v1 (u.take k)) (h2 : Has (Value.int .i64) 3 w' w.heap.size v2 (u.drop k)) (hb : Below w.heap.size w w') : GivesIS (spA u) (spB u) (spK u) w (.returned (.tuple #[v1, v2, .bool true])) w' := by
  rw [hk, (spK_yes hk).1, (spK_yes hk).2, ← h]
  exact ⟨_, _, rfl, own_of_has h1, own_of_has h2, hb⟩
theorem two_lits (w W : World) (hb : Below w.heap.size w W) : Below w.heap.size w ((W.alloc (Obj.cells #[] 3)).alloc (Obj.cells #[] 3)) ∧ OwnI ((W.alloc (Obj.cells #[] 3)).alloc (Obj.cells #[] 3)) w.heap.size ((W.alloc (Obj.cells #[] 3)).alloc (Obj.cells #[] 3)).heap.size (.slice (some ⟨W.heap.size, 0, none⟩) 0 0) [] ∧ OwnI ((W.alloc (Obj.cells #[] 3)).alloc (Obj.cells #[] 3)) w.heap.size ((W.alloc (Obj.cells #[] 3)).alloc (Obj.cells #[] 3)).heap.size (.slice (some ⟨W.heap.size + 1, 0, none⟩) 0 0) [] := by
  refine ⟨(hb.alloc hb.size _).alloc (by have := hb.size; simp; omega) _, own_of_has ?_, own_of_has ?_⟩
  · exact has_alloc (has_lit0 rfl hb.size) _
  · exact has_lit0 (by simp) (by have := hb.size; omega)
set_option maxRecDepth 100000 in
set_option maxHeartbeats 4000000 in
theorem spec_sp (v : Value) (u : List Int) (w : World) (h : LiesC w v u) (hs : u.length ≤ 1048576) :
    Calls Try.prog 32 #[v] w (GivesIS (spA u) (spB u) (spK u) w) := by
  obtain ⟨i0, hi, hz0, hz1, hz2⟩ := info_parts Ints.infoI
  have HL := Lib.hid (fun (W : World) (hb : Below w.heap.size w W) => spec_lyn v u W (h.below hb))
  obtain ⟨a, ca, rfl, _⟩ := h.form
  have HX := Lib.hid h
  clear h
  obtain ⟨c, hc⟩ : ∃ c, c = lyB u := ⟨_, rfl⟩
  rw [← hc] at HL
  have HC := Lib.hid hc
  clear hc
  go_enter Try.func32, Try.ntmps32
  go_wp2
  go_loopw [5] (fun k' wr => ∃ k : Nat, k ≤ u.length ∧ k' = .int .i64 ((k : Int) + 1) ∧ Hid (∀ q, 0 < q → q < k + 1 → q < u.length → ¬ Lyn (u.drop q)) ∧ Hid (Below w.heap.size w wr)) (fun k' _ => u.length + 1 - (intOf k').toNat)
  case atStart => exact ⟨0, Nat.zero_le _, by go_num, fun q h1 h2 => by omega, Below.refl _ _⟩
  case round =>
    obtain ⟨k, hk, rfl, HK, HB⟩ := hrel
    by_cases hlt : k + 1 < u.length
    · have hlt1 : (k : Int) + 1 < (u.length : Int) := by omega
      have hlt2 := decide_eq_true hlt1
      have HLL := Lib.hid (HL.out wr HB.out)
      cases c with
      | false =>
        have HKF : Hid (spK u = false) := by show _ = _; unfold spK; rw [← HC.out, Bool.and_false]
        go_wp2_with (go_at_call 11; refine HLL.out.mono ?_; rintro e W5 ⟨rfl, b5⟩; have HB5 := Lib.hid (HB.out.trans (b5.mono HB.out.size)); clear b5)
        go_ret3
        obtain ⟨q1, q2, q3⟩ := two_lits w W5 HB5.out
        exact is_no HKF.out q2 q3 q1
      | true =>
        obtain ⟨a2, c2, hsl, hc2⟩ := cut_from HX.out (l := k + 1) (by omega) (L := (k : Int) + 1) (by omega)
        obtain ⟨V, hV⟩ : ∃ V, V = u.drop (k + 1) := ⟨_, rfl⟩
        rw [← hV] at hsl hc2
        have HVV := Lib.hid hV
        have HC2 := Lib.hid hc2
        have HLV := Lib.hid (fun (W : World) (hb : Below w.heap.size w W) => spec_lyn _ V W (hc2.below hb))
        obtain ⟨d, hd⟩ : ∃ d, d = lyB V := ⟨_, rfl⟩
        rw [← hd] at HLV
        have HD := Lib.hid hd
        clear hV hc2 hd
        go_upto_region 4 with (go_at_call 11; refine HLL.out.mono ?_; rintro e W5 ⟨rfl, b5⟩; have HB5 := Lib.hid (HB.out.trans (b5.mono HB.out.size)); clear b5)
        go_wp2_with fail
        refine (HLV.out _ HB5.out).mono ?_
        rintro e W6 ⟨rfl, b6⟩
        have HB6 := Lib.hid (HB5.out.trans (b6.mono HB5.out.size))
        clear b6 HB5
        cases d with
        | false =>
          have HK2 : Hid (∀ q, 0 < q → q < (k + 1) + 1 → q < u.length → ¬ Lyn (u.drop q)) := fun q h1 h2 h3 => by
            by_cases e2 : q = k + 1
            · rw [e2, ← HVV.out]
              intro e
              have := lyB_iff.2 e
              rw [← HD.out] at this
              cases this
            · exact HK.out q h1 (by omega) h3
          go_wp2
          go_roundw
          case rel => exact ⟨k + 1, by omega, by go_num, HK2, HB6⟩
          case measure => simp [intOf]; omega
        | true =>
          have HKT : Hid (spK u = true) := by show _ = _; unfold spK; rw [← HC.out, decide_eq_true (show 2 ≤ u.length by omega), Bool.true_and]
          have HKN := Lib.hid (sp_unique (w := u) (k := k + 1) (by omega) (by omega) hlt (by rw [← HVV.out]; exact lyB_iff.1 HD.out.symm) fun q h1 h2 => HK.out q h1 h2 (by omega))
          obtain ⟨a3, c3, hsl3, hc3⟩ := cut_to HX.out (h := k + 1) (by omega) (H := (k : Int) + 1) (by omega)
          obtain ⟨X, hX⟩ : ∃ X, X = u.take (k + 1) := ⟨_, rfl⟩
          rw [← hX] at hc3
          have HXX := Lib.hid hX
          have hXl : X.length ≤ 1048576 := by rw [hX, List.length_take]; omega
          have hVl : V.length ≤ 1048576 := by rw [HVV.out, List.length_drop]; omega
          have hX0 : 0 < X.length := by rw [hX, List.length_take]; omega
          have hV0 : 0 < V.length := by rw [HVV.out, List.length_drop]; omega
          have hl3 := hc3.lies.below HB6.out
          have hl2 := HC2.out.lies.below HB6.out
          obtain ⟨p3, o3, rfl, _⟩ := lies_at (enc := (Value.int .i64)) hl3 (List.getElem?_eq_getElem hX0)
          obtain ⟨p2, o2, rfl, _⟩ := lies_at (enc := (Value.int .i64)) hl2 (List.getElem?_eq_getElem hV0)
          have HC3 := Lib.hid hl3
          have HC2' := Lib.hid hl2
          clear hX hc3 hl3 hl2
          go_wp2_with fail
          go_region_law (first
            | (refine step_copy_new rfl (.tmp 20) (.tmp 23) 22 rfl i0 Try.underlying22 hi hz0 hz1 hz2 _ rfl W6 (by repeat (first | with_reducible exact Below.refl _ _ | with_reducible apply bel_drew | with_reducible apply bel_alloc)) p3 o3 (k + 1) c3 X rfl HC3.out hX0 hXl ?_; intro va wa hoa hba; have HVA := Lib.hid hoa; have HBA := Lib.hid hba; have HL2 := Lib.hid (HC2'.out.below hba); clear hoa hba)
            | (refine step_copy_new rfl (.tmp 25) (.tmp 28) 22 rfl i0 Try.underlying22 hi hz0 hz1 hz2 _ rfl wa (by repeat (first | with_reducible exact Below.refl _ _ | with_reducible apply bel_drew | with_reducible apply bel_alloc)) p2 o2 V.length c2 V rfl HL2.out hV0 hVl ?_; intro vb wb hob hbb; have HVB := Lib.hid (Has.mono hob HBA.out.size); have HVA2 := Lib.hid (HVA.out.below hbb); have HBB := Lib.hid (HBA.out.trans (hbb.mono HBA.out.size)); clear hob hbb))
          all_goals
            go_wp2
            go_ret3
            refine is_yes HKT.out HKN.out ?_ ?_ (HB6.out.trans (HBB.out.mono HB6.out.size))
            · rw [← HXX.out]; exact HVA2.out.mono HB6.out.size
            · rw [← HVV.out]; exact HVB.out.mono HB6.out.size
    · have hlt2 := decide_eq_false (show ¬ (k : Int) + 1 < (u.length : Int) by omega)
      have HKF : Hid (spK u = false) := by
        show _ = _
        unfold spK
        by_cases h2 : 2 ≤ u.length
        · exact absurd (sp_spec h2).2.2.2.1 (HK.out _ (sp_spec h2).1 (by have := (sp_spec h2).2.1; omega) (sp_spec h2).2.1)
        · rw [decide_eq_false h2, Bool.false_and]
      go_wp2
      go_ret3
      obtain ⟨q1, q2, q3⟩ := two_lits w wr HB.out
      exact is_no HKF.out q2 q3 q1
end Lynd
end Go.Proofs.Ytcnejfihpaicdaa
