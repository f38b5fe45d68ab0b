/- Contracts of the program's LeastPeriod, IsPrimitive and RootOf. No conditions beyond those that each states. -/
import Derived.ArgAppend
import Derived.Laws.CopyOwn
import Derived.Test.YtojmlhcgghaceaaPerI
import Derived.Test.YtojmlhcgghaceaaDigits4
namespace Go.Proofs.Ytojmlhcgghaceaa
open Go.ChangeShapes Go.WideShapes Go.ChangeAt Go.RowKit
open Go.PlainAid Plain
set_option linter.unusedVariables false
namespace Fac
set_option maxHeartbeats 2000000 in
theorem impl_lp (v : Value) (u : List Int) (w : World) (h : Lies (Value.int .i64) w v u) (hs : u.length ≤ 4194303) :
    Calls Try.prog 46 #[v] w fun e w' => e = .returned (.int .i64 (lpV u)) ∧ Below w.heap.size w w' := by
  have HC := Lib.hid (impl_per v u w h hs)
  have HPL := Lib.hid (prV_len u)
  obtain ⟨pa, pc, rfl⟩ := lies_form h
  by_cases h0 : 0 < u.length
  · have hp := prV_pos h0
    have HF := Lib.hid (prV_first h0)
    obtain ⟨L, hL⟩ : ∃ L, L = prV u := ⟨_, rfl⟩
    obtain ⟨y, hy⟩ : ∃ y, y = lpV u := ⟨_, rfl⟩
    rw [← hL] at HC HPL hp HF
    rw [← hy] at HF ⊢
    have hlv : L.length ≤ 4194304 := by have := HPL.out; omega
    clear hL hy h
    have hd0 : ((u.length : Int) == 0) = false := by simp; intro e; rw [e] at h0; simp at h0
    go_enter Try.func46, Try.ntmps46
    go_wp2_with fail
    refine HC.out.mono ?_
    rintro e W1 ⟨vb, rfl, hv, b1⟩
    obtain ⟨ba, bc, rfl, _⟩ := hv.form
    obtain ⟨q, r, hba, hc⟩ := lies_cell hv.lies HF.out
    rw [Nat.add_zero] at hc
    subst hba
    have HB := Lib.hid b1
    clear hv b1
    go_wp2
    go_ret
    exact ⟨rfl, HB.out⟩
  · cases u with
    | cons x l => simp at h0
    | nil =>
      rw [lpV_nil rfl]
      clear h0 hs HC HPL h
      go_enter Try.func46, Try.ntmps46
      go_wp2
      go_ret
      exact ⟨rfl, Below.refl _ _⟩
/-- A slice cut to its own length. -/
theorem LiesC.full {w : World} {b off c : Nat} {xs : List Int} (hl : LiesC w (.slice (some ⟨b, off, none⟩) xs.length c) xs) (h0 : 0 < xs.length) :
    (∀ W : World, (Instr.slice 22 (.slice (some ⟨b, off, none⟩) xs.length c) none (some (.int .i64 (xs.length : Int))) (some (.int .i64 (xs.length : Int)))).run Try.prog W = .ok (.slice (some ⟨b, off, none⟩) xs.length xs.length) W) ∧ Lies (Value.int .i64) w (.slice (some ⟨b, off, none⟩) xs.length xs.length) xs := by
  have hcap := hl.2 _ _ _ rfl
  refine ⟨fun W => ?_, ?_⟩
  · have := run_slice_hm (P := Try.prog) (w := W) (t := 22) (a := some ⟨b, off, none⟩) (len := xs.length) (cap := c) (by rw [elem_tr]; exact Try.underlying22) .i64 .i64 (xs.length : Int) (xs.length : Int) (by omega) (by omega) (by omega)
    rw [this, elem_tr]
    have hne : ¬ xs.length = 0 := by omega
    simp [go_sem, Result.andThen, sliced, hne]
  · obtain ⟨⟨hs, a', c', hv, hn, hc⟩, _⟩ := hl
    injection hv with e1 e2 e3
    subst e1
    exact ⟨hs, _, _, rfl, (fun h => by cases h), hc⟩
/-- 'append(v, u...)', v a slice without room: what is handed back lies in a new block. -/
theorem append_full {P : Program} (w : World) {ops : Array Oper} {rest : List Oper} {o : Oper} {a : Act} {Q : Exit → Act → World → Prop} (hgd : o.guard = none) (s x : Operand) (t : TypeId)
    (ho : o.op = .call { callee := .builtin .append, args := #[s, x], argTypes := #[t, t] })
    (i : TypeInfo) (ht : P.underlying t = some (.slice 3)) (hi : P.info? 3 = some i) (hz : i.zero = some (.int .i64 0)) (hsize : i.size = 1) (hby : i.bytes = 8)
    (b off b2 off2 c : Nat) (xs ys : List Int) (hs : a.eval s = .slice (some ⟨b, off, none⟩) xs.length xs.length) (hx : a.eval x = .slice (some ⟨b2, off2, none⟩) ys.length c)
    (h1 : Lies (Value.int .i64) w (.slice (some ⟨b, off, none⟩) xs.length xs.length) xs) (h2 : Lies (Value.int .i64) w (.slice (some ⟨b2, off2, none⟩) ys.length c) ys) (hm : 0 < ys.length) (hl : xs.length + ys.length ≤ 100000000)
    (h : ∀ v' w', Has (Value.int .i64) 3 w' w.heap.size v' (xs ++ ys) → w.grownBy w' none → wpList P ops Q rest (a.put o.dst v') w') :
    wpList P ops Q (o :: rest) a w := by
  have cells : ∀ {b off c n : Nat} {zs : List Int}, Lies (Value.int .i64) w (.slice (some ⟨b, off, none⟩) n c) zs → ∀ j u, (zs.map (Value.int .i64))[j]? = some u → w.cell? ((⟨b, off, none⟩ : Addr).add j) = some u := fun hL j u hj => by
    rw [List.getElem?_map, Option.map_eq_some_iff] at hj
    obtain ⟨x', hx', rfl⟩ := hj
    obtain ⟨b', o', he, hcell⟩ := lies_cell hL hx'
    cases he
    rw [addr_plus]
    exact hcell
  refine wpList_append_grows w hgd s x t ho 3 i (.int .i64 0) 1 8 ht hi hz hsize hby rfl (by decide) (some ⟨b, off, none⟩) xs.length xs.length (xs.map (Value.int .i64)) hs (fun h => by cases h) (by simp) (fun p hp j u hj => by cases hp; exact cells h1 j u hj) ⟨b2, off2, none⟩ ys.length c (ys.map (Value.int .i64)) hx (by simp) (cells h2) (fun u hu => by obtain ⟨_, _, rfl⟩ := List.mem_map.1 hu; rfl) (by omega) (by unfold maxLen; omega) (by omega) fun v' w' hr hg => h v' w' ?_ hg
  show World.ownsRow _ _ _ _ _ _ _
  rw [List.length_append, List.map_append]
  exact hr
end Fac
end Go.Proofs.Ytojmlhcgghaceaa
