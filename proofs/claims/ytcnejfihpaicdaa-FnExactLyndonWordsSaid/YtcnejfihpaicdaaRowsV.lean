/- Slices of rows whose rows are the call's own, whether or not two of them share a block; the laws' tools for slices of rows. No conditions beyond those that each states. -/
import Derived.Test.YtcnejfihpaicdaaCmp
import Derived.Test.YtcnejfihpaicdaaRowsIn
import Derived.Test.YtcnejfihpaicdaaSeqMark2
import Derived.Test.YtcnejfihpaicdaaSeqEq
import Derived.Deep.DeepCutAuto
namespace Go.Proofs.Ytcnejfihpaicdaa
open Go.ChangeShapes Go.WideShapes Go.ChangeAt Go.RowKit
open Go.PlainAid Plain
set_option linter.unusedVariables false
namespace Fac
open Seqs
theorem infoR' : (Try.prog.info? 22).map (fun i => (i.zero, i.size, i.bytes)) = some (some (.slice none 0 0), 1, 24) := by kernel_rfl
/-- The slice v of rows is the call's own, from block lo on; its rows are so from block base on. -/
def RowsV (w : World) (lo base : Nat) (v : Value) (rows : List (List Int)) : Prop := ∃ us, Has id 22 w lo v us ∧ us.length = rows.length ∧ ∀ (i : Nat) (u : Value) (r : List Int), us[i]? = some u → rows[i]? = some r → Has (Value.int .i64) 3 w base u r
section
variable {w w' : World} {lo base : Nat} {v : Value} {rows : List (List Int)}
theorem RowsV.below (h : RowsV w lo base v rows) (hb : Below w.heap.size w w') : RowsV w' lo base v rows := by
  obtain ⟨us, h1, h2, h3⟩ := h
  exact ⟨us, h1.below hb, h2, fun i u r hu hr => (h3 i u r hu hr).below hb⟩
theorem RowsV.mono {lo' base' : Nat} (h : RowsV w lo base v rows) (hl : lo' ≤ lo) (hb : base' ≤ base) : RowsV w lo' base' v rows := by
  obtain ⟨us, h1, h2, h3⟩ := h
  exact ⟨us, h1.mono hl, h2, fun i u r hu hr => (h3 i u r hu hr).mono hb⟩
theorem RowsV.liesR (h : RowsV w lo base v rows) : LiesR w v rows := by
  obtain ⟨us, h1, h2, h3⟩ := h
  exact ⟨us, h1.lies, h2, fun i u r hu hr => (h3 i u r hu hr).lies⟩
theorem RowsV.form (h : RowsV w lo base v rows) : ∃ a c, v = .slice a rows.length c := by
  obtain ⟨us, h1, h2, h3⟩ := h
  obtain ⟨a, c, h4, _⟩ := h1.form
  exact ⟨a, c, by rw [h4, h2]⟩
theorem RowsV.nil (h : Has id 22 w lo v []) : RowsV w lo base v [] := ⟨[], h, rfl, fun i u r hu => by simp at hu⟩
theorem RowsV.frame {w0 : World} (h : RowsV w lo base v rows) (hb : Below w0.heap.size w0 w) (hB : w0.heap.size ≤ lo) (hg : w.grownBy w' v.ownBlock) : Below w0.heap.size w0 w' := by
  obtain ⟨us, h1, _⟩ := h
  exact h1.frame hb hB hg
theorem RowsV.other {b : Nat} {u : Value} {xs : List Int} (h : RowsV w lo base v rows) (hu : Has (Value.int .i64) 3 w b u xs) (hg : w.grownBy w' v.ownBlock) : Has (Value.int .i64) 3 w' b u xs := by
  obtain ⟨us, h1, _⟩ := h
  exact hu.grown hg (h1.ne_row hu)
/-- A row of it, its cell. -/
theorem RowsV.row {a : Option Addr} {n c i : Nat} {r : List Int} (h : RowsV w lo base (.slice a n c) rows) (hr : rows[i]? = some r) : ∃ p o ua uc, a = some ⟨p, o, none⟩ ∧ w.cell? ⟨p, o + i, none⟩ = some (.slice ua r.length uc) ∧ Has (Value.int .i64) 3 w base (.slice ua r.length uc) r := by
  obtain ⟨us, h1, h2, h3⟩ := h
  obtain ⟨_, a', c', hv, _, hc⟩ := h1.lies
  injection hv with e1 e2 e3
  subst e1
  have hi : i < us.length := by rw [h2]; exact (List.getElem?_eq_some_iff.1 hr).1
  obtain ⟨p, o, ha, hcell⟩ := hc i _ (List.getElem?_eq_getElem hi)
  have hh := h3 i _ r (List.getElem?_eq_getElem hi) hr
  obtain ⟨ua, uc, hu, _⟩ := hh.form
  rw [hu] at hh
  refine ⟨p, o, ua, uc, ha, ?_, hh⟩
  rw [hcell]
  exact congrArg some hu
end
/-- 'v = append(v, x)', x a row of the call's own; where the slice lies then. -/
theorem wpList_append_rowV2 {P : Program} {wr : World} {lo base : Nat} {rows : List (List Int)} {ops : Array Oper} {rest : List Oper} {o : Oper} {a : Act} {Q : Exit → Act → World → Prop} (hgd : o.guard = none) (s x : Operand) (t : TypeId)
    (ho : o.op = .call { callee := .builtin .append, args := #[s, x], argTypes := #[t, t] })
    (i : TypeInfo) (ht : P.underlying t = some (.slice 22)) (hi' : P.info? 22 = some i) (hz : i.zero = some (.slice none 0 0))
    (hsize : i.size = 1) (hby : i.bytes = 24) (v : Value) (hs : a.eval s = v) (hown : RowsV wr lo base v rows) (u : Value) (r : List Int) (hu : Has (Value.int .i64) 3 wr base u r)
    (g : Nat) (hx : a.eval x = .slice (some ⟨g, 0, none⟩) 1 1) (hgs : g = wr.heap.size) (hlen : rows.length ≤ 10000000) (hlo : lo ≤ wr.heap.size)
    (h : ∀ v' w', RowsV w' lo base v' (rows ++ [r]) → wr.grownBy w' v.ownBlock → (∀ k, v'.ownBlock = some k → v.ownBlock = some k ∨ wr.heap.size ≤ k) → wpList P ops Q rest (a.put o.dst v') w') :
    wpList P ops Q (o :: rest) a (wr.alloc (.cells #[u] 22)) := by
  subst hgs
  obtain ⟨us, h1, h2, h3⟩ := hown
  have hu1 : u.oneCell' = true := by
    obtain ⟨a, c, h5, _⟩ := hu.form
    rw [h5]
    rfl
  refine wpList_append_list (enc := id) (e := 22) hgd s x t ho lo i (.slice none 0 0) 24 ht hi' hz hsize hby rfl v us hs (has_alloc h1 _) (.slice (some ⟨wr.heap.size, 0, none⟩) 1 1) [u] hx (lies_lit1v u rfl) (fun y hy => by simp at hy; subst hy; exact hu1) (by simp; omega) (by simp; omega) (by simp; omega) ?_
  intro v' w' hv' hg hbk
  have hg' : wr.grownBy w' v.ownBlock := grown_alloc hg
  refine h v' w' ⟨us ++ [u], hv', by simp [h2], fun j y z hy hz => ?_⟩ hg' (fun k hk => (hbk k hk).imp id fun h => by simp at h; omega)
  by_cases hj : j < us.length
  · rw [List.getElem?_append_left hj] at hy
    rw [List.getElem?_append_left (by rw [← h2]; exact hj)] at hz
    have := h3 j y z hy hz
    exact this.grown hg' (h1.ne_row this)
  · have e1 : j = us.length := by have := (List.getElem?_eq_some_iff.1 hy).1; simp at this; omega
    subst e1
    rw [List.getElem?_append_right (Nat.le_refl _)] at hy
    rw [h2, List.getElem?_append_right (Nat.le_refl _)] at hz
    simp at hy hz
    subst hy; subst hz
    exact hu.grown hg' (h1.ne_row hu)
/-- 'v = append(v, x)', x a row of the call's own. -/
theorem wpList_append_rowV {P : Program} {wr : World} {lo base : Nat} {rows : List (List Int)} {ops : Array Oper} {rest : List Oper} {o : Oper} {a : Act} {Q : Exit → Act → World → Prop} (hgd : o.guard = none) (s x : Operand) (t : TypeId)
    (ho : o.op = .call { callee := .builtin .append, args := #[s, x], argTypes := #[t, t] })
    (i : TypeInfo) (ht : P.underlying t = some (.slice 22)) (hi' : P.info? 22 = some i) (hz : i.zero = some (.slice none 0 0))
    (hsize : i.size = 1) (hby : i.bytes = 24) (v : Value) (hs : a.eval s = v) (hown : RowsV wr lo base v rows) (u : Value) (r : List Int) (hu : Has (Value.int .i64) 3 wr base u r)
    (g : Nat) (hx : a.eval x = .slice (some ⟨g, 0, none⟩) 1 1) (hgs : g = wr.heap.size) (hlen : rows.length ≤ 10000000) (hlo : lo ≤ wr.heap.size)
    (h : ∀ v' w', RowsV w' lo base v' (rows ++ [r]) → wr.grownBy w' v.ownBlock → wpList P ops Q rest (a.put o.dst v') w') :
    wpList P ops Q (o :: rest) a (wr.alloc (.cells #[u] 22)) :=
    wpList_append_rowV2 hgd s x t ho i ht hi' hz hsize hby v hs hown u r hu g hx hgs hlen hlo fun v' w' h1 h2 _ => h v' w' h1 h2
/-- 'v = append(v, x)', x an int; where the slice lies then. -/
theorem append_one2 {P : Program} (wr : World) {ops : Array Oper} {rest : List Oper} {o : Oper} {a : Act} {Q : Exit → Act → World → Prop} (hgd : o.guard = none) (s x : Operand) (t : TypeId)
    (ho : o.op = .call { callee := .builtin .append, args := #[s, x], argTypes := #[t, t] })
    (base : Nat) (i : TypeInfo) (ht : P.underlying t = some (.slice 3)) (hi : P.info? 3 = some i) (hz : i.zero = some (.int .i64 0))
    (hsize : i.size = 1) (hby : i.bytes = 8)
    (v : Value) (xs : List Int) (hs : a.eval s = v) (hown : Has (Value.int .i64) 3 wr base v xs) (y : Int) (hx : a.eval x = .slice (some ⟨wr.heap.size, 0, none⟩) 1 1)
    (hlen : xs.length ≤ 100000000) (hb2 : base ≤ wr.heap.size)
    (h : ∀ v' w', Has (Value.int .i64) 3 w' base v' (xs ++ [y]) → wr.grownBy w' v.ownBlock → (∀ k, v'.ownBlock = some k → v.ownBlock = some k ∨ wr.heap.size ≤ k) → wpList P ops Q rest (a.put o.dst v') w') :
    wpList P ops Q (o :: rest) a (wr.alloc (.cells #[.int .i64 y] 3)) := by
  refine wpList_append_list (enc := (Value.int .i64)) (e := 3) hgd s x t ho base i (.int .i64 0) 8 ht hi hz hsize hby rfl v xs hs (has_alloc hown _) (.slice (some ⟨wr.heap.size, 0, none⟩) 1 1) [y] hx (lies_lit1 (enc := (Value.int .i64)) y rfl) (fun _ _ => rfl) (by simp; omega) (by simp; omega) (by simp; omega) ?_
  intro v' w' hv' hg hbk
  exact h v' w' hv' (grown_alloc hg) (fun k hk => (hbk k hk).imp id fun h => by simp at h; omega)
/-- Two slices of the call's own share no block. -/
def Apart (u v : Value) : Prop := u.ownBlock = none ∨ u.ownBlock ≠ v.ownBlock
theorem Apart.step {u v v' : Value} {W : World} (h : Apart u v) (hk : ∀ k, v'.ownBlock = some k → v.ownBlock = some k ∨ W.heap.size ≤ k) (hu : ∀ k, u.ownBlock = some k → k < W.heap.size) : Apart u v' := by
  unfold Apart at *
  cases hb : u.ownBlock with
  | none => exact .inl rfl
  | some k =>
    refine .inr fun e => ?_
    rcases hk k e.symm with h1 | h1
    · rcases h with h2 | h2
      · rw [hb] at h2; cases h2
      · exact h2 (by rw [hb, h1])
    · have := hu k hb
      omega
theorem RowsV.grown {w w' : World} {lo base lo' : Nat} {v vo : Value} {rows : List (List Int)} {us' : List Value} (h : RowsV w lo base v rows) (ho : Has id 22 w lo' vo us') (hg : w.grownBy w' vo.ownBlock) (hap : Apart v vo) : RowsV w' lo base v rows := by
  obtain ⟨us, h1, h2, h3⟩ := h
  exact ⟨us, h1.grown hg hap, h2, fun i u r hu hr => (h3 i u r hu hr).grown hg (ho.ne_row (h3 i u r hu hr))⟩
theorem RowsV.grown' {w w' : World} {lo base lo' base' : Nat} {v vo : Value} {rows rows' : List (List Int)} (h : RowsV w lo base v rows) (ho : RowsV w lo' base' vo rows') (hg : w.grownBy w' vo.ownBlock) (hap : Apart v vo) : RowsV w' lo base v rows := by
  obtain ⟨us', h1, _⟩ := ho
  exact h.grown h1 hg hap
theorem RowsV.lt {w : World} {lo base : Nat} {v : Value} {rows : List (List Int)} (h : RowsV w lo base v rows) : ∀ k, v.ownBlock = some k → lo ≤ k ∧ k < w.heap.size := by
  obtain ⟨us, h1, _⟩ := h
  exact h1.lt
/-- The slice v of rows lies, whole, in the blocks from lo to hi. -/
def OwnV (w : World) (lo hi : Nat) (v : Value) (rows : List (List Int)) : Prop := ∃ us, Has id 22 w lo v us ∧ (∀ k, v.ownBlock = some k → k < hi) ∧ hi ≤ w.heap.size ∧ us.length = rows.length ∧ ∀ (i : Nat) (u : Value) (r : List Int), us[i]? = some u → rows[i]? = some r → OwnI w lo hi u r
section
variable {w w' : World} {lo hi : Nat} {v : Value} {rows : List (List Int)}
theorem OwnV.below (h : OwnV w lo hi v rows) (hb : Below w.heap.size w w') : OwnV w' lo hi v rows := by
  obtain ⟨us, h1, h2, h3, h4, h5⟩ := h
  exact ⟨us, h1.below hb, h2, Nat.le_trans h3 hb.size, h4, fun i u r hu hr => (h5 i u r hu hr).below hb⟩
theorem OwnV.touch {lo' hi' : Nat} (h : OwnV w lo hi v rows) (ht : Plain.Touch lo' hi' w w') (hd : hi ≤ lo' ∨ hi' ≤ lo) : OwnV w' lo hi v rows := by
  obtain ⟨us, h1, h2, h3, h4, h5⟩ := h
  exact ⟨us, h1.of_same fun k hk => ht.block k (h1.lt k hk).2 (by have := (h1.lt k hk).1; have := h2 k hk; omega), h2, Nat.le_trans h3 ht.size, h4, fun i u r hu hr => (h5 i u r hu hr).touch ht hd⟩
theorem OwnV.lies (h : OwnV w lo hi v rows) : LiesR w v rows := by
  obtain ⟨us, h1, h2, h3, h4, h5⟩ := h
  exact ⟨us, h1.lies, h4, fun i u r hu hr => (h5 i u r hu hr).lies⟩
theorem RowsV.own {base : Nat} (h : RowsV w base base v rows) : OwnV w base w.heap.size v rows := by
  obtain ⟨us, h1, h2, h3⟩ := h
  exact ⟨us, h1, fun k hk => (h1.lt k hk).2, Nat.le_refl _, h2, fun i u r hu hr => own_of_has (h3 i u r hu hr)⟩
end
/-- Calls that hand back new rows: of the model; of the program; each with a bool too. -/
def GivesV (rows : List (List Int)) (w : World) (e : Ending) (w' : World) : Prop := ∃ v, e = .returned v ∧ OwnV w' w.heap.size w'.heap.size v rows ∧ Below w.heap.size w w'
def GivesVK (rows : List (List Int)) (k : Bool) (w : World) (e : Ending) (w' : World) : Prop := ∃ v, e = .returned (.tuple #[v, .bool k]) ∧ OwnV w' w.heap.size w'.heap.size v rows ∧ Below w.heap.size w w'
def GivesRK (rows : List (List Int)) (k : Bool) (w : World) (e : Ending) (w' : World) : Prop := ∃ v us, e = .returned (.tuple #[v, .bool k]) ∧ OwnR w' w.heap.size w'.heap.size v us rows ∧ Below w.heap.size w w'
theorem eqR_b (u v : Value) (rows : List (List Int)) (w : World) (h1 : LiesR w u rows) (h2 : LiesR w v rows) :
    Calls Try.prog 17 #[u, v] w fun e w' => e = .returned (.bool true) ∧ Below w.heap.size w w' :=
  (eqR u v rows w h1 h2).mono fun _ _ ⟨h, n, hn⟩ => ⟨h, by rw [hn]; exact below_drewN (Below.refl _ _) n⟩
theorem markR' (v : Value) (us : List Value) (rows : List (List Int)) (T : Nat) (w : World) (lo hi : Nat) (hT : T = tot rows) (h : OwnR w lo hi v us rows) (h1 : T ≤ 4194304) :
    Calls Try.prog 19 #[v, .int .i64 1] w fun e w' => e = .returned (.int .i64 (1 + T)) ∧ OwnR w' lo hi v us (markedR 1 rows) ∧ Plain.Touch lo hi w w' := by
  subst hT
  refine (markR v us rows w lo hi 1 h (by omega) (by omega)).mono fun e w' ⟨h2, h3, h4⟩ => ⟨h2, ?_, ?_⟩
  · refine ⟨h.top.of_same fun k hk => ?_, h.lt, Nat.le_trans h.le h4.size, h3⟩
    refine h4.block k (h.top.lt k hk).2 fun u hu e => ?_
    obtain ⟨i, hi⟩ := List.getElem?_of_mem hu
    obtain ⟨r, hr⟩ : ∃ r, rows[i]? = some r := ⟨_, List.getElem?_eq_getElem (by rw [← h.rows.len]; exact (List.getElem?_eq_some_iff.1 hi).1)⟩
    rcases h.top.ne_row (h.rows.row i u r hi hr).has with h5 | h5
    · rw [h5] at e; cases e
    · rw [e, hk] at h5; exact h5 rfl
  · refine Touch.of_wrote h4 fun u hu k hk => ?_
    obtain ⟨i, hi⟩ := List.getElem?_of_mem hu
    obtain ⟨r, hr⟩ : ∃ r, rows[i]? = some r := ⟨_, List.getElem?_eq_getElem (by rw [← h.rows.len]; exact (List.getElem?_eq_some_iff.1 hi).1)⟩
    exact (h.rows.row i u r hi hr).range k hk
theorem heldR' (v : Value) (rows : List (List Int)) (T : Nat) (w : World) (hT : T = tot rows) (h : LiesR w v (markedR 1 rows)) (h1 : T ≤ 4194304) :
    Calls Try.prog 20 #[v, .int .i64 1] w fun e w' => e = .returned (.int .i64 (1 + T)) ∧ w = w' := by
  subst hT
  exact heldR v rows w 1 h (by omega) (by omega)
end Fac
end Go.Proofs.Ytcnejfihpaicdaa
