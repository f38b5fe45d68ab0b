/- Laws for a map that the call itself makes and never hands out, told as the list of its keys: the i-th key that was stored leads to the number i. No conditions beyond those that each states. -/
import Derived.Maps.OwnOps
import Derived.Maps.OwnSet
import Derived.Maps.RangeWalk
import Derived.DeepKeys4
import Derived.Test.YthnmighlgifoeaaDist
import Derived.Test.YthnmighlgifoeaaLists
namespace Go.Proofs.Ythnmighlgifoeaa.Plain
open Go.RowKit Go.ChangeMaps Go.MapKept
open Go.Maps (Keyed)
set_option linter.unusedVariables false
section
variable {κ : Type} {enc : κ → Value} {P : Program} {k e t : TypeId} {w : World} {b : Nat} {keys : List κ}
/-- The entries are those of the keys, the i-th one leads to i. -/
structure EntriesOf (enc : κ → Value) (es : Array MapEntry) (clock : Nat) (keys : List κ) : Prop where
  old : ∀ x ∈ es.toList, x.born < clock
  born : (es.toList.map (·.born)).Nodup
  len : es.toList.length = keys.length
  at_ : ∀ (i : Nat) (x : κ), keys[i]? = some x → ∃ y, es.toList[i]? = some y ∧ y.key = enc x ∧ y.val = .int .i64 i
/-- Block b is a map with these keys. -/
def MapOf (enc : κ → Value) (w : World) (b : Nat) (keys : List κ) : Prop := ∃ es clock, w.heap[b]? = some (.map es clock) ∧ EntriesOf enc es clock keys
/-- What is asked of the keys: they can be read, and no two read alike. -/
structure GoodKeys (P : Program) (k : TypeId) (enc : κ → Value) (Ok : κ → Prop) : Prop where
  law : Keyed P k
  reads : ∀ x, Ok x → ∃ l, Go.keyOf P k (enc x) = some l
  inj : ∀ x y, Ok x → Ok y → enc x = enc y → x = y
theorem EntriesOf.back {es : Array MapEntry} {clock : Nat} (h : EntriesOf enc es clock keys) {i : Nat} {y : MapEntry} (hy : es.toList[i]? = some y) : ∃ x, keys[i]? = some x ∧ y.key = enc x ∧ y.val = .int .i64 i := by
  have hi : i < keys.length := by rw [← h.len]; exact (List.getElem?_eq_some_iff.1 hy).1
  obtain ⟨y', hy', h1, h2⟩ := h.at_ i _ (List.getElem?_eq_getElem hi)
  rw [hy] at hy'
  cases hy'
  exact ⟨_, List.getElem?_eq_getElem hi, h1, h2⟩
theorem EntriesOf.empty (clock : Nat) : EntriesOf enc #[] clock [] := ⟨by simp, by simp, rfl, fun i x h => by simp at h⟩
theorem MapOf.made (w : World) : MapOf enc (w.alloc (.map #[] 0)) w.heap.size [] := ⟨#[], 0, heap_alloc_new w _, EntriesOf.empty 0⟩
theorem MapOf.lt (h : MapOf enc w b keys) : b < w.heap.size := by
  obtain ⟨es, clock, hb, _⟩ := h
  exact (Array.getElem?_eq_some_iff.1 hb).1
theorem MapOf.grown {w' : World} {row : Option Nat} (h : MapOf enc w b keys) (hg : w.grownBy w' row) (hne : row ≠ some b) : MapOf enc w' b keys := by
  have hlt := h.lt
  obtain ⟨es, clock, hb, H⟩ := h
  exact ⟨es, clock, (hg.block b hlt (Ne.symm hne)).trans hb, H⟩
theorem MapOf.below {w' : World} (h : MapOf enc w b keys) (hb : Below w.heap.size w w') : MapOf enc w' b keys := h.grown (grown_of_below hb) (by simp)
theorem MapOf.ne_cells {g : Nat} {cs : Array Value} {ty : TypeId} {fz : Nat × Nat} (h : MapOf enc w b keys) (hg : w.heap[g]? = some (.cells cs ty fz)) : g ≠ b := by
  obtain ⟨es, clock, hb, _⟩ := h
  intro e
  subst e
  rw [hb] at hg
  cases hg
/-- What 'find' finds. -/
theorem EntriesOf.find [DecidableEq κ] {Ok : κ → Prop} (G : GoodKeys P k enc Ok) {es : Array MapEntry} {clock : Nat} (h : EntriesOf enc es clock keys) (hok : ∀ x ∈ keys, Ok x) {x : κ} (hx : Ok x) (hnd : keys.Nodup) :
    (x ∉ keys → (Instr.findKey k (enc x) es.toList).run P w = .ok none w) ∧ (x ∈ keys → ∃ j, (Instr.findKey k (enc x) es.toList).run P w = .ok (some (j, .int .i64 (ix keys x))) w) := by
  obtain ⟨l, hl⟩ := G.reads x hx
  have hall : ∀ y ∈ es.toList, ∃ l, Go.keyOf P k y.key = some l := fun y hy => by
    obtain ⟨i, hi⟩ := List.getElem?_of_mem hy
    obtain ⟨z, hz, h1, _⟩ := h.back hi
    obtain ⟨l', hl'⟩ := G.reads z (hok z (List.mem_of_getElem? hz))
    exact ⟨l', by rw [h1]; exact hl'⟩
  rcases G.law.find w hl es.toList hall with ⟨h1, h2⟩ | ⟨j, y, h1, h2, h3⟩
  · refine ⟨fun _ => h1, fun hm => ?_⟩
    obtain ⟨i, hi⟩ := List.getElem?_of_mem hm
    obtain ⟨y, hy, h3, _⟩ := h.at_ i x hi
    exact absurd h3 (h2 y (List.mem_of_getElem? hy))
  · obtain ⟨z, hz, h4, h5⟩ := h.back h2
    have hzk := List.mem_of_getElem? hz
    have e1 : z = x := G.inj z x (hok z hzk) hx (h4.symm.trans h3)
    subst e1
    refine ⟨fun hn => absurd hzk hn, fun _ => ⟨j, ?_⟩⟩
    rw [h1, h5, idxOf_get hnd hz]
theorem MapOf.look_no [DecidableEq κ] {Ok : κ → Prop} (G : GoodKeys P k enc Ok) (ht : P.underlying t = some (.map k e)) (h : MapOf enc w b keys) (hz : (zeroValue e).run P w = .ok (.int .i64 0) w) (hok : ∀ x ∈ keys, Ok x) {x : κ} (hx : Ok x) (hnd : keys.Nodup) (hn : x ∉ keys) :
    (Instr.lookup t (.map (some b)) (enc x) true).run P w = .ok (.tuple #[.int .i64 0, .bool false]) w := by
  obtain ⟨l, hl⟩ := G.reads x hx
  obtain ⟨es, clock, hb, H⟩ := h
  have h1 := (H.find G (w := w) hok hx hnd).1 hn
  simp [Instr.lookup, run_underlying ht, MapKept.run_getObj_map hb, G.law.check w _ hl, h1, hz, Result.andThen]
theorem MapOf.look_yes [DecidableEq κ] {Ok : κ → Prop} (G : GoodKeys P k enc Ok) (ht : P.underlying t = some (.map k e)) (h : MapOf enc w b keys) (hok : ∀ x ∈ keys, Ok x) {x : κ} (hx : Ok x) (hnd : keys.Nodup) (hn : x ∈ keys) :
    (Instr.lookup t (.map (some b)) (enc x) true).run P w = .ok (.tuple #[.int .i64 (ix keys x), .bool true]) w := by
  obtain ⟨l, hl⟩ := G.reads x hx
  obtain ⟨es, clock, hb, H⟩ := h
  obtain ⟨j, h1⟩ := (H.find G (w := w) hok hx hnd).2 hn
  simp [Instr.lookup, run_underlying ht, MapKept.run_getObj_map hb, G.law.check w _ hl, h1, Result.andThen]
theorem MapOf.store [DecidableEq κ] {Ok : κ → Prop} (G : GoodKeys P k enc Ok) (ht : P.underlying t = some (.map k e)) (h : MapOf enc w b keys) (hok : ∀ x ∈ keys, Ok x) {x : κ} (hx : Ok x) (hnd : keys.Nodup) (hn : x ∉ keys) :
    ∃ w', (Instr.mapUpdate t (.map (some b)) (enc x) (.int .i64 keys.length)).run P w = .ok () w' ∧ MapOf enc w' b (keys ++ [x]) ∧ w.grownBy w' (some b) := by
  obtain ⟨l, hl⟩ := G.reads x hx
  obtain ⟨es, clock, hb, H⟩ := h
  have h1 := (H.find G (w := w) hok hx hnd).1 hn
  refine ⟨setBlock w b (.map (es.push ⟨enc x, .int .i64 keys.length, clock⟩) (clock + 1)), ?_, ⟨_, _, heap_setBlock_same hb _, ?_⟩, ⟨rfl, rfl, rfl, by simp [setBlock], fun i _ hi => heap_setBlock_other hb _ (fun e => hi (by rw [e]))⟩⟩
  · simp [Instr.mapUpdate, run_underlying ht, MapKept.run_getObj_map hb, G.law.check w false hl, h1, MapKept.run_setObj_map _ hb, Result.andThen, setBlock]
  · refine ⟨fun y hy => ?_, ?_, ?_, fun i y hy => ?_⟩
    · simp only [Array.toList_push, List.mem_append, List.mem_singleton] at hy
      rcases hy with hy | rfl
      · have := H.old y hy
        omega
      · exact Nat.lt_succ_self _
    · rw [Array.toList_push, List.map_append, List.nodup_append]
      refine ⟨H.born, by simp, fun a ha c hc => ?_⟩
      obtain ⟨y, hy, rfl⟩ := List.mem_map.1 ha
      have := H.old y hy
      simp at hc
      subst hc
      omega
    · rw [Array.toList_push, List.length_append, List.length_append, H.len]
      rfl
    · rw [Array.toList_push]
      by_cases hi : i < keys.length
      · rw [List.getElem?_append_left hi] at hy
        obtain ⟨z, hz, h2⟩ := H.at_ i y hy
        exact ⟨z, by rw [List.getElem?_append_left (by rw [H.len]; exact hi)]; exact hz, h2⟩
      · have hi' := (List.getElem?_eq_some_iff.1 hy).1
        simp at hi'
        have : i = keys.length := by omega
        subst this
        simp at hy
        subst hy
        exact ⟨⟨enc x, .int .i64 keys.length, clock⟩, by rw [List.getElem?_append_right (by rw [H.len]; exact Nat.le_refl _), H.len]; simp, rfl, rfl⟩
theorem MapOf.clear_ (ht : P.underlying t = some (.map k e)) (h : MapOf enc w b keys) (ty : TypeId) :
    ∃ w', (Builtin.clear_ #[t] ty #[.map (some b)]).run P w = .ok (.tuple #[]) w' ∧ MapOf enc w' b [] ∧ w.grownBy w' (some b) := by
  obtain ⟨es, clock, hb, H⟩ := h
  refine ⟨setBlock w b (.map #[] clock), ?_, ⟨_, _, heap_setBlock_same hb _, EntriesOf.empty clock⟩, ⟨rfl, rfl, rfl, by simp [setBlock], fun i _ hi => heap_setBlock_other hb _ (fun e => hi (by rw [e]))⟩⟩
  simp [Builtin.clear_, run_underlying ht, MapKept.run_getObj_map hb, MapKept.run_setObj_map _ hb, Result.andThen, setBlock]
theorem MapOf.len_ (ht : P.underlying t = some (.map k e)) (h : MapOf enc w b keys) (ty : TypeId) : (Builtin.len_ #[t] ty #[.map (some b)]).run P w = .ok (.int .i64 keys.length) w := by
  obtain ⟨es, clock, hb, H⟩ := h
  have h1 : es.size = keys.length := by rw [← H.len]; simp
  simp [Builtin.len_, run_underlying ht, MapKept.run_getObj_map hb, goInt, h1]
end
/-! ### at the operation -/
section
variable {κ : Type} {enc : κ → Value} {P : Program} {k e : TypeId} (w : World) {b : Nat} {keys : List κ} {ops : Array Oper} {rest : List Oper} {o : Oper} {a : Act} {Q : Exit → Act → World → Prop} {Ok : κ → Prop}
theorem wpList_look_no [DecidableEq κ] (hg : o.guard = none) (m x : Operand) (t : TypeId) (hop : o.op = Op.lookup t m x true) (G : GoodKeys P k enc Ok) (ht : P.underlying t = some (.map k e)) (hz : (zeroValue e).run P w = .ok (.int .i64 0) w)
    (hm : a.eval m = .map (some b)) (h : MapOf enc w b keys) (hok : ∀ x ∈ keys, Ok x) (hnd : keys.Nodup) (y : κ) (hx : a.eval x = enc y) (hy : Ok y) (hn : y ∉ keys)
    (hK : wpList P ops Q rest (a.put o.dst (.tuple #[.int .i64 0, .bool false])) w) : wpList P ops Q (o :: rest) a w := by
  refine wpList_plain hg fun K' hK' => ?_
  have hrun := h.look_no G ht hz hok hy hnd hn
  unfold Oper.wp
  simp [execOp, hop, hm, hx, hrun, Result.andThen]
  exact hK' _ _ hK
theorem wpList_look_yes [DecidableEq κ] (hg : o.guard = none) (m x : Operand) (t : TypeId) (hop : o.op = Op.lookup t m x true) (G : GoodKeys P k enc Ok) (ht : P.underlying t = some (.map k e))
    (hm : a.eval m = .map (some b)) (h : MapOf enc w b keys) (hok : ∀ x ∈ keys, Ok x) (hnd : keys.Nodup) (y : κ) (hx : a.eval x = enc y) (hy : Ok y) (hn : y ∈ keys)
    (hK : wpList P ops Q rest (a.put o.dst (.tuple #[.int .i64 (ix keys y), .bool true])) w) : wpList P ops Q (o :: rest) a w := by
  refine wpList_plain hg fun K' hK' => ?_
  have hrun := h.look_yes G ht hok hy hnd hn
  unfold Oper.wp
  simp [execOp, hop, hm, hx, hrun, Result.andThen]
  exact hK' _ _ hK
theorem wpList_store_new [DecidableEq κ] (hg : o.guard = none) (m x v : Operand) (t : TypeId) (hop : o.op = Op.mapUpdate t m x v) (G : GoodKeys P k enc Ok) (ht : P.underlying t = some (.map k e))
    (hm : a.eval m = .map (some b)) (h : MapOf enc w b keys) (hok : ∀ x ∈ keys, Ok x) (hnd : keys.Nodup) (y : κ) (hx : a.eval x = enc y) (hv : a.eval v = .int .i64 keys.length) (hy : Ok y) (hn : y ∉ keys)
    (hK : ∀ w', MapOf enc w' b (keys ++ [y]) → w.grownBy w' (some b) → wpList P ops Q rest (a.put o.dst undef) w') : wpList P ops Q (o :: rest) a w := by
  refine wpList_plain hg fun K' hK' => ?_
  obtain ⟨w', hrun, r1, r2⟩ := h.store G ht hok hy hnd hn
  unfold Oper.wp
  simp [execOp, hop, hm, hx, hv, hrun, Result.andThen]
  exact hK' _ _ (hK w' r1 r2)
theorem wpList_clear (hg : o.guard = none) (m : Operand) (t : TypeId) (hop : o.op = Op.call { callee := Callee.builtin Builtin.clear, args := #[m], argTypes := #[t] }) (ht : P.underlying t = some (.map k e))
    (hm : a.eval m = .map (some b)) (h : MapOf enc w b keys) (hK : ∀ w', MapOf enc w' b [] → w.grownBy w' (some b) → wpList P ops Q rest (a.put o.dst (.tuple #[])) w') : wpList P ops Q (o :: rest) a w := by
  refine wpList_plain hg fun K' hK' => ?_
  obtain ⟨w', hrun, r1, r2⟩ := h.clear_ ht o.type
  unfold Oper.wp
  simp [execOp, hop, resolve, invoke, builtin, hm, hrun, Result.andThen]
  exact hK' _ _ (hK w' r1 r2)
theorem wpList_maplen (hg : o.guard = none) (m : Operand) (t : TypeId) (hop : o.op = Op.call { callee := Callee.builtin Builtin.len, args := #[m], argTypes := #[t] }) (ht : P.underlying t = some (.map k e))
    (hm : a.eval m = .map (some b)) (h : MapOf enc w b keys) (hK : wpList P ops Q rest (a.put o.dst (.int .i64 keys.length)) w) : wpList P ops Q (o :: rest) a w := by
  refine wpList_plain hg fun K' hK' => ?_
  have hrun := h.len_ ht o.type
  unfold Oper.wp
  simp [execOp, hop, resolve, invoke, builtin, hm, hrun, Result.andThen]
  exact hK' _ _ hK
end
/-! ### a range over the map -/
section
variable {κ : Type} {enc : κ → Value} {P : Program} {k e t : TypeId} {w : World} {b r : Nat} {keys : List κ} {dn : Nat → Bool} {cnt : Nat}
/-- Block r is an iterator over the map b: the keys i with 'dn i' have come, cnt are left. -/
def RangeOf (enc : κ → Value) (w : World) (b r : Nat) (keys : List κ) (dn : Nat → Bool) (cnt : Nat) : Prop :=
  ∃ es clock since seen c0, w.heap[b]? = some (.map es clock) ∧ EntriesOf enc es clock keys ∧ w.heap[r]? = some (.mapIter (some b) since seen c0) ∧ (∀ x ∈ es.toList, x.born < since) ∧ cnt = (leftOf es seen).size ∧ since ≤ c0 ∧ since ≤ clock ∧ ∀ i y, es.toList[i]? = some y → seen.contains y.born = dn i
theorem RangeOf.map_ (h : RangeOf enc w b r keys dn cnt) : MapOf enc w b keys := by
  obtain ⟨es, clock, since, seen, c0, hb, H, _⟩ := h
  exact ⟨es, clock, hb, H⟩
theorem RangeOf.lt (h : RangeOf enc w b r keys dn cnt) : r < w.heap.size := by
  obtain ⟨es, clock, since, seen, c0, hb, H, hr, _⟩ := h
  exact (Array.getElem?_eq_some_iff.1 hr).1
theorem RangeOf.grown {w' : World} {row : Option Nat} (h : RangeOf enc w b r keys dn cnt) (hg : w.grownBy w' row) (h1 : row ≠ some b) (h2 : row ≠ some r) : RangeOf enc w' b r keys dn cnt := by
  have l1 := h.map_.lt
  have l2 := h.lt
  obtain ⟨es, clock, since, seen, c0, hb, H, hr, R⟩ := h
  exact ⟨es, clock, since, seen, c0, (hg.block b l1 (Ne.symm h1)).trans hb, H, (hg.block r l2 (Ne.symm h2)).trans hr, R⟩
theorem RangeOf.below {w' : World} (h : RangeOf enc w b r keys dn cnt) (hb : Below w.heap.size w w') : RangeOf enc w' b r keys dn cnt := h.grown (grown_of_below hb) (by simp) (by simp)
theorem RangeOf.ne_cells {g : Nat} {cs : Array Value} {ty : TypeId} {fz : Nat × Nat} (h : RangeOf enc w b r keys dn cnt) (hg : w.heap[g]? = some (.cells cs ty fz)) : g ≠ b ∧ g ≠ r := by
  refine ⟨h.map_.ne_cells hg, ?_⟩
  obtain ⟨es, clock, since, seen, c0, hb, H, hr, _⟩ := h
  intro e
  subst e
  rw [hr] at hg
  cases hg
theorem MapOf.range_ (ht : P.underlying t = some (.map k e)) (h : MapOf enc w b keys) :
    ∃ w', (Instr.range t (.map (some b))).run P w = .ok (.pointer (some ⟨w.heap.size, 0, none⟩)) w' ∧ RangeOf enc w' b w.heap.size keys (fun _ => false) keys.length ∧ w.grownBy w' none ∧ w'.heap.size = w.heap.size + 1 := by
  have hlt := h.lt
  obtain ⟨es, clock, hb, H⟩ := h
  refine ⟨_, run_range_map w t k e b es clock ht hb, ⟨es, clock, clock, #[], clock, ((MapKept.heap_alloc w _).2 b hlt).trans hb, H, (MapKept.heap_alloc w _).1, H.old, ?_, Nat.le_refl _, Nat.le_refl _, fun i y _ => by simp⟩, World.grownBy_alloc w _ none, by simp⟩
  rw [← H.len]
  have h1 : es.filter (fun e => !(#[] : Array Nat).contains e.born) = es := Array.filter_eq_self.2 (fun x _ => by simp)
  rw [leftOf, h1]
  simp
theorem RangeOf.next_ (h : RangeOf enc w b r keys dn cnt) (ty : TypeId) :
    (cnt = 0 ∧ (∀ i < keys.length, dn i = true) ∧ (Instr.next (.pointer (some ⟨r, 0, none⟩)) false ty).run P w = .ok (.tuple #[.bool false]) w) ∨
    ∃ i x w' cnt', keys[i]? = some x ∧ dn i = false ∧ (Instr.next (.pointer (some ⟨r, 0, none⟩)) false ty).run P w = .ok (.tuple #[.bool true, enc x, .int .i64 i]) w' ∧
      RangeOf enc w' b r keys (fun j => dn j || j == i) cnt' ∧ cnt' < cnt ∧ w.grownBy w' (some r) ∧ w'.heap.size = w.heap.size ∧ (Instr.entry (.pointer (some ⟨r, 0, none⟩))).run P w' = .ok (.tuple #[enc x, .int .i64 i]) w' := by
  obtain ⟨es, clock, since, seen, c0, hb, H, hr, hold, rfl, hsc, hsk, hdn⟩ := h
  have hne : r ≠ b := fun e => by
    subst e
    rw [hb] at hr
    cases hr
  rcases run_next_at (P := P) w ty r b since c0 seen es clock hr hb hold hsc with ⟨h0, hrun⟩ | ⟨y, he, w1, hal, hrun⟩
  · refine .inl ⟨h0, fun i hi => ?_, hrun⟩
    obtain ⟨y, hy, _⟩ := H.at_ i _ (List.getElem?_eq_getElem hi)
    rw [← hdn i y hy]
    exact all_seen es seen h0 y (List.mem_of_getElem? hy)
  · obtain ⟨hem, hes⟩ := mem_left he
    obtain ⟨i, hi⟩ := List.getElem?_of_mem hem
    obtain ⟨x, hx, hk, hv⟩ := H.back hi
    have hr1 : w1.heap[r]? = some (.mapIter (some b) since seen c0) := by rcases hal with rfl | rfl <;> exact hr
    have hb1 : w1.heap[b]? = some (.map es clock) := by rcases hal with rfl | rfl <;> exact hb
    have hset := heap_set (o' := .mapIter (some b) since (seen.push y.born) clock) hr1
    have hb' : (setBlock w1 r (.mapIter (some b) since (seen.push y.born) clock)).heap[b]? = some (.map es clock) := (hset.2 b (fun e1 => hne e1.symm)).trans hb1
    rw [hk, hv] at hrun
    have hent := run_entry_at (P := P) _ r b since seen es clock y hset.1 hb' hem H.born
    rw [hk, hv] at hent
    refine .inr ⟨i, x, _, _, hx, by rw [← hdn i y hi]; exact hes, hrun, ⟨es, clock, since, seen.push y.born, clock, hb', H, hset.1, hold, rfl, hsk, hsk, fun j z hz => ?_⟩, left_shrinks es seen y he, ?_, ?_, hent⟩
    · rw [contains_push, hdn j z hz]
      congr 1
      by_cases e : j = i
      · subst e
        rw [hi] at hz
        cases hz
        simp
      · have h1 : (j == i) = false := by simpa using e
        rw [h1]
        simp only [beq_eq_false_iff_ne, ne_eq]
        intro e2
        have hj := (List.getElem?_eq_some_iff.1 hz).1
        have hi' := (List.getElem?_eq_some_iff.1 hi).1
        have g1 : (es.toList.map (·.born))[j]? = some z.born := by rw [List.getElem?_map, hz]; rfl
        have g2 : (es.toList.map (·.born))[i]? = some y.born := by rw [List.getElem?_map, hi]; rfl
        rw [e2] at g1
        exact e ((idxOf_get H.born g1).symm.trans (idxOf_get H.born g2))
    · rcases hal with rfl | rfl <;> exact ⟨rfl, rfl, rfl, by simp [setBlock], fun i _ hi => hset.2 i (fun e1 => hi (by rw [e1]))⟩
    · rcases hal with rfl | rfl <;> simp [setBlock]
theorem wpList_range_k (w : World) {ops : Array Oper} {rest : List Oper} {o : Oper} {a : Act} {Q : Exit → Act → World → Prop} (hg : o.guard = none) (m : Operand) (t : TypeId) (hop : o.op = Op.range t m) (ht : P.underlying t = some (.map k e))
    (hm : a.eval m = .map (some b)) (h : MapOf enc w b keys)
    (hK : ∀ w', RangeOf enc w' b w.heap.size keys (fun _ => false) keys.length → w.grownBy w' none → w'.heap.size = w.heap.size + 1 → wpList P ops Q rest (a.put o.dst (.pointer (some ⟨w.heap.size, 0, none⟩))) w') : wpList P ops Q (o :: rest) a w := by
  refine wpList_plain hg fun K' hK' => ?_
  obtain ⟨w', hrun, r1, r2, r3⟩ := h.range_ ht
  unfold Oper.wp
  simp [execOp, hop, hm, hrun, Result.andThen]
  exact hK' _ _ (hK w' r1 r2 r3)
theorem wpList_next_k (w : World) {ops : Array Oper} {rest : List Oper} {o : Oper} {a : Act} {Q : Exit → Act → World → Prop} (hg : o.guard = none) (it : Operand) (hop : o.op = Op.next it false)
    (hit : a.eval it = .pointer (some ⟨r, 0, none⟩)) (h : RangeOf enc w b r keys dn cnt)
    (hDone : cnt = 0 → (∀ i < keys.length, dn i = true) → wpList P ops Q rest (a.put o.dst (.tuple #[.bool false])) w)
    (hMore : ∀ (i : Nat) (x : κ) (w' : World) (cnt' : Nat), keys[i]? = some x → dn i = false → RangeOf enc w' b r keys (fun j => dn j || j == i) cnt' → cnt' < cnt → w.grownBy w' (some r) → w'.heap.size = w.heap.size →
      (Instr.entry (.pointer (some ⟨r, 0, none⟩))).run P w' = .ok (.tuple #[enc x, .int .i64 i]) w' → wpList P ops Q rest (a.put o.dst (.tuple #[.bool true, enc x, .int .i64 i])) w') : wpList P ops Q (o :: rest) a w := by
  refine wpList_plain hg fun K' hK' => ?_
  unfold Oper.wp
  rcases h.next_ (P := P) o.type with ⟨h0, hl, hrun⟩ | ⟨i, x, w', cnt', hx, hd, hrun, hrg, hlt, hgr, hsz, hen⟩
  · simp [execOp, hop, hit, hrun, Result.andThen]
    exact hK' _ _ (hDone h0 hl)
  · simp [execOp, hop, hit, hrun, Result.andThen]
    exact hK' _ _ (hMore i x w' cnt' hx hd hrg hlt hgr hsz hen)
end
end Go.Proofs.Ythnmighlgifoeaa.Plain
