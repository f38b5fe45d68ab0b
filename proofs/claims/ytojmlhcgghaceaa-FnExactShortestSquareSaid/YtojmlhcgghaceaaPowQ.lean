/- Slices of structs whose fields are ints: what it is that the call owns one; what stays of it where other blocks turn, where an element is appended or a field written. No conditions beyond those that each fact states. -/
import Derived.Test.YtojmlhcgghaceaaSeqs3
import Derived.Test.YtojmlhcgghaceaaCellsN2
namespace Go.Proofs.Ytojmlhcgghaceaa.Plain
open Go.RowKit
set_option linter.unusedVariables false
/-- The cells of such a slice, row by row. -/
def flatT (L : List (List Int)) : List Value := L.flatMap fun x => x.map (Value.int .i64)
theorem flatT_cons (x : List Int) (L : List (List Int)) : flatT (x :: L) = x.map (Value.int .i64) ++ flatT L := rfl
theorem flatT_append (L M : List (List Int)) : flatT (L ++ M) = flatT L ++ flatT M := by simp [flatT]
theorem flatT_one (x : List Int) : flatT [x] = x.map (Value.int .i64) := by simp [flatT]
theorem flatT_len {k : Nat} : ∀ L : List (List Int), (∀ x ∈ L, x.length = k) → (flatT L).length = L.length * k
  | [], _ => by simp [flatT]
  | x :: L, h => by
    rw [flatT_cons, List.length_append, List.length_map, h x (by simp), flatT_len L fun y hy => h y (by simp [hy]), List.length_cons, Nat.succ_mul]
    omega
theorem flatT_get {k : Nat} : ∀ (L : List (List Int)) (i j : Nat) (x : List Int) (y : Int), (∀ x ∈ L, x.length = k) → L[i]? = some x → x[j]? = some y → (flatT L)[i * k + j]? = some (.int .i64 y)
  | [], i, j, x, y, _, h, _ => by simp at h
  | z :: L, 0, j, x, y, hk, h, hy => by
    obtain rfl : z = x := by simpa using h
    have hj := (List.getElem?_eq_some_iff.1 hy).1
    rw [flatT_cons, Nat.zero_mul, Nat.zero_add, List.getElem?_append_left (by rw [List.length_map]; exact hj), List.getElem?_map, hy]
    rfl
  | z :: L, i + 1, j, x, y, hk, h, hy => by
    have hz := hk z (by simp)
    rw [flatT_cons, List.getElem?_append_right (by rw [List.length_map, Nat.succ_mul]; omega), List.length_map, hz, show (i + 1) * k + j - k = i * k + j from by rw [Nat.succ_mul]; omega]
    exact flatT_get L i j x y (fun q hq => hk q (by simp [hq])) (by simpa using h) hy
theorem flatT_set {k : Nat} : ∀ (L : List (List Int)) (i j : Nat) (x : List Int) (y : Int), (∀ x ∈ L, x.length = k) → L[i]? = some x → j < k → (flatT L).set (i * k + j) (.int .i64 y) = flatT (L.set i (x.set j y))
  | [], i, j, x, y, _, h, _ => by simp at h
  | z :: L, 0, j, x, y, hk, h, hj => by
    obtain rfl : z = x := by simpa using h
    have hz := hk z (by simp)
    rw [flatT_cons, Nat.zero_mul, Nat.zero_add, List.set_append_left _ _ (by rw [List.length_map]; omega), List.set_cons_zero, flatT_cons, List.map_set]
  | z :: L, i + 1, j, x, y, hk, h, hj => by
    have hz := hk z (by simp)
    rw [flatT_cons, List.set_append_right _ _ (by rw [List.length_map, Nat.succ_mul]; omega), List.length_map, hz, show (i + 1) * k + j - k = i * k + j from by rw [Nat.succ_mul]; omega, List.set_cons_succ, flatT_cons,
      flatT_set L i j x y (fun q hq => hk q (by simp [hq])) (by simpa using h) hj]
/-- The slice v of structs is the call's own, from block base on. -/
def OwnT (e : TypeId) (k : Nat) (w : World) (base : Nat) (v : Value) (L : List (List Int)) : Prop := w.ownsRow base e k v L.length (flatT L) ∧ ∀ x ∈ L, x.length = k
section
variable {e : TypeId} {k : Nat} {w w' : World} {base : Nat} {v : Value} {L : List (List Int)}
theorem OwnT.form (h : OwnT e k w base v L) : ∃ a c, v = .slice a L.length c ∧ (0 < L.length → ∃ g, a = some ⟨g, 0, none⟩) := by
  rcases h.1.2 with ⟨rfl, h1⟩ | ⟨g, c, cur, rfl, hb, hc, _⟩
  · exact ⟨none, 0, by rw [h1], fun h => by omega⟩
  · exact ⟨_, c, rfl, fun _ => ⟨g, rfl⟩⟩
theorem OwnT.small (h : OwnT e k w base v L) : L.length ≤ 9223372036854775807 := by
  rcases h.1.2 with ⟨rfl, hn⟩ | ⟨g, cap, cur, rfl, _, _, hc, hm, _⟩
  · omega
  · unfold maxLen at hm; omega
theorem OwnT.cell {g c : Nat} (h : OwnT e k w base (.slice (some ⟨g, 0, none⟩) L.length c) L) {i j : Nat} {x : List Int} {y : Int} (hi : L[i]? = some x) (hj : x[j]? = some y) : w.cell? ⟨g, i * k + j, none⟩ = some (.int .i64 y) := by
  have hl := (List.getElem?_eq_some_iff.1 hi).1
  have hjl := (List.getElem?_eq_some_iff.1 hj).1
  have hx := h.2 x (List.mem_of_getElem? hi)
  have h2 : i * k + k ≤ L.length * k := by rw [← Nat.succ_mul]; exact Nat.mul_le_mul_right _ hl
  exact (h.1.cellAt (i * k + j) (by omega)).trans (flatT_get L i j x y h.2 hi hj)
theorem OwnT.kept {r : Option Nat} (h : OwnT e k w base v L) (hg : w.grownBy w' r) (hn : v.ownBlock = none ∨ v.ownBlock ≠ r) : OwnT e k w' base v L := ⟨World.ownsRow.kept h.1 hg hn, h.2⟩
theorem OwnT.below (h : OwnT e k w base v L) (hb : Below w.heap.size w w') : OwnT e k w' base v L :=
  h.kept (grown_of_below hb) (by
    cases hv : v.ownBlock with
    | none => exact .inl rfl
    | some q => exact .inr (by simp))
theorem OwnT.mono {base' : Nat} (h : OwnT e k w base v L) (hb : base' ≤ base) : OwnT e k w base' v L := ⟨⟨h.1.1, h.1.2.imp id fun ⟨g, cap, cur, h1, h2, r⟩ => ⟨g, cap, cur, h1, Nat.le_trans hb h2, r⟩⟩, h.2⟩
theorem OwnT.lt (h : OwnT e k w base v L) : ∀ q, v.ownBlock = some q → base ≤ q ∧ q < w.heap.size := World.ownsRow.lt h.1
theorem OwnT.nil (w : World) (base : Nat) : OwnT e k w base (.slice none 0 0) [] := ⟨World.ownsRow_nil _ _ _ _, fun x hx => by cases hx⟩
theorem OwnT.lit0 (w : World) (hb : base ≤ w.heap.size) : OwnT e k (w.alloc (.cells #[] e)) base (.slice (some ⟨w.heap.size, 0, none⟩) 0 0) [] :=
  ⟨⟨by simp [flatT], .inr ⟨w.heap.size, 0, #[], rfl, hb, heap_alloc_new w _, Nat.le_refl _, by unfold maxLen; omega, by simp, by simp [flatT]⟩⟩, fun x hx => by cases hx⟩
/-- What is written into it touches nothing below. -/
theorem OwnT.frame {w0 : World} (h : OwnT e k w base v L) (hb : Below w0.heap.size w0 w) (hB : w0.heap.size ≤ base) (hg : w.grownBy w' v.ownBlock) : Below w0.heap.size w0 w' :=
  hb.grown hg hb.size (fun q hq => Nat.le_trans hB (h.lt q hq).1)
/-- A field is written. -/
theorem OwnT.write {g c i j : Nat} {x : List Int} (h : OwnT e k w base (.slice (some ⟨g, 0, none⟩) L.length c) L) (hq : L[i]? = some x) (hj : j < k) (y : Int) :
    OwnT e k (w.setCell ⟨g, i * k + j, none⟩ (.int .i64 y)) base (.slice (some ⟨g, 0, none⟩) L.length c) (L.set i (x.set j y)) ∧ w.grownBy (w.setCell ⟨g, i * k + j, none⟩ (.int .i64 y)) (some g) ∧ w.frozen? ⟨g, i * k + j, none⟩ = false := by
  have h2 := h.1.stored (i * k + j) (.int .i64 y)
  refine ⟨⟨?_, fun z hz => ?_⟩, h2.2, h.1.frozenAt (i * k + j)⟩
  · rw [List.length_set, ← flatT_set L i j x y h.2 hq hj]
    exact h2.1
  · rcases List.mem_or_eq_of_mem_set hz with hz | rfl
    · exact h.2 z hz
    · rw [List.length_set]; exact h.2 x (List.mem_of_getElem? hq)
end
/-- 'v = append(v, x)', the new value lying in a block that the statement has just laid. -/
theorem append_t {P : Program} {e : TypeId} {k : Nat} {wr : World} {base : Nat} {L : List (List Int)} {ops : Array Oper} {rest : List Oper} {o : Oper} {a : Act} {Q : Exit → Act → World → Prop} (hgd : o.guard = none) (s x : Operand) (t : TypeId)
    (ho : o.op = .call { callee := .builtin .append, args := #[s, x], argTypes := #[t, t] })
    (i : TypeInfo) (z : Value) (bytes : Nat) (ht : P.underlying t = some (.slice e)) (hi : P.info? e = some i) (hz : i.zero = some z)
    (hsize : i.size = k) (hby : i.bytes = bytes) (hzs : z.cells.size = k) (hk : 0 < k) (v : Value) (hs : a.eval s = v) (hown : OwnT e k wr base v L) (q : List Int) (hq : q.length = k) (g : Nat) (hx : a.eval x = .slice (some ⟨g, 0, none⟩) 1 1) (hgs : g = wr.heap.size)
    (C : Array Value) (hC : C = (q.map (Value.int .i64)).toArray) (hlen : L.length ≤ 100000) (hbs : bytes ≤ 1000) (hb : base ≤ wr.heap.size)
    (h : ∀ v' w', OwnT e k w' base v' (L ++ [q]) → wr.grownBy w' v.ownBlock → wpList P ops Q rest (a.put o.dst v') w') :
    wpList P ops Q (o :: rest) a (wr.alloc (.cells C e)) := by
  subst hgs; subst hC
  have hal : Below wr.heap.size wr (wr.alloc (.cells (q.map (Value.int .i64)).toArray e)) := (Below.refl _ _).alloc (Nat.le_refl _) _
  have hbb : (L.length + 1) * bytes ≤ 100001 * 1000 := Nat.mul_le_mul (by omega) hbs
  refine wpList_append_own _ hgd s x t ho base e i z k bytes ht hi hz hsize hby hzs hk v L.length (flatT L) hs (hown.below hal).1 ⟨wr.heap.size, 0, none⟩ 1 1 (flatT [q]) hx (by rw [flatT_one, List.length_map, hq, Nat.one_mul]) (fun j u hj => ?_) (fun u hu => ?_) (by unfold maxLen; omega) (by omega) (by simp; omega) ?_
  · rw [addr_add]
    rw [flatT_one] at hj
    exact (CellsN.new wr e (q.map (Value.int .i64))).at_ hj
  · rw [flatT_one] at hu
    obtain ⟨y, _, rfl⟩ := List.mem_map.1 hu
    rfl
  · intro v' w' ho' hg' _
    refine h v' w' ⟨?_, fun y hy => ?_⟩ (grown_alloc hg')
    · rw [List.length_append, flatT_append]
      exact ho'
    · rcases List.mem_append.1 hy with hy | hy
      · exact hown.2 y hy
      · rw [List.mem_singleton.1 hy]; exact hq
/-- Such a slice in one interval of blocks. -/
def PS (e : TypeId) (k : Nat) (w : World) (lo hi : Nat) (v : Value) (L : List (List Int)) : Prop := OwnT e k w lo v L ∧ (∀ q, v.ownBlock = some q → q < hi) ∧ hi ≤ w.heap.size
section
variable {e : TypeId} {k : Nat} {w w' : World} {lo hi : Nat} {v : Value} {L : List (List Int)}
theorem PS.lies (h : PS e k w lo hi v L) : ∃ lo hi, PS e k w lo hi v L := ⟨lo, hi, h⟩
theorem PS.below (h : PS e k w lo hi v L) (hb : Below w.heap.size w w') : PS e k w' lo hi v L := ⟨h.1.below hb, h.2.1, Nat.le_trans h.2.2 hb.size⟩
theorem PS.touch {lo' hi' : Nat} (h : PS e k w lo hi v L) (ht : Plain.Touch lo' hi' w w') (hd : hi ≤ lo' ∨ hi' ≤ lo) : PS e k w' lo hi v L := by
  refine ⟨⟨⟨h.1.1.1, ?_⟩, h.1.2⟩, h.2.1, Nat.le_trans h.2.2 ht.size⟩
  rcases h.1.1.2 with h7 | ⟨g, cap, cur, hv, hg, hc, r⟩
  · exact .inl h7
  · refine .inr ⟨g, cap, cur, hv, hg, ?_, r⟩
    have hgh := h.2.1 g (by rw [hv]; rfl)
    have hgw : g < w.heap.size := (Array.getElem?_eq_some_iff.1 hc).1
    rw [← hc]
    exact ht.block g (by omega) (by omega)
theorem PS.form (h : PS e k w lo hi v L) : ∃ a c, v = .slice a L.length c := by
  obtain ⟨a, c, hv, _⟩ := h.1.form
  exact ⟨a, c, hv⟩
end
def GivesT (e : TypeId) (k : Nat) (L : List (List Int)) (w : World) (en : Ending) (w' : World) : Prop := ∃ v, en = .returned v ∧ PS e k w' w.heap.size w'.heap.size v L ∧ Below w.heap.size w w'
theorem GivesT.of {e : TypeId} {k : Nat} {L : List (List Int)} {w w' : World} {v : Value} (h : OwnT e k w' w.heap.size v L) (hb : Below w.heap.size w w') : GivesT e k L w (.returned v) w' := ⟨v, rfl, ⟨h, fun q hq => (h.lt q hq).2, Nat.le_refl _⟩, hb⟩
/-- The numbers that stand in it after it has been marked from m on. -/
def markT (k : Nat) (m : Int) (n : Nat) : List (List Int) := (List.range n).map fun i => (List.range k).map fun j => m + ((i * k + j : Nat) : Int)
theorem markT_len (k : Nat) (m : Int) (n : Nat) : (markT k m n).length = n := by simp [markT]
theorem markT_at {k i n : Nat} (m : Int) (h : i < n) : (markT k m n)[i]? = some ((List.range k).map fun j => m + ((i * k + j : Nat) : Int)) := by simp [markT, h]
theorem markT_step {k i n : Nat} {m : Int} {L : List (List Int)} {y : List Int} (hl : L.length = n) (h : i < n) (hy : y = (List.range k).map fun j => m + ((i * k + j : Nat) : Int)) : ((markT k m n).take i ++ L.drop i).set i y = (markT k m n).take (i + 1) ++ L.drop (i + 1) := by
  have h1 : i < (markT k m n).length := by rw [markT_len]; exact h
  have h2 : (markT k m n)[i] = y := by
    have := markT_at (k := k) m h
    rw [List.getElem?_eq_getElem h1] at this
    rw [hy]
    exact Option.some.inj this
  rw [List.drop_eq_getElem_cons (l := L) (by omega), List.take_succ_eq_append_getElem h1, h2, List.append_assoc]
  exact set_mid _ _ _ _ i (by rw [List.length_take]; omega)
end Go.Proofs.Ytojmlhcgghaceaa.Plain
