/- Several texts of this proof, one behind the other: each says ahead of it what it shows and under which conditions. -/
import Derived.Test.YtdgfecjakmdheaaKM1
import Derived.Maps.OwnOps
import Derived.Maps.OwnSet
import Derived.Maps.RangeWalk
import Derived.DeepKeys4
import Derived.Test.YtdgfecjakmdheaaKM2
import Derived.Deep.RegionHeld3
/- Plain facts on the model's way to the minimal form: a search over states that looks at their classes. No conditions beyond those that each fact states. -/
namespace Go.Proofs.Ytdgfecjakmdheaa.Plain
set_option linter.unusedVariables false
/-- A state's class. -/
def clsF (rows : List (List Int)) (out : List Int) (s : Int) : Int := (classes rows out).getD s.toNat 0
/-- The states of a search and their classes. -/
def Order (rows : List (List Int)) (out od L : List Int) : Prop := od.map (clsF rows out) = L ∧ ∀ x ∈ od, 0 ≤ x ∧ x < (rows.length : Int)
theorem order_start {rows : List (List Int)} {out : List Int} {n : Nat} (A : Auto rows out n) : Order rows out [0] (reachI (rowsQ rows out) 0) := by
  refine ⟨?_, fun x hx => ?_⟩
  · show [clsF rows out 0] = [0]
    rw [clsF]
    congr 1
    exact class_zero A
  · simp at hx
    subst hx
    have := A.closed.1
    omega
/-- What a round finds. -/
theorem order_round {rows : List (List Int)} {out od : List Int} {n i : Nat} (A : Auto rows out n) (h : Order rows out od (reachI (rowsQ rows out) i)) (hi : i < od.length) :
    ∃ (tn : Nat) (r : List Int) (o : Int), od[i]? = some (tn : Int) ∧ tn < rows.length ∧ rows[tn]? = some r ∧ out[tn]? = some o ∧ r.length = n ∧ (∀ y ∈ r, 0 ≤ y ∧ y < (rows.length : Int)) ∧
      (reached (rowsQ rows out))[i]? = some (clsF rows out tn) ∧ rowOf (rowsQ rows out) (clsF rows out tn) = r.map (clsF rows out) ∧ (outQ rows out).getD (clsF rows out tn).toNat 0 = o ∧ reachI (rowsQ rows out) (i + 1) = addAll (reachI (rowsQ rows out) i) (r.map (clsF rows out)) := by
  have h1 : od[i]? = some od[i] := List.getElem?_eq_getElem hi
  have h2 := h.2 _ (List.getElem_mem hi)
  obtain ⟨tn, htn⟩ : ∃ tn : Nat, (tn : Int) = od[i] := ⟨od[i].toNat, by omega⟩
  rw [← htn] at h1 h2
  have ht : tn < rows.length := by omega
  obtain ⟨r, hr⟩ : ∃ r, rows[tn]? = some r := ⟨_, List.getElem?_eq_getElem ht⟩
  obtain ⟨o, ho⟩ : ∃ o, out[tn]? = some o := ⟨_, List.getElem?_eq_getElem (by rw [A.terms]; exact ht)⟩
  have hq := rowsQ_at A ht
  have hL : (reachI (rowsQ rows out) i)[i]? = some (clsF rows out tn) := by
    rw [← h.1, List.getElem?_map, h1]
    rfl
  have hrD : rows.getD tn [] = r := by rw [List.getD_eq_getElem?_getD, hr]; rfl
  have hoD : out.getD tn 0 = o := by rw [List.getD_eq_getElem?_getD, ho]; rfl
  have hrow : rowOf (rowsQ rows out) (clsF rows out tn) = r.map (clsF rows out) := by
    rw [clsF, Int.toNat_natCast, hq.1, hrD]
    rfl
  refine ⟨tn, r, o, h1, ht, hr, ho, A.width r (List.mem_of_getElem? hr), A.closed.2 r (List.mem_of_getElem? hr), ?_, hrow, ?_, ?_⟩
  · obtain ⟨t, ht'⟩ := reachI_sub (rowsQ_auto A).closed i
    have hl := (List.getElem?_eq_some_iff.1 hL).1
    rw [← ht', List.getElem?_append_left hl]
    exact hL
  · rw [clsF, Int.toNat_natCast, hq.2, hoD]
  · rw [reachI_step hL, hrow]
/-- The classes that are found in the middle of a round. -/
def midL (rows : List (List Int)) (out : List Int) (i : Nat) (r : List Int) (k : Nat) : List Int := addAll (reachI (rowsQ rows out) i) ((r.take k).map (clsF rows out))
theorem midL_zero (rows : List (List Int)) (out : List Int) (i : Nat) (r : List Int) : midL rows out i r 0 = reachI (rowsQ rows out) i := rfl
theorem midL_succ {rows : List (List Int)} {out : List Int} {i k : Nat} {r : List Int} {y : Int} (h : r[k]? = some y) : midL rows out i r (k + 1) = addTo (midL rows out i r k) (clsF rows out y) := by
  obtain ⟨hk, rfl⟩ := List.getElem?_eq_some_iff.1 h
  rw [midL, List.take_succ_eq_append_getElem hk, List.map_append, List.map_singleton, addAll_snoc]
  rfl
theorem midL_end {rows : List (List Int)} {out : List Int} {i : Nat} {r : List Int} (h : reachI (rowsQ rows out) (i + 1) = addAll (reachI (rowsQ rows out) i) (r.map (clsF rows out))) : midL rows out i r r.length = reachI (rowsQ rows out) (i + 1) := by rw [midL, List.take_length, h]
theorem midL_sub {rows : List (List Int)} {out : List Int} {n i k : Nat} {r : List Int} (A : Auto rows out n) (h : reachI (rowsQ rows out) (i + 1) = addAll (reachI (rowsQ rows out) i) (r.map (clsF rows out))) : midL rows out i r k <+: reached (rowsQ rows out) := by
  refine List.IsPrefix.trans ?_ (reachI_sub (rowsQ_auto A).closed (i + 1))
  rw [h, midL]
  have e : (r.map (clsF rows out)) = (r.take k).map (clsF rows out) ++ (r.drop k).map (clsF rows out) := by rw [← List.map_append, List.take_append_drop]
  rw [e, addAll_append]
  exact addAll_prefix _ _
theorem midL_len {rows : List (List Int)} {out : List Int} {n i k : Nat} {r : List Int} (A : Auto rows out n) (h : reachI (rowsQ rows out) (i + 1) = addAll (reachI (rowsQ rows out) i) (r.map (clsF rows out))) : (midL rows out i r k).length ≤ rows.length := by
  have h1 := (midL_sub (k := k) A h).length_le
  have h2 := reached_len (rowsQ_auto A).closed
  have h3 := rowsQ_len rows out
  omega
theorem midL_nodup {rows : List (List Int)} {out : List Int} {n i k : Nat} {r : List Int} (A : Auto rows out n) : (midL rows out i r k).Nodup := addAll_nodup _ _ (reachI_ok (rowsQ_auto A).closed i).1
/-- A class that is there already. -/
theorem mid_old {rows : List (List Int)} {out : List Int} {n i k : Nat} {r : List Int} {y : Int} (A : Auto rows out n) (h : reachI (rowsQ rows out) (i + 1) = addAll (reachI (rowsQ rows out) i) (r.map (clsF rows out))) (hy : r[k]? = some y) (hc : clsF rows out y ∈ midL rows out i r k) :
    midL rows out i r (k + 1) = midL rows out i r k ∧ ix (reached (rowsQ rows out)) (clsF rows out y) = ix (midL rows out i r k) (clsF rows out y) :=
  ⟨by rw [midL_succ hy, addTo_in hc], idxOf_prefix (midL_sub A h) hc⟩
/-- A new class. -/
theorem mid_new {rows : List (List Int)} {out od : List Int} {n i k : Nat} {r : List Int} {y : Int} (A : Auto rows out n) (h : reachI (rowsQ rows out) (i + 1) = addAll (reachI (rowsQ rows out) i) (r.map (clsF rows out))) (hy : r[k]? = some y) (hc : clsF rows out y ∉ midL rows out i r k)
    (ho : Order rows out od (midL rows out i r k)) (hb : 0 ≤ y ∧ y < (rows.length : Int)) :
    Order rows out (od ++ [y]) (midL rows out i r (k + 1)) ∧ ix (reached (rowsQ rows out)) (clsF rows out y) = (midL rows out i r k).length := by
  have e : midL rows out i r (k + 1) = midL rows out i r k ++ [clsF rows out y] := by rw [midL_succ hy, addTo_new hc]
  refine ⟨⟨by rw [List.map_append, ho.1, e]; rfl, fun x hx => ?_⟩, ?_⟩
  · rcases List.mem_append.1 hx with hx | hx
    · exact ho.2 x hx
    · simp at hx
      subst hx
      exact hb
  · have hm : clsF rows out y ∈ midL rows out i r (k + 1) := by rw [e]; simp
    rw [idxOf_prefix (midL_sub A h) hm, e, ix, List.idxOf_append, if_neg hc]
    simp
/-- What the search for a class has found. -/
def FoundC (L : List Int) (c : Int) (k : Nat) (f : Int) : Prop := (f = -1 ∧ ∀ j < k, L[j]? ≠ some c) ∨ (0 ≤ f ∧ c ∈ L ∧ f = (ix L c : Int))
theorem foundC_yes {L : List Int} {c : Int} {k : Nat} (hn : L.Nodup) (h : L[k]? = some c) : FoundC L c (k + 1) (k : Int) :=
  .inr ⟨Int.natCast_nonneg _, List.mem_of_getElem? h, by rw [idxOf_get hn h]⟩
theorem foundC_no {L : List Int} {c x : Int} {k : Nat} {f : Int} (hf : FoundC L c k f) (h0 : f < 0) (h : L[k]? = some x) (hx : ¬ x = c) : FoundC L c (k + 1) f := by
  rcases hf with ⟨h1, h2⟩ | h1
  · refine .inl ⟨h1, fun j hj hje => ?_⟩
    by_cases e : j = k
    · subst e
      rw [h] at hje
      exact hx (Option.some.inj hje)
    · exact h2 j (by omega) hje
  · omega
theorem foundC_end {L : List Int} {c : Int} {k : Nat} {f : Int} (hf : FoundC L c k f) (he : k = L.length ∨ 0 ≤ f) (hk : k ≤ L.length) : (f = -1 ∧ c ∉ L) ∨ (0 ≤ f ∧ c ∈ L ∧ f = (ix L c : Int)) := by
  rcases hf with ⟨h1, h2⟩ | h1
  · refine .inl ⟨h1, fun hm => ?_⟩
    obtain ⟨j, hj⟩ := List.getElem?_of_mem hm
    have := (List.getElem?_eq_some_iff.1 hj).1
    exact h2 j (by omega) hj
  · exact .inr h1
/-- A row in the making. -/
def partR (rows : List (List Int)) (out r : List Int) (k : Nat) : List Int := (r.take k).map fun y => (ix (reached (rowsQ rows out)) (clsF rows out y) : Int)
theorem partR_succ {rows : List (List Int)} {out r : List Int} {k : Nat} {y : Int} (h : r[k]? = some y) : partR rows out r (k + 1) = partR rows out r k ++ [(ix (reached (rowsQ rows out)) (clsF rows out y) : Int)] := by
  obtain ⟨hk, rfl⟩ := List.getElem?_eq_some_iff.1 h
  rw [partR, List.take_succ_eq_append_getElem hk, List.map_append]
  rfl
theorem partR_len {rows : List (List Int)} {out r : List Int} {k : Nat} (h : k ≤ r.length) : (partR rows out r k).length = k := by simp [partR]; omega
theorem partR_end {rows : List (List Int)} {out r : List Int} {s : Int} (h : rowOf (rowsQ rows out) s = r.map (clsF rows out)) : partR rows out r r.length = minRow (rowsQ rows out) (reached (rowsQ rows out)) s := by
  rw [partR, List.take_length, minRow, h, List.map_map]
  rfl
theorem order_end {rows : List (List Int)} {out od : List Int} {n i : Nat} (A : Auto rows out n) (h : Order rows out od (reachI (rowsQ rows out) i)) (hi : ¬ i < od.length) (hl : i ≤ od.length) : i = (reached (rowsQ rows out)).length ∧ od.length = i := by
  have h1 : (reachI (rowsQ rows out) i).length = od.length := by rw [← h.1, List.length_map]
  have h2 := reachI_end (rowsQ_auto A).closed (i := i) (by omega)
  rw [← h2]
  omega
end Go.Proofs.Ytdgfecjakmdheaa.Plain
/- Laws for a map that the call itself makes and never hands out, told as the list of its keys: the i-th key that was stored leads to the number i. No conditions beyond those that each states. -/
namespace Go.Proofs.Ytdgfecjakmdheaa.Plain
open Go.RowKit Go.ChangeMaps Go.MapKept
open Go.Maps (Keyed)
set_option linter.unusedVariables false
section
variable {κ : Type} {enc : κ → Value} {P : Program} {k e t : TypeId} {w : World} {b : Nat} {keys : List κ}
/-- The entries are those of the keys, the i-th one leads to i. -/
structure EntriesOf (enc : κ → Value) (es : Array MapEntry) (clock : Nat) (keys : List κ) : Prop where
  old : ∀ x ∈ es.toList, x.born < clock
  born : (es.toList.map (·.born)).Nodup
  len : es.toList.length = keys.length
  at_ : ∀ (i : Nat) (x : κ), keys[i]? = some x → ∃ y, es.toList[i]? = some y ∧ y.key = enc x ∧ y.val = .int .i64 i
/-- Block b is a map with these keys. -/
def MapOf (enc : κ → Value) (w : World) (b : Nat) (keys : List κ) : Prop := ∃ es clock, w.heap[b]? = some (.map es clock) ∧ EntriesOf enc es clock keys
/-- What is asked of the keys: they can be read, and no two read alike. -/
structure GoodKeys (P : Program) (k : TypeId) (enc : κ → Value) (Ok : κ → Prop) : Prop where
  law : Keyed P k
  reads : ∀ x, Ok x → ∃ l, Go.keyOf P k (enc x) = some l
  inj : ∀ x y, Ok x → Ok y → enc x = enc y → x = y
theorem EntriesOf.back {es : Array MapEntry} {clock : Nat} (h : EntriesOf enc es clock keys) {i : Nat} {y : MapEntry} (hy : es.toList[i]? = some y) : ∃ x, keys[i]? = some x ∧ y.key = enc x ∧ y.val = .int .i64 i := by
  have hi : i < keys.length := by rw [← h.len]; exact (List.getElem?_eq_some_iff.1 hy).1
  obtain ⟨y', hy', h1, h2⟩ := h.at_ i _ (List.getElem?_eq_getElem hi)
  rw [hy] at hy'
  cases hy'
  exact ⟨_, List.getElem?_eq_getElem hi, h1, h2⟩
theorem EntriesOf.empty (clock : Nat) : EntriesOf enc #[] clock [] := ⟨by simp, by simp, rfl, fun i x h => by simp at h⟩
theorem MapOf.made (w : World) : MapOf enc (w.alloc (.map #[] 0)) w.heap.size [] := ⟨#[], 0, heap_alloc_new w _, EntriesOf.empty 0⟩
theorem MapOf.lt (h : MapOf enc w b keys) : b < w.heap.size := by
  obtain ⟨es, clock, hb, _⟩ := h
  exact (Array.getElem?_eq_some_iff.1 hb).1
theorem MapOf.grown {w' : World} {row : Option Nat} (h : MapOf enc w b keys) (hg : w.grownBy w' row) (hne : row ≠ some b) : MapOf enc w' b keys := by
  have hlt := h.lt
  obtain ⟨es, clock, hb, H⟩ := h
  exact ⟨es, clock, (hg.block b hlt (Ne.symm hne)).trans hb, H⟩
theorem MapOf.below {w' : World} (h : MapOf enc w b keys) (hb : Below w.heap.size w w') : MapOf enc w' b keys := h.grown (grown_of_below hb) (by simp)
theorem MapOf.ne_cells {g : Nat} {cs : Array Value} {ty : TypeId} {fz : Nat × Nat} (h : MapOf enc w b keys) (hg : w.heap[g]? = some (.cells cs ty fz)) : g ≠ b := by
  obtain ⟨es, clock, hb, _⟩ := h
  intro e
  subst e
  rw [hb] at hg
  cases hg
/-- What 'find' finds. -/
theorem EntriesOf.find [DecidableEq κ] {Ok : κ → Prop} (G : GoodKeys P k enc Ok) {es : Array MapEntry} {clock : Nat} (h : EntriesOf enc es clock keys) (hok : ∀ x ∈ keys, Ok x) {x : κ} (hx : Ok x) (hnd : keys.Nodup) :
    (x ∉ keys → (Instr.findKey k (enc x) es.toList).run P w = .ok none w) ∧ (x ∈ keys → ∃ j, (Instr.findKey k (enc x) es.toList).run P w = .ok (some (j, .int .i64 (ix keys x))) w) := by
  obtain ⟨l, hl⟩ := G.reads x hx
  have hall : ∀ y ∈ es.toList, ∃ l, Go.keyOf P k y.key = some l := fun y hy => by
    obtain ⟨i, hi⟩ := List.getElem?_of_mem hy
    obtain ⟨z, hz, h1, _⟩ := h.back hi
    obtain ⟨l', hl'⟩ := G.reads z (hok z (List.mem_of_getElem? hz))
    exact ⟨l', by rw [h1]; exact hl'⟩
  rcases G.law.find w hl es.toList hall with ⟨h1, h2⟩ | ⟨j, y, h1, h2, h3⟩
  · refine ⟨fun _ => h1, fun hm => ?_⟩
    obtain ⟨i, hi⟩ := List.getElem?_of_mem hm
    obtain ⟨y, hy, h3, _⟩ := h.at_ i x hi
    exact absurd h3 (h2 y (List.mem_of_getElem? hy))
  · obtain ⟨z, hz, h4, h5⟩ := h.back h2
    have hzk := List.mem_of_getElem? hz
    have e1 : z = x := G.inj z x (hok z hzk) hx (h4.symm.trans h3)
    subst e1
    refine ⟨fun hn => absurd hzk hn, fun _ => ⟨j, ?_⟩⟩
    rw [h1, h5, idxOf_get hnd hz]
theorem MapOf.look_no [DecidableEq κ] {Ok : κ → Prop} (G : GoodKeys P k enc Ok) (ht : P.underlying t = some (.map k e)) (h : MapOf enc w b keys) (hz : (zeroValue e).run P w = .ok (.int .i64 0) w) (hok : ∀ x ∈ keys, Ok x) {x : κ} (hx : Ok x) (hnd : keys.Nodup) (hn : x ∉ keys) :
    (Instr.lookup t (.map (some b)) (enc x) true).run P w = .ok (.tuple #[.int .i64 0, .bool false]) w := by
  obtain ⟨l, hl⟩ := G.reads x hx
  obtain ⟨es, clock, hb, H⟩ := h
  have h1 := (H.find G (w := w) hok hx hnd).1 hn
  simp [Instr.lookup, run_underlying ht, MapKept.run_getObj_map hb, G.law.check w _ hl, h1, hz, Result.andThen]
theorem MapOf.look_yes [DecidableEq κ] {Ok : κ → Prop} (G : GoodKeys P k enc Ok) (ht : P.underlying t = some (.map k e)) (h : MapOf enc w b keys) (hok : ∀ x ∈ keys, Ok x) {x : κ} (hx : Ok x) (hnd : keys.Nodup) (hn : x ∈ keys) :
    (Instr.lookup t (.map (some b)) (enc x) true).run P w = .ok (.tuple #[.int .i64 (ix keys x), .bool true]) w := by
  obtain ⟨l, hl⟩ := G.reads x hx
  obtain ⟨es, clock, hb, H⟩ := h
  obtain ⟨j, h1⟩ := (H.find G (w := w) hok hx hnd).2 hn
  simp [Instr.lookup, run_underlying ht, MapKept.run_getObj_map hb, G.law.check w _ hl, h1, Result.andThen]
theorem MapOf.store [DecidableEq κ] {Ok : κ → Prop} (G : GoodKeys P k enc Ok) (ht : P.underlying t = some (.map k e)) (h : MapOf enc w b keys) (hok : ∀ x ∈ keys, Ok x) {x : κ} (hx : Ok x) (hnd : keys.Nodup) (hn : x ∉ keys) :
    ∃ w', (Instr.mapUpdate t (.map (some b)) (enc x) (.int .i64 keys.length)).run P w = .ok () w' ∧ MapOf enc w' b (keys ++ [x]) ∧ w.grownBy w' (some b) := by
  obtain ⟨l, hl⟩ := G.reads x hx
  obtain ⟨es, clock, hb, H⟩ := h
  have h1 := (H.find G (w := w) hok hx hnd).1 hn
  refine ⟨setBlock w b (.map (es.push ⟨enc x, .int .i64 keys.length, clock⟩) (clock + 1)), ?_, ⟨_, _, heap_setBlock_same hb _, ?_⟩, ⟨rfl, rfl, rfl, by simp [setBlock], fun i _ hi => heap_setBlock_other hb _ (fun e => hi (by rw [e]))⟩⟩
  · simp [Instr.mapUpdate, run_underlying ht, MapKept.run_getObj_map hb, G.law.check w false hl, h1, MapKept.run_setObj_map _ hb, Result.andThen, setBlock]
  · refine ⟨fun y hy => ?_, ?_, ?_, fun i y hy => ?_⟩
    · simp only [Array.toList_push, List.mem_append, List.mem_singleton] at hy
      rcases hy with hy | rfl
      · have := H.old y hy
        omega
      · exact Nat.lt_succ_self _
    · rw [Array.toList_push, List.map_append, List.nodup_append]
      refine ⟨H.born, by simp, fun a ha c hc => ?_⟩
      obtain ⟨y, hy, rfl⟩ := List.mem_map.1 ha
      have := H.old y hy
      simp at hc
      subst hc
      omega
    · rw [Array.toList_push, List.length_append, List.length_append, H.len]
      rfl
    · rw [Array.toList_push]
      by_cases hi : i < keys.length
      · rw [List.getElem?_append_left hi] at hy
        obtain ⟨z, hz, h2⟩ := H.at_ i y hy
        exact ⟨z, by rw [List.getElem?_append_left (by rw [H.len]; exact hi)]; exact hz, h2⟩
      · have hi' := (List.getElem?_eq_some_iff.1 hy).1
        simp at hi'
        have : i = keys.length := by omega
        subst this
        simp at hy
        subst hy
        exact ⟨⟨enc x, .int .i64 keys.length, clock⟩, by rw [List.getElem?_append_right (by rw [H.len]; exact Nat.le_refl _), H.len]; simp, rfl, rfl⟩
theorem MapOf.clear_ (ht : P.underlying t = some (.map k e)) (h : MapOf enc w b keys) (ty : TypeId) :
    ∃ w', (Builtin.clear_ #[t] ty #[.map (some b)]).run P w = .ok (.tuple #[]) w' ∧ MapOf enc w' b [] ∧ w.grownBy w' (some b) := by
  obtain ⟨es, clock, hb, H⟩ := h
  refine ⟨setBlock w b (.map #[] clock), ?_, ⟨_, _, heap_setBlock_same hb _, EntriesOf.empty clock⟩, ⟨rfl, rfl, rfl, by simp [setBlock], fun i _ hi => heap_setBlock_other hb _ (fun e => hi (by rw [e]))⟩⟩
  simp [Builtin.clear_, run_underlying ht, MapKept.run_getObj_map hb, MapKept.run_setObj_map _ hb, Result.andThen, setBlock]
theorem MapOf.len_ (ht : P.underlying t = some (.map k e)) (h : MapOf enc w b keys) (ty : TypeId) : (Builtin.len_ #[t] ty #[.map (some b)]).run P w = .ok (.int .i64 keys.length) w := by
  obtain ⟨es, clock, hb, H⟩ := h
  have h1 : es.size = keys.length := by rw [← H.len]; simp
  simp [Builtin.len_, run_underlying ht, MapKept.run_getObj_map hb, goInt, h1]
end
/-! ### at the operation -/
section
variable {κ : Type} {enc : κ → Value} {P : Program} {k e : TypeId} (w : World) {b : Nat} {keys : List κ} {ops : Array Oper} {rest : List Oper} {o : Oper} {a : Act} {Q : Exit → Act → World → Prop} {Ok : κ → Prop}
theorem wpList_look_no [DecidableEq κ] (hg : o.guard = none) (m x : Operand) (t : TypeId) (hop : o.op = Op.lookup t m x true) (G : GoodKeys P k enc Ok) (ht : P.underlying t = some (.map k e)) (hz : (zeroValue e).run P w = .ok (.int .i64 0) w)
    (hm : a.eval m = .map (some b)) (h : MapOf enc w b keys) (hok : ∀ x ∈ keys, Ok x) (hnd : keys.Nodup) (y : κ) (hx : a.eval x = enc y) (hy : Ok y) (hn : y ∉ keys)
    (hK : wpList P ops Q rest (a.put o.dst (.tuple #[.int .i64 0, .bool false])) w) : wpList P ops Q (o :: rest) a w := by
  refine wpList_plain hg fun K' hK' => ?_
  have hrun := h.look_no G ht hz hok hy hnd hn
  unfold Oper.wp
  simp [execOp, hop, hm, hx, hrun, Result.andThen]
  exact hK' _ _ hK
theorem wpList_look_yes [DecidableEq κ] (hg : o.guard = none) (m x : Operand) (t : TypeId) (hop : o.op = Op.lookup t m x true) (G : GoodKeys P k enc Ok) (ht : P.underlying t = some (.map k e))
    (hm : a.eval m = .map (some b)) (h : MapOf enc w b keys) (hok : ∀ x ∈ keys, Ok x) (hnd : keys.Nodup) (y : κ) (hx : a.eval x = enc y) (hy : Ok y) (hn : y ∈ keys)
    (hK : wpList P ops Q rest (a.put o.dst (.tuple #[.int .i64 (ix keys y), .bool true])) w) : wpList P ops Q (o :: rest) a w := by
  refine wpList_plain hg fun K' hK' => ?_
  have hrun := h.look_yes G ht hok hy hnd hn
  unfold Oper.wp
  simp [execOp, hop, hm, hx, hrun, Result.andThen]
  exact hK' _ _ hK
theorem wpList_store_new [DecidableEq κ] (hg : o.guard = none) (m x v : Operand) (t : TypeId) (hop : o.op = Op.mapUpdate t m x v) (G : GoodKeys P k enc Ok) (ht : P.underlying t = some (.map k e))
    (hm : a.eval m = .map (some b)) (h : MapOf enc w b keys) (hok : ∀ x ∈ keys, Ok x) (hnd : keys.Nodup) (y : κ) (hx : a.eval x = enc y) (hv : a.eval v = .int .i64 keys.length) (hy : Ok y) (hn : y ∉ keys)
    (hK : ∀ w', MapOf enc w' b (keys ++ [y]) → w.grownBy w' (some b) → wpList P ops Q rest (a.put o.dst undef) w') : wpList P ops Q (o :: rest) a w := by
  refine wpList_plain hg fun K' hK' => ?_
  obtain ⟨w', hrun, r1, r2⟩ := h.store G ht hok hy hnd hn
  unfold Oper.wp
  simp [execOp, hop, hm, hx, hv, hrun, Result.andThen]
  exact hK' _ _ (hK w' r1 r2)
theorem wpList_clear (hg : o.guard = none) (m : Operand) (t : TypeId) (hop : o.op = Op.call { callee := Callee.builtin Builtin.clear, args := #[m], argTypes := #[t] }) (ht : P.underlying t = some (.map k e))
    (hm : a.eval m = .map (some b)) (h : MapOf enc w b keys) (hK : ∀ w', MapOf enc w' b [] → w.grownBy w' (some b) → wpList P ops Q rest (a.put o.dst (.tuple #[])) w') : wpList P ops Q (o :: rest) a w := by
  refine wpList_plain hg fun K' hK' => ?_
  obtain ⟨w', hrun, r1, r2⟩ := h.clear_ ht o.type
  unfold Oper.wp
  simp [execOp, hop, resolve, invoke, builtin, hm, hrun, Result.andThen]
  exact hK' _ _ (hK w' r1 r2)
theorem wpList_maplen (hg : o.guard = none) (m : Operand) (t : TypeId) (hop : o.op = Op.call { callee := Callee.builtin Builtin.len, args := #[m], argTypes := #[t] }) (ht : P.underlying t = some (.map k e))
    (hm : a.eval m = .map (some b)) (h : MapOf enc w b keys) (hK : wpList P ops Q rest (a.put o.dst (.int .i64 keys.length)) w) : wpList P ops Q (o :: rest) a w := by
  refine wpList_plain hg fun K' hK' => ?_
  have hrun := h.len_ ht o.type
  unfold Oper.wp
  simp [execOp, hop, resolve, invoke, builtin, hm, hrun, Result.andThen]
  exact hK' _ _ hK
end
/-! ### a range over the map -/
section
variable {κ : Type} {enc : κ → Value} {P : Program} {k e t : TypeId} {w : World} {b r : Nat} {keys : List κ} {dn : Nat → Bool} {cnt : Nat}
/-- Block r is an iterator over the map b: the keys i with 'dn i' have come, cnt are left. -/
def RangeOf (enc : κ → Value) (w : World) (b r : Nat) (keys : List κ) (dn : Nat → Bool) (cnt : Nat) : Prop :=
  ∃ es clock since seen c0, w.heap[b]? = some (.map es clock) ∧ EntriesOf enc es clock keys ∧ w.heap[r]? = some (.mapIter (some b) since seen c0) ∧ (∀ x ∈ es.toList, x.born < since) ∧ cnt = (leftOf es seen).size ∧ since ≤ c0 ∧ since ≤ clock ∧ ∀ i y, es.toList[i]? = some y → seen.contains y.born = dn i
theorem RangeOf.map_ (h : RangeOf enc w b r keys dn cnt) : MapOf enc w b keys := by
  obtain ⟨es, clock, since, seen, c0, hb, H, _⟩ := h
  exact ⟨es, clock, hb, H⟩
theorem RangeOf.lt (h : RangeOf enc w b r keys dn cnt) : r < w.heap.size := by
  obtain ⟨es, clock, since, seen, c0, hb, H, hr, _⟩ := h
  exact (Array.getElem?_eq_some_iff.1 hr).1
theorem RangeOf.grown {w' : World} {row : Option Nat} (h : RangeOf enc w b r keys dn cnt) (hg : w.grownBy w' row) (h1 : row ≠ some b) (h2 : row ≠ some r) : RangeOf enc w' b r keys dn cnt := by
  have l1 := h.map_.lt
  have l2 := h.lt
  obtain ⟨es, clock, since, seen, c0, hb, H, hr, R⟩ := h
  exact ⟨es, clock, since, seen, c0, (hg.block b l1 (Ne.symm h1)).trans hb, H, (hg.block r l2 (Ne.symm h2)).trans hr, R⟩
theorem RangeOf.below {w' : World} (h : RangeOf enc w b r keys dn cnt) (hb : Below w.heap.size w w') : RangeOf enc w' b r keys dn cnt := h.grown (grown_of_below hb) (by simp) (by simp)
theorem RangeOf.ne_cells {g : Nat} {cs : Array Value} {ty : TypeId} {fz : Nat × Nat} (h : RangeOf enc w b r keys dn cnt) (hg : w.heap[g]? = some (.cells cs ty fz)) : g ≠ b ∧ g ≠ r := by
  refine ⟨h.map_.ne_cells hg, ?_⟩
  obtain ⟨es, clock, since, seen, c0, hb, H, hr, _⟩ := h
  intro e
  subst e
  rw [hr] at hg
  cases hg
theorem MapOf.range_ (ht : P.underlying t = some (.map k e)) (h : MapOf enc w b keys) :
    ∃ w', (Instr.range t (.map (some b))).run P w = .ok (.pointer (some ⟨w.heap.size, 0, none⟩)) w' ∧ RangeOf enc w' b w.heap.size keys (fun _ => false) keys.length ∧ w.grownBy w' none ∧ w'.heap.size = w.heap.size + 1 := by
  have hlt := h.lt
  obtain ⟨es, clock, hb, H⟩ := h
  refine ⟨_, run_range_map w t k e b es clock ht hb, ⟨es, clock, clock, #[], clock, ((MapKept.heap_alloc w _).2 b hlt).trans hb, H, (MapKept.heap_alloc w _).1, H.old, ?_, Nat.le_refl _, Nat.le_refl _, fun i y _ => by simp⟩, World.grownBy_alloc w _ none, by simp⟩
  rw [← H.len]
  have h1 : es.filter (fun e => !(#[] : Array Nat).contains e.born) = es := Array.filter_eq_self.2 (fun x _ => by simp)
  rw [leftOf, h1]
  simp
theorem RangeOf.next_ (h : RangeOf enc w b r keys dn cnt) (ty : TypeId) :
    (cnt = 0 ∧ (∀ i < keys.length, dn i = true) ∧ (Instr.next (.pointer (some ⟨r, 0, none⟩)) false ty).run P w = .ok (.tuple #[.bool false]) w) ∨
    ∃ i x w' cnt', keys[i]? = some x ∧ dn i = false ∧ (Instr.next (.pointer (some ⟨r, 0, none⟩)) false ty).run P w = .ok (.tuple #[.bool true, enc x, .int .i64 i]) w' ∧
      RangeOf enc w' b r keys (fun j => dn j || j == i) cnt' ∧ cnt' < cnt ∧ w.grownBy w' (some r) ∧ w'.heap.size = w.heap.size ∧ (Instr.entry (.pointer (some ⟨r, 0, none⟩))).run P w' = .ok (.tuple #[enc x, .int .i64 i]) w' := by
  obtain ⟨es, clock, since, seen, c0, hb, H, hr, hold, rfl, hsc, hsk, hdn⟩ := h
  have hne : r ≠ b := fun e => by
    subst e
    rw [hb] at hr
    cases hr
  rcases run_next_at (P := P) w ty r b since c0 seen es clock hr hb hold hsc with ⟨h0, hrun⟩ | ⟨y, he, w1, hal, hrun⟩
  · refine .inl ⟨h0, fun i hi => ?_, hrun⟩
    obtain ⟨y, hy, _⟩ := H.at_ i _ (List.getElem?_eq_getElem hi)
    rw [← hdn i y hy]
    exact all_seen es seen h0 y (List.mem_of_getElem? hy)
  · obtain ⟨hem, hes⟩ := mem_left he
    obtain ⟨i, hi⟩ := List.getElem?_of_mem hem
    obtain ⟨x, hx, hk, hv⟩ := H.back hi
    have hr1 : w1.heap[r]? = some (.mapIter (some b) since seen c0) := by rcases hal with rfl | rfl <;> exact hr
    have hb1 : w1.heap[b]? = some (.map es clock) := by rcases hal with rfl | rfl <;> exact hb
    have hset := heap_set (o' := .mapIter (some b) since (seen.push y.born) clock) hr1
    have hb' : (setBlock w1 r (.mapIter (some b) since (seen.push y.born) clock)).heap[b]? = some (.map es clock) := (hset.2 b (fun e1 => hne e1.symm)).trans hb1
    rw [hk, hv] at hrun
    have hent := run_entry_at (P := P) _ r b since seen es clock y hset.1 hb' hem H.born
    rw [hk, hv] at hent
    refine .inr ⟨i, x, _, _, hx, by rw [← hdn i y hi]; exact hes, hrun, ⟨es, clock, since, seen.push y.born, clock, hb', H, hset.1, hold, rfl, hsk, hsk, fun j z hz => ?_⟩, left_shrinks es seen y he, ?_, ?_, hent⟩
    · rw [contains_push, hdn j z hz]
      congr 1
      by_cases e : j = i
      · subst e
        rw [hi] at hz
        cases hz
        simp
      · have h1 : (j == i) = false := by simpa using e
        rw [h1]
        simp only [beq_eq_false_iff_ne, ne_eq]
        intro e2
        have hj := (List.getElem?_eq_some_iff.1 hz).1
        have hi' := (List.getElem?_eq_some_iff.1 hi).1
        have g1 : (es.toList.map (·.born))[j]? = some z.born := by rw [List.getElem?_map, hz]; rfl
        have g2 : (es.toList.map (·.born))[i]? = some y.born := by rw [List.getElem?_map, hi]; rfl
        rw [e2] at g1
        exact e ((idxOf_get H.born g1).symm.trans (idxOf_get H.born g2))
    · rcases hal with rfl | rfl <;> exact ⟨rfl, rfl, rfl, by simp [setBlock], fun i _ hi => hset.2 i (fun e1 => hi (by rw [e1]))⟩
    · rcases hal with rfl | rfl <;> simp [setBlock]
theorem wpList_range_k (w : World) {ops : Array Oper} {rest : List Oper} {o : Oper} {a : Act} {Q : Exit → Act → World → Prop} (hg : o.guard = none) (m : Operand) (t : TypeId) (hop : o.op = Op.range t m) (ht : P.underlying t = some (.map k e))
    (hm : a.eval m = .map (some b)) (h : MapOf enc w b keys)
    (hK : ∀ w', RangeOf enc w' b w.heap.size keys (fun _ => false) keys.length → w.grownBy w' none → w'.heap.size = w.heap.size + 1 → wpList P ops Q rest (a.put o.dst (.pointer (some ⟨w.heap.size, 0, none⟩))) w') : wpList P ops Q (o :: rest) a w := by
  refine wpList_plain hg fun K' hK' => ?_
  obtain ⟨w', hrun, r1, r2, r3⟩ := h.range_ ht
  unfold Oper.wp
  simp [execOp, hop, hm, hrun, Result.andThen]
  exact hK' _ _ (hK w' r1 r2 r3)
theorem wpList_next_k (w : World) {ops : Array Oper} {rest : List Oper} {o : Oper} {a : Act} {Q : Exit → Act → World → Prop} (hg : o.guard = none) (it : Operand) (hop : o.op = Op.next it false)
    (hit : a.eval it = .pointer (some ⟨r, 0, none⟩)) (h : RangeOf enc w b r keys dn cnt)
    (hDone : cnt = 0 → (∀ i < keys.length, dn i = true) → wpList P ops Q rest (a.put o.dst (.tuple #[.bool false])) w)
    (hMore : ∀ (i : Nat) (x : κ) (w' : World) (cnt' : Nat), keys[i]? = some x → dn i = false → RangeOf enc w' b r keys (fun j => dn j || j == i) cnt' → cnt' < cnt → w.grownBy w' (some r) → w'.heap.size = w.heap.size →
      (Instr.entry (.pointer (some ⟨r, 0, none⟩))).run P w' = .ok (.tuple #[enc x, .int .i64 i]) w' → wpList P ops Q rest (a.put o.dst (.tuple #[.bool true, enc x, .int .i64 i])) w') : wpList P ops Q (o :: rest) a w := by
  refine wpList_plain hg fun K' hK' => ?_
  unfold Oper.wp
  rcases h.next_ (P := P) o.type with ⟨h0, hl, hrun⟩ | ⟨i, x, w', cnt', hx, hd, hrun, hrg, hlt, hgr, hsz, hen⟩
  · simp [execOp, hop, hit, hrun, Result.andThen]
    exact hK' _ _ (hDone h0 hl)
  · simp [execOp, hop, hit, hrun, Result.andThen]
    exact hK' _ _ (hMore i x w' cnt' hx hd hrg hlt hgr hsz hen)
end
end Go.Proofs.Ytdgfecjakmdheaa.Plain
/- A struct or an array of one-cell values that lies in a block of its own, told as a list: what it holds, and what stays of it. No conditions beyond those that each fact states. -/
namespace Go.Proofs.Ytdgfecjakmdheaa.Plain
open Go.RowKit
set_option linter.unusedVariables false
/-- Block b holds these cells. -/
structure CellsN (w : World) (b : Nat) (t : TypeId) (l : List Value) : Prop where
  row : w.heap[b]? = some (.cells l.toArray t (0, 0))
section
variable {w w' : World} {b : Nat} {t : TypeId} {l : List Value}
theorem CellsN.at_ (h : CellsN w b t l) {i : Nat} {x : Value} (hi : l[i]? = some x) : w.cell? ⟨b, i, none⟩ = some x := by simp [World.cell?, h.row, hi]
theorem CellsN.f (h : CellsN w b t l) (o : Nat) : w.frozen? ⟨b, o, none⟩ = false := frozen_of_row w b o _ t h.row
theorem CellsN.lt (h : CellsN w b t l) : b < w.heap.size := by
  have h1 := h.row
  rw [Array.getElem?_eq_some_iff] at h1
  exact h1.1
theorem CellsN.new (w : World) (t : TypeId) (l : List Value) : CellsN (w.alloc (.cells l.toArray t)) w.heap.size t l := ⟨heap_alloc_new w _⟩
theorem CellsN.below (h : CellsN w b t l) (hb : Below w.heap.size w w') : CellsN w' b t l := ⟨(hb.block b h.lt).trans h.row⟩
theorem CellsN.of_below {B : Nat} (h : CellsN w b t l) (hb : Below B w w') (hB : b < B) : CellsN w' b t l := ⟨(hb.block b hB).trans h.row⟩
theorem CellsN.alloc (h : CellsN w b t l) (o : Obj) : CellsN (w.alloc o) b t l := h.below ((Below.refl _ _).alloc (Nat.le_refl _) _)
theorem CellsN.drew (h : CellsN w b t l) : CellsN w.drew b t l := ⟨h.row⟩
theorem CellsN.set (h : CellsN w b t l) (i : Nat) (v : Value) : CellsN (w.setCell ⟨b, i, none⟩ v) b t (l.set i v) := by
  have hlt := h.lt
  have h' : w.heap[b] = .cells l.toArray t (0, 0) := by simpa [Array.getElem?_eq_getElem hlt] using h.row
  refine ⟨?_⟩
  show (w.heap.modify b _)[b]? = _
  rw [Array.getElem?_eq_getElem (by simpa using hlt), Array.getElem_modify_self, h']
  simp
theorem CellsN.other (h : CellsN w b t l) {a : Addr} (ha : a.block ≠ b) (v : Value) : CellsN (w.setCell a v) b t l := by
  refine ⟨?_⟩
  rw [← h.row]
  simp [World.setCell, Array.getElem?_modify, ha]
theorem CellsN.grown {row : Option Nat} (h : CellsN w b t l) (hg : w.grownBy w' row) (hn : row ≠ some b) : CellsN w' b t l := ⟨(hg.block b h.lt (Ne.symm hn)).trans h.row⟩
end
end Go.Proofs.Ytdgfecjakmdheaa.Plain
/- The keys of the program's classes: a term and the classes of the next states, as a struct and as a list; that they can be keys of a map; the contract of the function that makes one. No conditions beyond those that each states. -/
namespace Go.Proofs.Ytdgfecjakmdheaa
open Go.ChangeShapes Go.WideShapes Go.ChangeAt Go.RowKit
open Go.PlainAid Plain
set_option linter.unusedVariables false
namespace Mins
open Seqs
def encK (k : List Int) : Value := .agg #[.int .i64 (k.getD 0 0), .int .i64 (k.getD 1 0), .int .i64 (k.getD 2 0), .int .i64 (k.getD 3 0), .int .i64 (k.getD 4 0)]
def OkK (n : Nat) (k : List Int) : Prop := k.length = n ∧ ∀ x ∈ k, 0 ≤ x ∧ x ≤ 1000
theorem keyLaid : laidOutB Try.prog = true := by kernel_rfl
theorem keyRow : (83 : TypeId) < Try.prog.types.size := of_decide_eq_true (by kernel_rfl)
theorem keyWide : (match Try.prog.underlying 83 with | some (.array _ _) | some (.struct _) => true | _ => false) = true := by kernel_rfl
set_option maxRecDepth 100000 in
theorem keyLaw : Maps.Keyed Try.prog 83 := Maps.Keyed.of_law (deep_law_laid keyLaid (m := 3) (by omega) keyRow (by kernel_rfl) keyWide)
theorem keyCells : Try.prog.cellsOf 83 = 5 := by kernel_rfl
theorem arrCells : Try.prog.cellsOf 81 = 4 := by kernel_rfl
theorem intCells : Try.prog.cellsOf 3 = 1 := by kernel_rfl
theorem keyType : Try.prog.keyType 83 = true := by kernel_rfl
theorem keyReads (a b c d e : Int) (h : ∀ x ∈ [a, b, c, d, e], 0 ≤ x ∧ x ≤ 1000) : ∃ l, Go.keyOf Try.prog 83 (.agg #[.int .i64 a, .int .i64 b, .int .i64 c, .int .i64 d, .int .i64 e]) = some l := by
  have hw : ∀ x ∈ [a, b, c, d, e], (Lit.int .i64 x).wf = true := fun x hx => by
    have := h x hx
    exact WalkArith.wf_i64 (by omega)
  have wa := hw a (by simp)
  have wb := hw b (by simp)
  have wc := hw c (by simp)
  have wd := hw d (by simp)
  have we := hw e (by simp)
  have lk : ∀ n : Nat, Try.prog.keyLits (n + 3) 83 [.int .i64 a, .int .i64 b, .int .i64 c, .int .i64 d, .int .i64 e] = some [.int .i64 a, .int .i64 b, .int .i64 c, .int .i64 d, .int .i64 e] := fun n => by
    have hr : List.range 4 = [0, 1, 2, 3] := rfl
    simp [Program.keyLits, Try.underlying83, Try.underlying81, Try.underlying3, keyCells, arrCells, intCells, wa, wb, wc, wd, we, hr]
  have h3 : 3 ≤ Try.prog.types.size := of_decide_eq_true (by kernel_rfl)
  obtain ⟨n, hn⟩ : ∃ n, Try.prog.types.size + 1 = n + 3 := ⟨Try.prog.types.size - 2, by omega⟩
  have hf : (Value.agg #[.int .i64 a, .int .i64 b, .int .i64 c, .int .i64 d, .int .i64 e]).formed Try.prog 83 = true := by
    simp [Value.formed, Try.underlying83, keyCells]
  refine ⟨.string (keyBytes [.int .i64 a, .int .i64 b, .int .i64 c, .int .i64 d, .int .i64 e]), ?_⟩
  unfold Go.keyOf
  rw [Try.underlying83]
  simp only [keyType, hf, Bool.and_self, if_true, hn]
  have hc : (Value.agg #[.int .i64 a, .int .i64 b, .int .i64 c, .int .i64 d, .int .i64 e]).cells.toList = [.int .i64 a, .int .i64 b, .int .i64 c, .int .i64 d, .int .i64 e] := rfl
  rw [hc, lk n]
  rfl
theorem getD_bd {k : List Int} (h : ∀ x ∈ k, 0 ≤ x ∧ x ≤ 1000) (i : Nat) : 0 ≤ k.getD i 0 ∧ k.getD i 0 ≤ 1000 := by
  rw [List.getD_eq_getElem?_getD]
  cases hk : k[i]? with
  | none => exact ⟨Int.le_refl _, by decide⟩
  | some x => exact h x (List.mem_of_getElem? hk)
theorem goodK (n : Nat) (hn : n ≤ 5) : GoodKeys Try.prog 83 encK (OkK n) := by
  refine ⟨keyLaw, fun k hk => keyReads _ _ _ _ _ fun x hx => ?_, fun k k' hk hk' he => ?_⟩
  · simp only [List.mem_cons, List.not_mem_nil, or_false] at hx
    rcases hx with rfl | rfl | rfl | rfl | rfl <;> exact getD_bd hk.2 _
  · unfold encK at he
    injection he with he
    simp only [Array.mk.injEq, List.cons.injEq, Value.int.injEq, and_true, true_and] at he
    obtain ⟨h0, h1, h2, h3, h4⟩ := he
    have g : ∀ i < 5, k.getD i 0 = k'.getD i 0 := fun i hi => by
      have : i = 0 ∨ i = 1 ∨ i = 2 ∨ i = 3 ∨ i = 4 := by omega
      rcases this with rfl | rfl | rfl | rfl | rfl <;> assumption
    refine List.ext_getElem (hk.1.trans hk'.1.symm) fun i h1 h2 => ?_
    have h3 := g i (by have := hk.1; omega)
    rw [List.getD_eq_getElem?_getD, List.getD_eq_getElem?_getD, List.getElem?_eq_getElem h1, List.getElem?_eq_getElem h2] at h3
    exact h3
/-- A key in the making: the term, k classes, noughts. -/
def partK (o : Int) (r cls : List Int) (k : Nat) : List Int := (o :: (r.take k).map fun x => cls.getD x.toNat 0) ++ List.replicate (4 - k) 0
theorem partK_len {o : Int} {r cls : List Int} {k : Nat} (h : k ≤ r.length) (h4 : r.length ≤ 4) : (partK o r cls k).length = 5 := by simp [partK]; omega
theorem partK_set {o : Int} {r cls : List Int} {k : Nat} {x : Int} (h : r[k]? = some x) (h4 : r.length ≤ 4) : ((partK o r cls k).map (Value.int .i64)).set (1 + k) (.int .i64 (cls.getD x.toNat 0)) = (partK o r cls (k + 1)).map (Value.int .i64) := by
  have hk := (List.getElem?_eq_some_iff.1 h).1
  have e1 : partK o r cls k = (o :: (r.take k).map fun x => cls.getD x.toNat 0) ++ 0 :: List.replicate (4 - (k + 1)) 0 := by
    rw [partK, show 4 - k = (4 - (k + 1)) + 1 from by omega, List.replicate_succ]
  have e2 : partK o r cls (k + 1) = (o :: (r.take k).map fun x => cls.getD x.toNat 0) ++ cls.getD x.toNat 0 :: List.replicate (4 - (k + 1)) 0 := by
    rw [partK, take_snoc' h]
    simp
  have hl : (o :: (r.take k).map fun x => cls.getD x.toNat 0).length = 1 + k := by simp; omega
  rw [e1, e2]
  generalize (o :: (r.take k).map fun x => cls.getD x.toNat 0) = A at hl
  rw [List.map_append, List.map_cons, set_mid _ _ _ _ (1 + k) (by rw [List.length_map]; exact hl), List.map_append, List.map_cons]
theorem partK_end {o : Int} {r cls : List Int} (i : Nat) : (partK o r cls r.length).getD i 0 = (o :: r.map fun x => cls.getD x.toNat 0).getD i 0 := by
  rw [partK, List.take_length, List.getD_eq_getElem?_getD, List.getD_eq_getElem?_getD]
  by_cases hi : i < (o :: r.map fun x => cls.getD x.toNat 0).length
  · rw [List.getElem?_append_left hi]
  · rw [List.getElem?_append_right (by omega), List.getElem?_replicate, List.getElem?_eq_none (l := o :: r.map fun x => cls.getD x.toNat 0) (by omega)]
    split <;> rfl
theorem five {l : List Int} (h : l.length = 5) : l.map (Value.int .i64) = [.int .i64 (l.getD 0 0), .int .i64 (l.getD 1 0), .int .i64 (l.getD 2 0), .int .i64 (l.getD 3 0), .int .i64 (l.getD 4 0)] := by
  match l, h with
  | [a, b, c, d, e], _ => rfl
set_option maxHeartbeats 1000000 in
theorem key_of (v : Value) (b : Int) (rows : List (List Int)) (out : List Int) (w : World) (h : LiesS w v b rows out) (hv : IsSeq b rows out) (u : Value) (cls : List Int) (hu : Lies (Value.int .i64) w u cls) (hl : cls.length = rows.length) (s : Nat) (hs : s < rows.length) :
    Calls Try.prog 78 #[v, .int .i64 s, u] w fun e w' => e = .returned (encK (keyC rows out cls s)) ∧ Below w.heap.size w w' := by
  have HCLS := Lib.hid hu
  have HS := Lib.hid h
  obtain ⟨an, cn, ao, co, rfl⟩ := h.form
  clear h
  have HB : Hid (Below w.heap.size w (w.alloc (Obj.cells #[Value.int .i64 b, Value.slice an rows.length cn, Value.slice ao out.length co] 27))) := (Below.refl _ _).alloc (Nat.le_refl _) _
  have HC := Lib.hid (Cells3.new w 27 (.int .i64 b) (.slice an rows.length cn) (.slice ao out.length co))
  have HV := Lib.hid hv
  have HL := Lib.hid hl
  have hs1 : (s : Int) < (rows.length : Int) := by omega
  have hs2 : (s : Int) < (out.length : Int) := by have := hv.2.2.2.2.1; omega
  have hs3 : s < out.length := by omega
  obtain ⟨r, hr⟩ : ∃ r, rows[s]? = some r := ⟨_, List.getElem?_eq_getElem hs⟩
  obtain ⟨o, ho⟩ : ∃ o, out[s]? = some o := ⟨_, List.getElem?_eq_getElem hs3⟩
  have hrl : (r.length : Int) = b := (hv.2.2.2.2.2.1 r (List.mem_of_getElem? hr)).1
  have hb2 : 2 ≤ b := hv.1
  have hb4 : b ≤ 4 := hv.2.1
  have hr0 : 0 < r.length := by omega
  have hr4 : r.length ≤ 4 := by omega
  obtain ⟨pa, off, hpa, q, t, c, o2, hcl⟩ := seq_row HS.out hr hr0
  have HR := Lib.hid hr
  have HO := Lib.hid ho
  have HRL := Lib.hid hrl
  obtain ⟨po, oo, hpo, ho1⟩ : ∃ po oo, ao = some ⟨po, oo, none⟩ ∧ w.cell? ⟨po, oo + s, none⟩ = some (.int .i64 o) := by
    obtain ⟨q', s', h1, h2⟩ := HS.out.cells.2 s o ho
    exact ⟨q', s', h1, h2⟩
  subst hpa; subst hpo
  have HB1 := Lib.hid (HB.out.alloc (by simp) (Obj.cells #[Value.int .i64 0, Value.int .i64 0, Value.int .i64 0, Value.int .i64 0, Value.int .i64 0] 83))
  have HC1 := Lib.hid (HC.out.alloc (Obj.cells #[Value.int .i64 0, Value.int .i64 0, Value.int .i64 0, Value.int .i64 0, Value.int .i64 0] 83))
  have HB2 := Lib.hid (HB1.out.alloc (by simp <;> omega) (Obj.cells #[Value.int .i64 o, Value.int .i64 0, Value.int .i64 0, Value.int .i64 0, Value.int .i64 0] 83))
  have HC2 := Lib.hid (HC1.out.alloc (Obj.cells #[Value.int .i64 o, Value.int .i64 0, Value.int .i64 0, Value.int .i64 0, Value.int .i64 0] 83))
  have o2' := old_cell HB1.out o2
  have ho1' := old_cell HB1.out ho1
  have o2'' := old_cell HB2.out o2
  have HRB := Lib.hid (hv.2.2.2.2.2.1 r (List.mem_of_getElem? hr)).2
  have hK : CellsN (((w.alloc (Obj.cells #[Value.int .i64 b, Value.slice (some ⟨pa, off, none⟩) rows.length cn, Value.slice (some ⟨po, oo, none⟩) out.length co] 27)).alloc (Obj.cells #[Value.int .i64 0, Value.int .i64 0, Value.int .i64 0, Value.int .i64 0, Value.int .i64 0] 83)).alloc (Obj.cells #[Value.int .i64 o, Value.int .i64 0, Value.int .i64 0, Value.int .i64 0, Value.int .i64 0] 83)) (w.heap.size + 1 + 1) 83 ((partK o r cls 0).map (Value.int .i64)) := by
    have h1 := CellsN.new ((w.alloc (Obj.cells #[Value.int .i64 b, Value.slice (some ⟨pa, off, none⟩) rows.length cn, Value.slice (some ⟨po, oo, none⟩) out.length co] 27)).alloc (Obj.cells #[Value.int .i64 0, Value.int .i64 0, Value.int .i64 0, Value.int .i64 0, Value.int .i64 0] 83)) 83 [Value.int .i64 o, Value.int .i64 0, Value.int .i64 0, Value.int .i64 0, Value.int .i64 0]
    rw [size_alloc', size_alloc'] at h1
    exact h1
  have hZ : CellsN (((w.alloc (Obj.cells #[Value.int .i64 b, Value.slice (some ⟨pa, off, none⟩) rows.length cn, Value.slice (some ⟨po, oo, none⟩) out.length co] 27)).alloc (Obj.cells #[Value.int .i64 0, Value.int .i64 0, Value.int .i64 0, Value.int .i64 0, Value.int .i64 0] 83)).alloc (Obj.cells #[Value.int .i64 o, Value.int .i64 0, Value.int .i64 0, Value.int .i64 0, Value.int .i64 0] 83)) (w.heap.size + 1) 83 [Value.int .i64 0, Value.int .i64 0, Value.int .i64 0, Value.int .i64 0, Value.int .i64 0] := by
    have h1 := (CellsN.new (w.alloc (Obj.cells #[Value.int .i64 b, Value.slice (some ⟨pa, off, none⟩) rows.length cn, Value.slice (some ⟨po, oo, none⟩) out.length co] 27)) 83 [Value.int .i64 0, Value.int .i64 0, Value.int .i64 0, Value.int .i64 0, Value.int .i64 0]).alloc (Obj.cells #[Value.int .i64 o, Value.int .i64 0, Value.int .i64 0, Value.int .i64 0, Value.int .i64 0] 83)
    rw [size_alloc'] at h1
    exact h1
  have HK := Lib.hid hK
  have HZ := Lib.hid hZ
  clear hu hv hl hr ho hrl HB HC hK hZ
  have k0 := HC1.out.c0
  have k1 := HC1.out.c1
  have k2 := HC1.out.c2
  have l0 := HC2.out.c0
  have l1 := HC2.out.c1
  have l2 := HC2.out.c2
  go_enter Try.func78, Try.ntmps78
  go_wp2_with fail
  have HCL := Lib.hid hcl
  clear hcl
  obtain ⟨W0, hW0⟩ : ∃ W, W = ((w.alloc (Obj.cells #[Value.int .i64 b, Value.slice (some ⟨pa, off, none⟩) rows.length cn, Value.slice (some ⟨po, oo, none⟩) out.length co] 27)).alloc (Obj.cells #[Value.int .i64 0, Value.int .i64 0, Value.int .i64 0, Value.int .i64 0, Value.int .i64 0] 83)).alloc (Obj.cells #[Value.int .i64 o, Value.int .i64 0, Value.int .i64 0, Value.int .i64 0, Value.int .i64 0] 83) := ⟨_, rfl⟩
  rw [← hW0] at HB2 HK HZ ⊢
  clear hW0 HB1 HC1 HC2 k0 k1 k2 l0 l1 l2 o2 o2' o2'' ho1 ho1'
  go_loopw [22] (fun i' wr => ∃ k : Nat, k ≤ r.length ∧ i' = .int .i64 k ∧ Hid (CellsN wr (w.heap.size + 1 + 1) 83 ((partK o r cls k).map (Value.int .i64))) ∧ Hid (CellsN wr (w.heap.size + 1) 83 [Value.int .i64 0, Value.int .i64 0, Value.int .i64 0, Value.int .i64 0, Value.int .i64 0]) ∧ Hid (Below w.heap.size w wr)) (fun i' _ => r.length - (intOf i').toNat)
  case atStart => exact ⟨0, Nat.zero_le _, rfl, HK, HZ, HB2⟩
  case round =>
    clear HK HZ HB2
    obtain ⟨k, hk, rfl, hK, hZ, hB⟩ := hrel
    by_cases hlt : k < r.length
    case pos =>
      obtain ⟨x, hx⟩ : ∃ x, r[k]? = some x := ⟨_, List.getElem?_eq_getElem hlt⟩
      have hxb := HRB.out x (List.mem_of_getElem? hx)
      obtain ⟨xn, rfl⟩ : ∃ xn : Nat, x = (xn : Int) := ⟨x.toNat, by omega⟩
      have hxn : xn < cls.length := by have := HL.out; omega
      have hxn2 : (xn : Int) < (cls.length : Int) := by omega
      have hx0 : (0 : Int) ≤ (xn : Int) := Int.natCast_nonneg _
      obtain ⟨cq, cs, cc, rfl, hcc⟩ := ints_at HCLS.out (by omega)
      obtain ⟨y, hy⟩ : ∃ y, cls[xn]? = some y := ⟨_, List.getElem?_eq_getElem hxn⟩
      have o3 := old_cell hB.out (HCL.out k _ hx)
      have o4 := old_cell hB.out (hcc xn y hy)
      have HY : Hid (cls.getD ((xn : Int)).toNat 0 = y) := by show _ = _; rw [List.getD_eq_getElem?_getD, Int.toNat_natCast, hy]; rfl
      have hPS := partK_set (o := o) (cls := cls) hx hr4
      rw [HY.out] at hPS
      have hKS : CellsN (wr.setCell ⟨w.heap.size + 1 + 1, 1 + k, none⟩ (.int .i64 y)) (w.heap.size + 1 + 1) 83 ((partK o r cls (k + 1)).map (Value.int .i64)) := by
        rw [← hPS]
        exact hK.out.set (1 + k) _
      have HKS := Lib.hid hKS
      obtain ⟨z, hz⟩ : ∃ z, ((partK o r cls k).map (Value.int .i64))[1 + k]? = some z := ⟨_, List.getElem?_eq_getElem (by rw [List.length_map, partK_len (by omega) hr4]; omega)⟩
      have o5 := hK.out.at_ hz
      have o6 := hK.out.f (1 + k)
      have hk4 : (k : Int) < 4 := by omega
      have hk0 : (0 : Int) ≤ (k : Int) := Int.natCast_nonneg _
      have hk4' : k < 4 := by omega
      clear hx hxb hcc hy hPS hKS hz
      go_wp2
      go_roundw
      case rel => exact ⟨k + 1, by omega, by go_num, HKS, hZ.out.other (by simp) _, hB.out.setCell (by show _ ≤ _ + 1 + 1; omega) _⟩
      case measure => simp [intOf]; omega
    case neg =>
      obtain rfl : k = r.length := by omega
      have HF : Hid (encK (keyC rows out cls s) = .agg #[.int .i64 ((partK o r cls r.length).getD 0 0), .int .i64 ((partK o r cls r.length).getD 1 0), .int .i64 ((partK o r cls r.length).getD 2 0), .int .i64 ((partK o r cls r.length).getD 3 0), .int .i64 ((partK o r cls r.length).getD 4 0)]) := by
        show _ = _
        have e1 : keyC rows out cls s = o :: r.map fun x => cls.getD x.toNat 0 := by
          rw [keyC, List.getD_eq_getElem?_getD, List.getD_eq_getElem?_getD, HO.out, HR.out]
          rfl
        simp only [partK_end, e1, encK]
      have hKF := hK.out
      rw [five (partK_len (Nat.le_refl _) hr4)] at hKF
      obtain ⟨v0, hv0⟩ : ∃ x, x = (partK o r cls r.length).getD 0 0 := ⟨_, rfl⟩
      obtain ⟨v1, hv1⟩ : ∃ x, x = (partK o r cls r.length).getD 1 0 := ⟨_, rfl⟩
      obtain ⟨v2, hv2⟩ : ∃ x, x = (partK o r cls r.length).getD 2 0 := ⟨_, rfl⟩
      obtain ⟨v3, hv3⟩ : ∃ x, x = (partK o r cls r.length).getD 3 0 := ⟨_, rfl⟩
      obtain ⟨v4, hv4⟩ : ∃ x, x = (partK o r cls r.length).getD 4 0 := ⟨_, rfl⟩
      rw [← hv0, ← hv1, ← hv2, ← hv3, ← hv4] at hKF HF
      clear hv0 hv1 hv2 hv3 hv4 hK
      have m0 := hKF.at_ (i := 0) rfl
      have m1 := hKF.at_ (i := 1) rfl
      have m2 := hKF.at_ (i := 2) rfl
      have m3 := hKF.at_ (i := 3) rfl
      have m4 := hKF.at_ (i := 4) rfl
      have z0 := hZ.out.at_ (i := 0) rfl
      have z1 := hZ.out.at_ (i := 1) rfl
      have z2 := hZ.out.at_ (i := 2) rfl
      have z3 := hZ.out.at_ (i := 3) rfl
      have z4 := hZ.out.at_ (i := 4) rfl
      have zf := hZ.out.f
      have HKF := Lib.hid hKF
      clear hKF
      go_wp2
      have hZ5 := ((((hZ.out.set 0 (.int .i64 v0)).set 1 (.int .i64 v1)).set 2 (.int .i64 v2)).set 3 (.int .i64 v3)).set 4 (.int .i64 v4)
      have n0 := hZ5.at_ (i := 0) rfl
      have n1 := hZ5.at_ (i := 1) rfl
      have n2 := hZ5.at_ (i := 2) rfl
      have n3 := hZ5.at_ (i := 3) rfl
      have n4 := hZ5.at_ (i := 4) rfl
      refine bodyPost_ret (v := .agg #[.int .i64 v0, .int .i64 v1, .int .i64 v2, .int .i64 v3, .int .i64 v4]) (by simp [results, Try.results78, go_sem, n0, n1, n2, n3, n4]) rfl ⟨by rw [HF.out], ?_⟩
      exact ((((hB.out.setCell (by show _ ≤ _ + 1; omega) _).setCell (by show _ ≤ _ + 1; omega) _).setCell (by show _ ≤ _ + 1; omega) _).setCell (by show _ ≤ _ + 1; omega) _).setCell (by show _ ≤ _ + 1; omega) _
end Mins
end Go.Proofs.Ytdgfecjakmdheaa
/- Contracts of the functions that divide the states of the program's sequence into classes. No conditions beyond those that each states. -/
namespace Go.Proofs.Ytdgfecjakmdheaa
open Go.ChangeShapes Go.WideShapes Go.ChangeAt Go.RowKit
open Go.PlainAid Plain
set_option linter.unusedVariables false
namespace Mins
open Seqs
/-- Every cell that was is still as it was. -/
def Kept (w w' : World) : Prop := ∀ p o x, w.cell? ⟨p, o, none⟩ = some x → w'.cell? ⟨p, o, none⟩ = some x
theorem Kept.lies {α : Type} {enc : α → Value} {w w' : World} {v : Value} {xs : List α} (h : Kept w w') (hl : Lies enc w v xs) : Lies enc w' v xs := by
  obtain ⟨h1, a, c, rfl, h2, h3⟩ := hl
  refine ⟨h1, a, c, rfl, h2, fun i x hx => ?_⟩
  obtain ⟨b, off, h4, h5⟩ := h3 i x hx
  exact ⟨b, off, h4, h _ _ _ h5⟩
theorem Kept.liesR {w w' : World} {v : Value} {rows : List (List Int)} (h : Kept w w') (hl : LiesR w v rows) : LiesR w' v rows := by
  obtain ⟨us, h1, h2, h3⟩ := hl
  exact ⟨us, h.lies h1, h2, fun i u r hu hr => h.lies (h3 i u r hu hr)⟩
theorem Kept.liesS {w w' : World} {v : Value} {b : Int} {rows : List (List Int)} {out : List Int} (h : Kept w w') (hl : LiesS w v b rows out) : LiesS w' v b rows out := by
  obtain ⟨vn, vo, h1, h2, h3⟩ := hl
  exact ⟨vn, vo, h1, h.liesR h2, h.lies h3⟩
theorem kept_map {κ : Type} {enc : κ → Value} {w w' : World} {mb : Nat} {keys : List κ} (hm : MapOf enc w mb keys) (hg : w.grownBy w' (some mb)) : Kept w w' := fun p o x hx => by
  obtain ⟨es, clock, hb, _⟩ := hm
  have hlt := World.block_lt_of_cell? w _ hx
  have hne : some p ≠ some mb := fun e => by
    injection e with e
    subst e
    simp [World.cell?, hb] at hx
  rw [← hx]
  exact World.cell?_of_block (hg.block p hlt hne)
theorem below_some {w w' : World} {r : Option Nat} (h : Below w.heap.size w w') : w.grownBy w' r := ⟨h.os, h.tape, h.output, h.size, fun k hk _ => h.block k hk⟩
theorem fill_set {l : List Int} {n i : Nat} (c : Int) (hl : l.length = i) (h : i < n) : ((l ++ List.replicate (n - i) 0).map (Value.int .i64)).set i (.int .i64 c) = ((l ++ [c]) ++ List.replicate (n - (i + 1)) 0).map (Value.int .i64) := by
  rw [show n - i = (n - (i + 1)) + 1 from by omega, List.replicate_succ, List.map_append, List.map_cons, set_mid _ _ _ _ i (by rw [List.length_map]; exact hl), List.append_assoc, List.map_append]
  rfl
theorem keysOf_len (rows : List (List Int)) (out cls : List Int) : (keysOf rows out cls).length = rows.length := by simp [keysOf]
theorem keysOf_get {rows : List (List Int)} {out cls : List Int} {i : Nat} (h : i < rows.length) : (keysOf rows out cls)[i]? = some (keyC rows out cls i) := by simp [keysOf, h]
theorem take_succ' {α : Type} {l : List α} {i : Nat} {x : α} (h : l[i]? = some x) : l.take (i + 1) = l.take i ++ [x] := by
  obtain ⟨hk, rfl⟩ := List.getElem?_eq_some_iff.1 h
  exact List.take_succ_eq_append_getElem hk
/-- The keys are good ones. -/
theorem keyC_ok {b : Int} {rows : List (List Int)} {out cls : List Int} (hv : IsSeq b rows out) (hc : ∀ x ∈ cls, 0 ≤ x ∧ x ≤ 1000) {s : Nat} (hs : s < rows.length) : OkK (b.toNat + 1) (keyC rows out cls s) := by
  have h1 : rows.getD s [] ∈ rows := by
    rw [List.getD_eq_getElem?_getD, List.getElem?_eq_getElem hs]
    exact List.getElem_mem _
  have h2 := (hv.2.2.2.2.2.1 _ h1).1
  refine ⟨by simp [keyC]; simp [List.getD_eq_getElem?_getD] at h2; omega, fun x hx => ?_⟩
  rw [keyC, List.mem_cons] at hx
  rcases hx with rfl | hx
  · have h3 := hv.2.2.2.2.1
    have h4 := hv.2.2.2.2.2.2 (out.getD s 0) (by
      rw [List.getD_eq_getElem?_getD, List.getElem?_eq_getElem (show s < out.length by omega)]
      exact List.getElem_mem _)
    omega
  · obtain ⟨y, _, rfl⟩ := List.mem_map.1 hx
    exact getD_bd hc _
theorem keysOf_ok {b : Int} {rows : List (List Int)} {out cls : List Int} (hv : IsSeq b rows out) (hc : ∀ x ∈ cls, 0 ≤ x ∧ x ≤ 1000) {i : Nat} : ∀ k ∈ dist ((keysOf rows out cls).take i), OkK (b.toNat + 1) k := fun k hk => by
  have h1 := List.mem_of_mem_take (mem_dist.1 hk)
  simp only [keysOf, List.mem_map, List.mem_range] at h1
  obtain ⟨s, hs, rfl⟩ := h1
  exact keyC_ok hv hc hs
theorem zeroI (w : World) : (zeroValue 3).run Try.prog w = .ok (.int .i64 0) w := by kernel_rfl
set_option maxHeartbeats 1000000 in
theorem divided_any (v : Value) (b : Int) (rows : List (List Int)) (out : List Int) (w : World) (h : LiesS w v b rows out) (hv : IsSeq b rows out) (u : Value) (cls : List Int) (hu : Lies (Value.int .i64) w u cls) (hl : cls.length = rows.length) (hc : ∀ x ∈ cls, 0 ≤ x ∧ x ≤ 1000) (mb : Nat) (hm : MapOf encK w mb []) :
    Calls Try.prog 76 #[v, u, .map (some mb)] w fun e w' => ∃ v', e = .returned v' ∧ Has (Value.int .i64) 3 w' w.heap.size v' (numb (keysOf rows out cls)) ∧ MapOf encK w' mb (dist (keysOf rows out cls)) ∧ w.grownBy w' (some mb) := by
  obtain ⟨i0, hi, hz0, hz1, hz2⟩ := info_parts Ints.infoI
  have HCLS := Lib.hid hu
  have HCB := Lib.hid hc
  have HM := Lib.hid hm
  have HS := Lib.hid h
  obtain ⟨an, cn, ao, co, rfl⟩ := h.form
  clear h
  have HB : Hid (Below w.heap.size w (w.alloc (Obj.cells #[Value.int .i64 b, Value.slice an rows.length cn, Value.slice ao out.length co] 27))) := (Below.refl _ _).alloc (Nat.le_refl _) _
  have HC := Lib.hid (Cells3.new w 27 (.int .i64 b) (.slice an rows.length cn) (.slice ao out.length co))
  have HV := Lib.hid hv
  have HL := Lib.hid hl
  have hn16 : cls.length ≤ 16 := by have := hv.2.2.2.1; omega
  have hnr : cls.length ≤ rows.length := by omega
  have hmb := hm.lt
  have HN5 : Hid (b.toNat + 1 ≤ 5) := by have := hv.1; have := hv.2.1; show _ ≤ _; omega
  obtain ⟨a, ca, rfl⟩ : ∃ a c, u = .slice a cls.length c := by
    obtain ⟨_, a, c, h1, _⟩ := hu
    exact ⟨a, c, h1⟩
  clear hu hv hl hc hm
  obtain ⟨K, hK⟩ : ∃ K, K = keysOf rows out cls := ⟨_, rfl⟩
  have HKE := Lib.hid hK
  have HKL : Hid (K.length = cls.length) := by show _ = _; rw [hK, keysOf_len]; exact HL.out.symm
  have HKG : Hid (∀ i < cls.length, K[i]? = some (keyC rows out cls i)) := fun i hi => by rw [hK]; exact keysOf_get (by omega)
  have HKO : Hid (∀ i, ∀ k ∈ dist (K.take i), OkK (b.toNat + 1) k) := fun i => by rw [hK]; exact keysOf_ok HV.out HCB.out
  have HGK := Lib.hid (goodK (b.toNat + 1) HN5.out)
  rw [← hK]
  clear hK
  have k0 := HC.out.c0
  have k1 := HC.out.c1
  have k2 := HC.out.c2
  go_enter Try.func76, Try.ntmps76
  go_wp2_with (at_make; refine wpList_make_full (w.alloc (Obj.cells #[Value.int .i64 b, Value.slice an rows.length cn, Value.slice ao out.length co] 27)) rfl _ _ 25 rfl (w.heap.size + 1) 3 i0 (.int .i64 0) 1 Try.underlying25 hi hz0 hz1 .i64 .i64 _ _ cls.length rfl rfl rfl rfl (by rw [hz2]; omega) (by unfold maxLen; omega) (by simp) ?_; intro w1 hown hgrow)
  have hO : Hid (w1.ownsRow (w.heap.size + 1) 3 1 (.slice (some ⟨w.heap.size + 1, 0, none⟩) cls.length cls.length) cls.length ((numb (K.take 0) ++ List.replicate (cls.length - 0) (0 : Int)).map (Value.int .i64))) := by
    show w1.ownsRow _ _ _ _ _ _
    rw [Ints.zero_made] at hown
    rw [size_alloc'] at hown
    simpa [numb] using hown
  have hM : Hid (MapOf encK w1 mb (dist (K.take 0))) := ((HM.out.below HB.out).below (below_of_grown hgrow))
  have hC := Lib.hid (HC.out.below (below_of_grown hgrow))
  have hG : Hid (w.grownBy w1 (some mb)) := below_some (HB.out.trans ((below_of_grown hgrow).mono HB.out.size))
  clear hown hgrow HC HB k0 k1 k2
  go_loopw [17] (fun i' wr => ∃ i : Nat, i ≤ cls.length ∧ i' = .int .i64 i ∧ Hid (wr.ownsRow (w.heap.size + 1) 3 1 (.slice (some ⟨w.heap.size + 1, 0, none⟩) cls.length cls.length) cls.length ((numb (K.take i) ++ List.replicate (cls.length - i) (0 : Int)).map (Value.int .i64))) ∧ Hid (MapOf encK wr mb (dist (K.take i))) ∧ Hid (Cells3 wr w.heap.size 27 (.int .i64 b) (.slice an rows.length cn) (.slice ao out.length co)) ∧ Hid (w.grownBy wr (some mb))) (fun i' _ => cls.length - (intOf i').toNat)
  case atStart => exact ⟨0, Nat.zero_le _, rfl, hO, hM, hC, hG⟩
  case round =>
    clear hO hM hC hG
    obtain ⟨i, hil, rfl, hO, hM, hC, hG⟩ := hrel
    by_cases hlt : i < cls.length
    case neg =>
      obtain rfl : i = cls.length := by omega
      have hE : K.take cls.length = K := by rw [← HKL.out]; exact List.take_length
      have HX : Hid (Has (Value.int .i64) 3 wr w.heap.size (.slice (some ⟨w.heap.size + 1, 0, none⟩) cls.length cls.length) (numb K)) := by
        have h1 := hO.out
        rw [hE, Nat.sub_self, List.replicate_zero, List.append_nil] at h1
        have h2 : Has (Value.int .i64) 3 wr (w.heap.size + 1) (.slice (some ⟨w.heap.size + 1, 0, none⟩) cls.length cls.length) (numb K) := by
          show wr.ownsRow _ _ _ _ _ _
          rw [numb_len, HKL.out]
          exact h1
        exact h2.mono (Nat.le_succ _)
      have HY : Hid (MapOf encK wr mb (dist K)) := by have h1 := hM.out; rw [hE] at h1; exact h1
      clear hE hO hM
      go_wp2
      go_ret
      exact ⟨_, rfl, HX.out, HY.out, hG.out⟩
    case pos =>
      obtain ⟨kk, hkk⟩ : ∃ k, k = keyC rows out cls i := ⟨_, rfl⟩
      have HKI : Hid (K[i]? = some kk) := by rw [hkk]; exact HKG.out i hlt
      have HOK : Hid (OkK (b.toNat + 1) kk) := by rw [hkk]; exact keyC_ok HV.out HCB.out (by omega)
      obtain ⟨v0, v1, v2, v3, v4, hek⟩ : ∃ v0 v1 v2 v3 v4 : Int, encK kk = .agg #[.int .i64 v0, .int .i64 v1, .int .i64 v2, .int .i64 v3, .int .i64 v4] := ⟨_, _, _, _, _, rfl⟩
      have HEK := Lib.hid hek
      have HLT := Lib.hid (take_succ' HKI.out)
      have HNL : Hid ((numb (K.take i)).length = i) := by show _ = _; rw [numb_len, List.length_take, HKL.out]; omega
      have HKP := Lib.hid (kept_map HM.out hG.out)
      have HCT := Lib.hid (key_of _ b rows out wr (HKP.out.liesS HS.out) HV.out _ cls (HKP.out.lies HCLS.out) HL.out i (by omega))
      rw [← hkk, hek] at HCT
      clear hkk hek
      have k0 := hC.out.c0
      have k1 := hC.out.c1
      have k2 := hC.out.c2
      have i1 : (i : Int) < (cls.length : Int) := by omega
      have i0' : (0 : Int) ≤ (i : Int) := Int.natCast_nonneg _
      go_wp2_with fail
      refine (HCT.out).mono ?_
      rintro e W1 ⟨rfl, b1⟩
      have HB2 := Lib.hid (b1.alloc b1.size (Obj.cells #[Value.int .i64 v0, Value.int .i64 v1, Value.int .i64 v2, Value.int .i64 v3, Value.int .i64 v4] 83))
      have HM2 := Lib.hid (hM.out.below HB2.out)
      have hC2 := Lib.hid (hC.out.below HB2.out)
      have HO2 := Lib.hid (World.ownsRow.kept hO.out (grown_of_below HB2.out) (.inr (by simp [Value.ownBlock])))
      have HG2 : Hid (w.grownBy (W1.alloc (Obj.cells #[Value.int .i64 v0, Value.int .i64 v1, Value.int .i64 v2, Value.int .i64 v3, Value.int .i64 v4] 83)) (some mb)) := grown_trans' hG.out (below_some HB2.out)
      clear hO hM hC hG b1 k0 k1 k2 HB2
      by_cases hin : kk ∈ K.take i
      · have HIN := Lib.hid (mem_dist.2 hin)
        have hnum := numb_old hin
        obtain ⟨c, hc⟩ : ∃ c : Nat, c = ix (dist (K.take i)) kk := ⟨_, rfl⟩
        rw [← hc] at hnum
        have HC := Lib.hid hc
        have HDI : Hid (dist (K.take (i + 1)) = dist (K.take i)) := by show _ = _; rw [HLT.out, dist_snoc, addTo_in HIN.out]
        have HST := fill_set (l := numb (K.take i)) (n := cls.length) (c : Int) HNL.out hlt
        rw [← hnum, ← HLT.out] at HST
        have q1 := HO2.out.cellAt i (by omega)
        have q2 := HO2.out.frozenAt i
        have hst := HO2.out.stored i (.int .i64 (c : Int))
        rw [HST] at hst
        have HS3 := Lib.hid hst
        rw [List.getElem?_map, List.getElem?_append_right (by rw [HNL.out]; exact Nat.le_refl _), List.getElem?_replicate, if_pos (by rw [HNL.out]; omega)] at q1
        clear hin hc hnum HST hst
        go_wp2_with ((at_lookup; refine wpList_look_yes _ rfl _ _ 78 rfl HGK.out Try.underlying78 rfl HM2.out (HKO.out i) (dist_nodup _) kk (by exact HEK.out.symm) HOK.out HIN.out ?_; rw [← HC.out]))
        go_roundw
        case rel => exact ⟨i + 1, by omega, by go_num, HS3.out.1, by show MapOf _ _ _ _; rw [HDI.out]; exact HM2.out.grown HS3.out.2 (fun e => by cases e; omega), hC2.out.grown HS3.out.2 (fun e => by have e2 : w.heap.size + 1 = w.heap.size := Option.some.inj e; omega), HG2.out.andThen HS3.out.2 (fun j hj => by cases hj; exact .inl (Nat.le_succ _))⟩
        case measure => simp [intOf]; omega
      · have HIN : Hid (kk ∉ dist (K.take i)) := fun h => hin (mem_dist.1 h)
        have hnum := numb_new hin
        obtain ⟨c, hc⟩ : ∃ c : Nat, c = (dist (K.take i)).length := ⟨_, rfl⟩
        rw [← hc] at hnum
        have HC := Lib.hid hc
        have HDI : Hid (dist (K.take (i + 1)) = dist (K.take i) ++ [kk]) := by show _ = _; rw [HLT.out, dist_snoc, addTo_new HIN.out]
        have HST := fill_set (l := numb (K.take i)) (n := cls.length) (c : Int) HNL.out hlt
        rw [← hnum, ← HLT.out] at HST
        have HST2 := Lib.hid HST
        clear hin hc hnum HST
        go_wp2_with (first | (at_lookup; refine wpList_look_no _ rfl _ _ 78 rfl HGK.out Try.underlying78 (zeroI _) rfl HM2.out (HKO.out i) (dist_nodup _) kk (by exact HEK.out.symm) HOK.out HIN.out ?_) | (at_len; refine wpList_maplen _ rfl _ 78 rfl Try.underlying78 rfl HM2.out ?_; rw [← HC.out]) | (at_mapUpdate; refine wpList_store_new _ rfl _ _ _ 78 rfl HGK.out Try.underlying78 rfl HM2.out (HKO.out i) (dist_nodup _) kk (by exact HEK.out.symm) (by rw [← HC.out]; rfl) HOK.out HIN.out ?_; intro w3 hm3 hg3; have hO3 := World.ownsRow.kept HO2.out hg3 (.inr (by simp [Value.ownBlock]; omega)); have q1 := hO3.cellAt i (by omega); have q2 := hO3.frozenAt i; have hst := hO3.stored i (.int .i64 (c : Int)); rw [HST2.out] at hst; have HS3 := Lib.hid hst; rw [List.getElem?_map, List.getElem?_append_right (by rw [HNL.out]; exact Nat.le_refl _), List.getElem?_replicate, if_pos (by rw [HNL.out]; omega)] at q1; clear hst hO3))
        go_roundw
        case rel => exact ⟨i + 1, by omega, by go_num, HS3.out.1, by show MapOf _ _ _ _; rw [HDI.out]; exact hm3.grown HS3.out.2 (fun e => by cases e; omega), (hC2.out.grown hg3 (fun e => by cases e; omega)).grown HS3.out.2 (fun e => by have e2 : w.heap.size + 1 = w.heap.size := Option.some.inj e; omega), (grown_trans' HG2.out hg3).andThen HS3.out.2 (fun j hj => by cases hj; exact .inl (Nat.le_succ _))⟩
        case measure => simp [intOf]; omega
theorem clsR_bd {b : Int} {rows : List (List Int)} {out : List Int} (hv : IsSeq b rows out) (k : Nat) : ∀ x ∈ clsR rows out k, 0 ≤ x ∧ x ≤ 1000 := fun x hx => by
  have h1 := numb_bd hx
  have h2 := cntR_le rows out k
  have h3 := hv.2.2.2.1
  have h4 : (dist (keysR rows out k)).length = cntR rows out k := rfl
  omega
set_option maxHeartbeats 1000000 in
theorem classes_any (v : Value) (b : Int) (rows : List (List Int)) (out : List Int) (w : World) (h : LiesS w v b rows out) (hv : IsSeq b rows out) :
    Calls Try.prog 71 #[v] w (fun e w' => ∃ vc mb, e = .returned (.tuple #[vc, .map (some mb)]) ∧ Has (Value.int .i64) 3 w' w.heap.size vc (classes rows out) ∧ MapOf encK w' mb (keysQ rows out) ∧ w.heap.size ≤ mb ∧ Below w.heap.size w w') := by
  obtain ⟨i0, hi, hz0, hz1, hz2⟩ := info_parts Ints.infoI
  have HS := Lib.hid h
  obtain ⟨an, cn, ao, co, rfl⟩ := h.form
  clear h
  have HB : Hid (Below w.heap.size w (w.alloc (Obj.cells #[Value.int .i64 b, Value.slice an rows.length cn, Value.slice ao out.length co] 27))) := (Below.refl _ _).alloc (Nat.le_refl _) _
  have HC := Lib.hid (Cells3.new w 27 (.int .i64 b) (.slice an rows.length cn) (.slice ao out.length co))
  have HV := Lib.hid hv
  have HA := Lib.hid hv.auto
  have hn16 : rows.length ≤ 16 := hv.2.2.2.1
  clear hv
  have k0 := HC.out.c0
  have k1 := HC.out.c1
  have k2 := HC.out.c2
  have hmm := @run_makeMap Try.prog
  go_enter Try.func71, Try.ntmps71
  go_wp2_with (at_make; refine wpList_make_full (w.alloc (Obj.cells #[Value.int .i64 b, Value.slice an rows.length cn, Value.slice ao out.length co] 27)) rfl _ _ 25 rfl (w.heap.size + 1) 3 i0 (.int .i64 0) 1 Try.underlying25 hi hz0 hz1 .i64 .i64 _ _ rows.length rfl rfl rfl rfl (by rw [hz2]; omega) (by unfold maxLen; omega) (by simp) ?_; intro w1 hown hgrow)
  have hG := below_of_grown hgrow
  have hs1 : w.heap.size + 2 ≤ w1.heap.size := by
    have h1 := World.ownsRow.lt hown (w.heap.size + 1) (by rw [size_alloc']; rfl)
    omega
  have hO : Hid (Has (Value.int .i64) 3 (w1.alloc (.map #[] 0)) (w.heap.size + 1) (.slice (some ⟨w.heap.size + 1, 0, none⟩) rows.length rows.length) (clsR rows out 0)) := by
    rw [Ints.zero_made, size_alloc'] at hown
    have h1 : Has (Value.int .i64) 3 w1 (w.heap.size + 1) (.slice (some ⟨w.heap.size + 1, 0, none⟩) rows.length rows.length) (clsR rows out 0) := by
      rw [clsR_zero]
      show w1.ownsRow _ _ _ _ _ _
      simpa using hown
    exact h1.below ((Below.refl _ _).alloc (Nat.le_refl _) _)
  have hB : Hid (Below w.heap.size w (w1.alloc (.map #[] 0))) := (HB.out.trans (hG.mono HB.out.size)).alloc (by omega) _
  have hC := Lib.hid ((HC.out.below hG).alloc (.map #[] 0))
  have hM : Hid (MapOf encK (w1.alloc (.map #[] 0)) w1.heap.size []) := MapOf.made w1
  obtain ⟨mb, hmb⟩ : ∃ mb, mb = w1.heap.size := ⟨_, rfl⟩
  obtain ⟨W0, hW0⟩ : ∃ W, W = w1.alloc (.map #[] 0) := ⟨_, rfl⟩
  rw [← hW0, ← hmb] at hM
  rw [← hW0] at hO hB hC
  rw [← hW0, ← hmb]
  rw [← hmb] at hs1
  clear hW0 hmb hown hgrow hG HB HC k0 k1 k2 hmm
  go_loopw [4, 6] (fun c' n' wr => ∃ k c : Nat, Hid (c = cntR rows out k) ∧ n' = .int .i64 c ∧ Hid (∀ j < k, cntR rows out (j + 1) ≠ cntR rows out j) ∧ Hid (Has (Value.int .i64) 3 wr (w.heap.size + 1) c' (clsR rows out k)) ∧ Hid (∃ ks, MapOf encK wr mb ks) ∧ Hid (Cells3 wr w.heap.size 27 (.int .i64 b) (.slice an rows.length cn) (.slice ao out.length co)) ∧ Hid (Below w.heap.size w wr)) (fun _ n' _ => 17 - (intOf n').toNat)
  case atStart => exact ⟨0, 1, (cntR_zero out HA.out.closed.1).symm, rfl, fun j hj => by omega, hO, ⟨_, hM⟩, hC, hB⟩
  case round =>
    clear hO hB hC hM
    obtain ⟨k, c0, hc0, rfl, hne, hO, hM, hC, hB⟩ := hrel
    obtain ⟨ks, hks⟩ := hM.out
    obtain ⟨a1, ca1, rfl, _⟩ := hO.out.form
    obtain ⟨c1, hc1⟩ : ∃ c, c = cntR rows out (k + 1) := ⟨_, rfl⟩
    have HC1 := Lib.hid hc1
    have HD1 : Hid ((dist (keysOf rows out (clsR rows out k))).length = c1) := by rw [hc1]; rfl
    have hcl : c0 ≤ c1 ∧ c1 ≤ 16 := by
      have h1 := cnt_up HA.out k
      have h2 := cntR_le rows out (k + 1)
      have h3 := hc0.out
      omega
    have HKS := Lib.hid hks
    clear hks hc1 hM
    have k0 := hC.out.c0
    have k1 := hC.out.c1
    have k2 := hC.out.c2
    go_wp2_with (refine wpList_clear _ rfl _ 78 rfl Try.underlying78 rfl HKS.out ?_; intro w2 hm2 hg2; have HKP := Lib.hid (kept_map HKS.out hg2); have hC2 := hC.out.grown hg2 (fun e => by cases e; omega); have j0 := hC2.c0; have j1 := hC2.c1; have j2 := hC2.c2)
    have HB2 := Lib.hid (hB.out.grown hg2 hB.out.size (fun k hk => by cases hk; omega))
    have HM2 := Lib.hid hm2
    have HC2 := Lib.hid hC2
    refine (divided_any _ b rows out w2 (HKP.out.liesS (HS.out.below hB.out)) HV.out _ (clsR rows out k) (HKP.out.lies hO.out.lies) (clsR_len _ _ _) (clsR_bd HV.out k) mb HM2.out).mono ?_
    rintro e w3 ⟨v', rfl, hv', hm3, hg3⟩
    have HB3 := Lib.hid (HB2.out.grown hg3 HB2.out.size (fun k hk => by cases hk; omega))
    have HC3 := Lib.hid (HC2.out.grown hg3 (fun e => by cases e; omega))
    have HM3 := Lib.hid hm3
    have HO3 : Hid (Has (Value.int .i64) 3 w3 w2.heap.size v' (clsR rows out (k + 1))) := hv'
    have HS2 : Hid (w.heap.size + 1 ≤ w2.heap.size) := by
      have h1 := HC2.out.lt
      show _ ≤ _
      omega
    clear hm2 hg2 hC2 j0 j1 j2 k0 k1 k2 hv' hm3 hg3 hB hC hO HB2 HC2 HM2 HKS HKP
    by_cases he : c1 = c0
    · have hd : ((c1 : Int) == (c0 : Int)) = true := by rw [he]; simp
      have HE := Lib.hid (show cntR rows out (k + 1) = cntR rows out k by rw [← HC1.out, ← hc0.out, he])
      have HKL : Hid (k ≤ rows.length + 1) := by
        have h1 := stops_le HA.out k hne.out
        show _ ≤ _
        omega
      have HF := Lib.hid (classes_at HA.out HKL.out HE.out)
      have HQ := Lib.hid (keysQ_at HA.out HKL.out HE.out)
      have HX : Hid (Has (Value.int .i64) 3 w3 w.heap.size v' (classes rows out)) := by
        have h1 := HO3.out
        rw [HF.out.1] at h1
        exact h1.mono (by have := HS2.out; omega)
      have HY : Hid (MapOf encK w3 mb (keysQ rows out)) := by
        have h1 := HM3.out
        rw [← HQ.out]
        exact h1
      clear he
      go_wp2_with (at_len; refine wpList_maplen _ rfl _ 78 rfl Try.underlying78 rfl HM3.out ?_; rw [HD1.out])
      go_ret2
      exact ⟨_, _, rfl, HX.out, HY.out, by omega, HB3.out⟩
    · have hd : ((c1 : Int) == (c0 : Int)) = false := by simp; omega
      have HNE : Hid (∀ j < k + 1, cntR rows out (j + 1) ≠ cntR rows out j) := fun j hj => by
        by_cases e : j = k
        · subst e
          rw [← HC1.out, ← hc0.out]
          exact he
        · exact hne.out j (by omega)
      have HO4 := Lib.hid (HO3.out.mono HS2.out)
      have hlt : c0 < c1 := by omega
      clear he
      go_wp2_with (at_len; refine wpList_maplen _ rfl _ 78 rfl Try.underlying78 rfl HM3.out ?_; rw [HD1.out])
      go_roundw
      case rel => exact ⟨k + 1, c1, HC1, rfl, HNE, HO4, ⟨_, HM3.out⟩, HC3, HB3⟩
      case measure => simp [intOf]; omega
theorem class_len {b : Int} {rows : List (List Int)} {out : List Int} : (classV b rows out).length ≤ 16 := by
  unfold classV
  split
  · rename_i h
    have hv := seqB_out h
    rw [classes_len]
    exact hv.2.2.2.1
  · simp
end Mins
end Go.Proofs.Ytdgfecjakmdheaa
/- Blocks that are known whole, apart by their types; such a block as a slice of the call's own. No conditions beyond those that each fact states. -/
namespace Go.Proofs.Ytdgfecjakmdheaa.Plain
open Go.RowKit
set_option linter.unusedVariables false
/-- Two blocks of different types are two. -/
theorem CellsN.ne {w : World} {b b' : Nat} {t t' : TypeId} {l l' : List Value} (h : CellsN w b t l) (h' : CellsN w b' t' l') (hne : t ≠ t') : b ≠ b' := fun e => by
  subst e
  have h1 := h.row
  rw [h'.row] at h1
  simp at h1
  exact hne h1.2.symm
theorem CellsN.ne3 {w : World} {b b' : Nat} {t t' : TypeId} {l : List Value} {x y z : Value} (h : CellsN w b t l) (h' : Cells3 w b' t' x y z) (hne : t ≠ t') : b ≠ b' := fun e => by
  subst e
  have h1 := h.row
  rw [h'.row] at h1
  simp at h1
  exact hne h1.2.symm
theorem CellsN.ne_has {w : World} {b base : Nat} {t t' : TypeId} {l : List Value} {α : Type} {enc : α → Value} {v : Value} {xs : List α} (h : CellsN w b t l) (h' : Has enc t' w base v xs) (hne : t ≠ t') : v.ownBlock ≠ some b := by
  rcases h'.2 with ⟨rfl, _⟩ | ⟨g, cap, cur, rfl, _, hg, _⟩
  · intro h; cases h
  · intro e
    have e1 : g = b := by simpa [Value.ownBlock] using e
    subst e1
    have h1 := h.row
    rw [hg] at h1
    simp at h1
    exact hne h1.2.symm
/-- A block that is known whole, as a slice of the call's own. -/
theorem CellsN.has {w : World} {g n base : Nat} {e : TypeId} {α : Type} {enc : α → Value} {xs : List α} (h : CellsN w g e (xs.map enc)) (hn : xs.length = n) (hb : base ≤ g) (hm : n ≤ 1000000) : Has enc e w base (.slice (some ⟨g, 0, none⟩) n n) xs := by
  subst hn
  refine ⟨by simp, .inr ⟨g, xs.length, (xs.map enc).toArray, rfl, hb, h.row, Nat.le_refl _, by unfold maxLen; omega, by simp, by rw [Nat.mul_one]; show (xs.map enc).take xs.length = _; rw [List.take_of_length_le (by simp)]⟩⟩
end Go.Proofs.Ytdgfecjakmdheaa.Plain
/- Contract of the function that merges the states of a class. No conditions beyond those that each states. -/
namespace Go.Proofs.Ytdgfecjakmdheaa
open Go.ChangeShapes Go.WideShapes Go.ChangeAt Go.RowKit
open Go.PlainAid Plain
set_option linter.unusedVariables false
namespace Mins
open Seqs
/-- A sequence in the making: what has come so far stands in its place; the rows' blocks lie from lo to hi. -/
structure Filled (w : World) (base lo g1 g2 : Nat) (rows : List (List Int)) (out : List Int) (dn : Nat → Bool) (us os : List Value) (hi : Nat) : Prop where
  c1 : CellsN w g1 25 us
  c2 : CellsN w g2 3 os
  l1 : us.length = rows.length
  l2 : os.length = rows.length
  l3 : out.length = rows.length
  b1 : base ≤ g1
  b2 : base ≤ g2
  lo1 : g1 < lo
  lo2 : g2 < lo
  hi1 : lo ≤ hi
  hi2 : hi ≤ w.heap.size
  row : ∀ (i : Nat) (u : Value) (r : List Int), dn i = true → us[i]? = some u → rows[i]? = some r → OwnI w lo hi u r
  apart : ∀ (i j : Nat) (u u' : Value), dn i = true → dn j = true → us[i]? = some u → us[j]? = some u' → i ≠ j → u.ownBlock = none ∨ u.ownBlock ≠ u'.ownBlock
  out : ∀ (i : Nat) (o : Int), dn i = true → out[i]? = some o → os[i]? = some (.int .i64 o)
section
variable {w w' : World} {base lo g1 g2 hi : Nat} {rows : List (List Int)} {out : List Int} {dn : Nat → Bool} {us os : List Value}
theorem Filled.below (h : Filled w base lo g1 g2 rows out dn us os hi) (hb : Below w.heap.size w w') : Filled w' base lo g1 g2 rows out dn us os hi :=
  ⟨h.c1.below hb, h.c2.below hb, h.l1, h.l2, h.l3, h.b1, h.b2, h.lo1, h.lo2, h.hi1, Nat.le_trans h.hi2 hb.size, fun i u r a b c => (h.row i u r a b c).below hb, h.apart, h.out⟩
/-- A world that differs in a block of another kind. -/
theorem Filled.other {r : Nat} (h : Filled w base lo g1 g2 rows out dn us os hi) (hg : w.grownBy w' (some r)) (hr : ∀ cs t fz, w.heap[r]? ≠ some (.cells cs t fz)) : Filled w' base lo g1 g2 rows out dn us os hi := by
  have n1 : some r ≠ some g1 := fun e => by injection e with e; subst e; exact hr _ _ _ h.c1.row
  have n2 : some r ≠ some g2 := fun e => by injection e with e; subst e; exact hr _ _ _ h.c2.row
  refine ⟨h.c1.grown hg n1, h.c2.grown hg n2, h.l1, h.l2, h.l3, h.b1, h.b2, h.lo1, h.lo2, h.hi1, Nat.le_trans h.hi2 hg.size, fun i u x a b c => ?_, h.apart, h.out⟩
  have hI := h.row i u x a b c
  refine ⟨hI.has.grown hg ?_, hI.lt, Nat.le_trans hI.le hg.size⟩
  rcases hI.has.2 with ⟨rfl, _⟩ | ⟨g, cap, cur, rfl, _, hgr, _⟩
  · exact .inl rfl
  · exact .inr fun e => by
      have e1 : g = r := by simpa [Value.ownBlock] using e
      subst e1
      exact hr _ _ _ hgr
/-- A row and a term are put in their place. -/
theorem Filled.put (h : Filled w base lo g1 g2 rows out dn us os hi) {i : Nat} (hi' : i < rows.length) {u : Value} {r : List Int} {o : Int} (hr : rows[i]? = some r) (ho : out[i]? = some o) (hu : OwnI w hi w.heap.size u r) :
    Filled ((w.setCell ⟨g1, i, none⟩ u).setCell ⟨g2, i, none⟩ (.int .i64 o)) base lo g1 g2 rows out (fun j => dn j || j == i) (us.set i u) (os.set i (.int .i64 o)) w.heap.size := by
  have h12 : g1 ≠ g2 := h.c1.ne h.c2 (by decide)
  have hl1 := h.l1
  have hl2 := h.l2
  have hold : ∀ (j : Nat) (x : Value) (y : List Int), dn j = true → us[j]? = some x → rows[j]? = some y → OwnI ((w.setCell ⟨g1, i, none⟩ u).setCell ⟨g2, i, none⟩ (.int .i64 o)) lo hi x y := fun j x y a b c => by
    have hI := h.row j x y a b c
    have e1 : x.ownBlock ≠ some g1 := fun e => by have := hI.range _ e; have := h.lo1; omega
    have e2 : x.ownBlock ≠ some g2 := fun e => by have := hI.range _ e; have := h.lo2; omega
    exact (hI.set (a := ⟨g1, i, none⟩) e1 u).set (a := ⟨g2, i, none⟩) e2 _
  have e1 : u.ownBlock ≠ some g1 := fun e => by have := hu.range _ e; have := h.lo1; have := h.hi1; omega
  have e2 : u.ownBlock ≠ some g2 := fun e => by have := hu.range _ e; have := h.lo2; have := h.hi1; omega
  have hnew : OwnI ((w.setCell ⟨g1, i, none⟩ u).setCell ⟨g2, i, none⟩ (.int .i64 o)) hi w.heap.size u r := (hu.set (a := ⟨g1, i, none⟩) e1 u).set (a := ⟨g2, i, none⟩) e2 _
  have hsz : ((w.setCell ⟨g1, i, none⟩ u).setCell ⟨g2, i, none⟩ (.int .i64 o)).heap.size = w.heap.size := by simp [World.setCell]
  have who : ∀ (j : Nat) (x : Value), (dn j || j == i) = true → (us.set i u)[j]? = some x → (j = i ∧ x = u) ∨ (j ≠ i ∧ dn j = true ∧ us[j]? = some x) := fun j x a b => by
    by_cases e : j = i
    · subst e
      rw [List.getElem?_set_self (by omega)] at b
      exact .inl ⟨rfl, (Option.some.inj b).symm⟩
    · rw [List.getElem?_set_ne (Ne.symm e)] at b
      have : (j == i) = false := by simpa using e
      rw [this, Bool.or_false] at a
      exact .inr ⟨e, a, b⟩
  refine ⟨(h.c1.set i u).other (Ne.symm h12) _, (h.c2.other h12 u).set i _, by simp [hl1], by simp [hl2], h.l3, h.b1, h.b2, h.lo1, h.lo2, Nat.le_trans h.hi1 h.hi2, by rw [hsz]; exact Nat.le_refl _, fun j x y a b c => ?_, fun j k x x' a a' b b' hjk => ?_, fun j x a b => ?_⟩
  · rcases who j x a b with ⟨rfl, rfl⟩ | ⟨e, a', b'⟩
    · rw [hr] at c
      cases c
      exact hnew.mono h.hi1 (Nat.le_refl _) (by rw [hsz]; exact Nat.le_refl _)
    · exact (hold j x y a' b' c).mono (Nat.le_refl _) h.hi2 (by rw [hsz]; exact Nat.le_refl _)
  · have blk : ∀ (j : Nat) (x : Value), dn j = true → us[j]? = some x → ∀ n, x.ownBlock = some n → n < hi := fun j x a b n hn => by
      have hj := (List.getElem?_eq_some_iff.1 b).1
      exact (h.row j x _ a b (List.getElem?_eq_getElem (by omega))).lt n hn
    rcases who j x a b with ⟨rfl, rfl⟩ | ⟨e, a1, b1⟩ <;> rcases who k x' a' b' with ⟨rfl, rfl⟩ | ⟨f, a2, b2⟩
    · exact absurd rfl hjk
    · cases hx : x.ownBlock with
      | none => exact .inl rfl
      | some n =>
        refine .inr fun e => ?_
        have := (hu.range n hx).1
        have := blk k x' a2 b2 n e.symm
        omega
    · cases hx : x.ownBlock with
      | none => exact .inl rfl
      | some n =>
        refine .inr fun e => ?_
        have := (hu.range n e.symm).1
        have := blk j x a1 b1 n hx
        omega
    · exact h.apart j k x x' a1 a2 b1 b2 hjk
  · by_cases e : j = i
    · subst e
      rw [ho] at b
      cases b
      rw [List.getElem?_set_self (by omega)]
    · have h1 : (j == i) = false := by simpa using e
      rw [h1, Bool.or_false] at a
      rw [List.getElem?_set_ne (Ne.symm e)]
      exact h.out j x a b
/-- All has come. -/
theorem Filled.whole {b : Int} (h : Filled w base lo g1 g2 rows out dn us os hi) (hd : ∀ i < rows.length, dn i = true) (hn : rows.length ≤ 1000000) :
    OwnS w base w.heap.size (.agg #[.int .i64 b, .slice (some ⟨g1, 0, none⟩) rows.length rows.length, .slice (some ⟨g2, 0, none⟩) rows.length rows.length]) b rows out := by
  have hos : os = out.map (Value.int .i64) := by
    refine List.ext_getElem? fun i => ?_
    have hl2 := h.l2
    have hl3 := h.l3
    by_cases hi' : i < rows.length
    · obtain ⟨o, ho⟩ : ∃ o, out[i]? = some o := ⟨_, List.getElem?_eq_getElem (by omega)⟩
      rw [h.out i o (hd i hi') ho, List.getElem?_map, ho]
      rfl
    · rw [List.getElem?_eq_none (by omega), List.getElem?_eq_none (by simp; omega)]
  have c2 := h.c2
  rw [hos] at c2
  have c1 : CellsN w g1 25 (us.map id) := by rw [List.map_id]; exact h.c1
  have t1 : Has id 25 w base (.slice (some ⟨g1, 0, none⟩) rows.length rows.length) us := c1.has (enc := id) h.l1 h.b1 hn
  have t2 : Has (Value.int .i64) 3 w base (.slice (some ⟨g2, 0, none⟩) rows.length rows.length) out := c2.has (enc := Value.int .i64) h.l3 h.b2 hn
  have hlo : base ≤ lo := Nat.le_of_lt (Nat.lt_of_le_of_lt h.b1 h.lo1)
  have hR : OwnRows w lo hi us rows := by
    refine ⟨h.l1, fun i u r hu hr => h.row i u r (hd i (List.getElem?_eq_some_iff.1 hr).1) hu hr, fun i j u u' hu hu' hij => ?_⟩
    have hl1 := h.l1
    have h1 := (List.getElem?_eq_some_iff.1 hu).1
    have h2 := (List.getElem?_eq_some_iff.1 hu').1
    exact h.apart i j u u' (hd i (by omega)) (hd j (by omega)) hu hu' hij
  refine ⟨_, _, us, rfl, ⟨t1, fun k hk => (t1.lt k hk).2, Nat.le_refl _, (hR.lower hlo).mono h.hi2 (Nat.le_refl _)⟩, ?_⟩
  have hO : OwnI w base lo (.slice (some ⟨g2, 0, none⟩) rows.length rows.length) out := ⟨t2, fun k hk => by
    have : g2 = k := by simpa [Value.ownBlock] using hk
    have := h.lo2
    omega, Nat.le_trans h.hi1 h.hi2⟩
  exact hR.snoc_apart hO (.inr (Nat.le_refl _)) hlo (Nat.le_refl _) h.hi2 (Nat.le_trans h.hi1 h.hi2) (Nat.le_refl _)
end
theorem made_nils (n : Nat) : madeCells (Value.slice none 0 0).cells (n * 1) = (List.replicate n (Value.slice none 0 0)).toArray := by
  apply Array.toList_inj.1
  rw [show (Value.slice none 0 0).cells = #[Value.slice none 0 0] from rfl, toList_madeCells_one, Nat.mul_one]
theorem made_ints (n : Nat) : madeCells (Value.int .i64 0).cells (n * 1) = (List.replicate n (Value.int .i64 0)).toArray := by
  apply Array.toList_inj.1
  rw [show (Value.int .i64 0).cells = #[Value.int .i64 0] from rfl, toList_madeCells_one, Nat.mul_one]
theorem run_make_rows (n : Nat) (hn : n ≤ 1000) (W : World) : (Instr.makeSlice 24 (.int .i64 (n : Int)) (.int .i64 (n : Int))).run Try.prog W = .ok (.slice (some ⟨W.heap.size, 0, none⟩) n n) (W.alloc (.cells (List.replicate n (Value.slice none 0 0)).toArray 25)) := by
  obtain ⟨i0, hi, hz0, hz1, hz2⟩ := info_parts infoR
  have h := run_make (P := Try.prog) W 24 25 i0 (.slice none 0 0) Try.underlying24 hi hz0 .i64 .i64 n n (by omega) (Int.le_refl _) (by rw [hz2]; omega) (by omega)
  simp only [Int.toNat_natCast] at h
  rw [h, hz1, made_nils]
theorem run_make_ints (n : Nat) (hn : n ≤ 1000) (W : World) : (Instr.makeSlice 25 (.int .i64 (n : Int)) (.int .i64 (n : Int))).run Try.prog W = .ok (.slice (some ⟨W.heap.size, 0, none⟩) n n) (W.alloc (.cells (List.replicate n (Value.int .i64 0)).toArray 3)) := by
  obtain ⟨i0, hi, hz0, hz1, hz2⟩ := info_parts Ints.infoI
  have h := run_make (P := Try.prog) W 25 3 i0 (.int .i64 0) Try.underlying25 hi hz0 .i64 .i64 n n (by omega) (Int.le_refl _) (by rw [hz2]; omega) (by omega)
  simp only [Int.toNat_natCast] at h
  rw [h, hz1, made_ints]
theorem merge_held {W w' : World} {B mb K : Nat} {x : Value} {ks : List (List Int)} (hc : W.cell? ⟨B, 0, none⟩ = some x) (hm : MapOf encK W mb ks) (hk : K = ks.length) (hb : Below W.heap.size W w') :
    w'.cell? ⟨B, 0, none⟩ = some x ∧ ∀ ty, (Builtin.len_ #[78] ty #[.map (some mb)]).run Try.prog w' = .ok (.int .i64 (K : Int)) w' :=
  ⟨old_cell hb hc, fun ty => by rw [hk]; exact (hm.below hb).len_ Try.underlying78 ty⟩
theorem cn_rep {w : World} {b n : Nat} {t : TypeId} {x : Value} (h : b = w.heap.size) : CellsN (w.alloc (.cells (Array.replicate n x) t)) b t (List.replicate n x) := by
  subst h
  have h1 := CellsN.new w t (List.replicate n x)
  have h2 : (List.replicate n x).toArray = Array.replicate n x := by simp
  rw [h2] at h1
  exact h1
theorem merge_meet {wx W1 : World} {s : Value} {p g1 g2 K : Nat} {bn : Int} (hs : s = .pointer (some ⟨p, 0, none⟩)) (h1 : Cells3 wx p 27 (.int .i64 bn) (.slice (some ⟨g1, 0, none⟩) K K) (.slice (some ⟨g2, 0, none⟩) K K))
    (h2 : CellsN wx g1 25 (List.replicate K (.slice none 0 0))) (h3 : CellsN wx g2 3 (List.replicate K (.int .i64 0))) (h4 : W1.heap.size ≤ p ∧ W1.heap.size ≤ g1 ∧ W1.heap.size ≤ g2) (h5 : Below W1.heap.size W1 wx) :
    ∃ p g1 g2 : Nat, s = .pointer (some ⟨p, 0, none⟩) ∧ Hid (Cells3 wx p 27 (.int .i64 bn) (.slice (some ⟨g1, 0, none⟩) K K) (.slice (some ⟨g2, 0, none⟩) K K)) ∧ Hid (CellsN wx g1 25 (List.replicate K (.slice none 0 0))) ∧ Hid (CellsN wx g2 3 (List.replicate K (.int .i64 0))) ∧ Hid (W1.heap.size ≤ p ∧ W1.heap.size ≤ g1 ∧ W1.heap.size ≤ g2) ∧ Hid (Below W1.heap.size W1 wx) :=
  ⟨p, g1, g2, hs, h1, h2, h3, h4, h5⟩
theorem RangeOf.left_eq {κ : Type} {enc : κ → Value} {w : World} {b r : Nat} {keys : List κ} {dn : Nat → Bool} {cnt : Nat} (h : RangeOf enc w b r keys dn cnt) : w.rangeLeft b r = cnt := by
  obtain ⟨es, clock, since, seen, c0, hb, H, hr, hold, rfl, _⟩ := h
  simp [World.rangeLeft, hb, hr]
theorem two_cells' {w w' : World} {a0 b0 a1 b1 : Nat} {u0 u1 : Value} (hb : Below w.heap.size w w') (h0 : w.cell? ⟨a0, b0, none⟩ = some u0) (h1 : w.cell? ⟨a1, b1, none⟩ = some u1) :
    w'.cell? ⟨a0, b0, none⟩ = some u0 ∧ w'.cell? ⟨a1, b1, none⟩ = some u1 := ⟨old_cell hb h0, old_cell hb h1⟩
theorem grown_set {w : World} {a : Addr} (v : Value) : w.grownBy (w.setCell a v) (some a.block) :=
  ⟨rfl, rfl, rfl, by simp [World.setCell], fun k _ hk => by
    have : a.block ≠ k := fun e => hk (by rw [e])
    simp [World.setCell, Array.getElem?_modify, this]⟩
/-- slices.Clone of a part of a key. -/
theorem clone_row {w : World} {kb : Nat} {l : List Value} (h : CellsN w kb 83 l) (r : List Int) (n : Nat) (hr : r.length = n) (h4 : n ≤ 4) (hl : ∀ (j : Nat) (x : Int), r[j]? = some x → l[1 + j]? = some (.int .i64 x)) :
    Calls Try.prog 51 #[.slice (some ⟨kb, 1, none⟩) n 4] w fun e w' => ∃ v', e = .returned v' ∧ Has (Value.int .i64) 3 w' w.heap.size v' r ∧ Below w.heap.size w w' := by
  subst hr
  refine (Try.slices_Clone_int kb 1 r.length 4 r w (Nat.le_refl _) (by omega) (fun j hj => ?_)).mono fun e w' ⟨v', he, ho, _, hb⟩ => ⟨v', he, ?_, hb⟩
  · have h1 : r[j]? = some r[j] := List.getElem?_eq_getElem hj
    rw [h.at_ (hl j _ h1), List.getD_eq_getElem?_getD, h1]
    rfl
  · show w'.ownsRow _ _ _ _ _ _
    rw [List.take_length] at ho
    exact ho
set_option maxHeartbeats 2000000 in
theorem merged_any (v : Value) (b : Int) (rows : List (List Int)) (out : List Int) (w : World) (h : LiesS w v b rows out) (hv : IsSeq b rows out) :
    Calls Try.prog 59 #[v] w (GivesS b (rowsQ rows out) (outQ rows out) w) := by
  have HS := Lib.hid h
  obtain ⟨an, cn, ao, co, rfl⟩ := h.form
  clear h
  have HB : Hid (Below w.heap.size w (w.alloc (Obj.cells #[Value.int .i64 b, Value.slice an rows.length cn, Value.slice ao out.length co] 27))) := (Below.refl _ _).alloc (Nat.le_refl _) _
  have HC := Lib.hid (Cells3.new w 27 (.int .i64 b) (.slice an rows.length cn) (.slice ao out.length co))
  have HV := Lib.hid hv
  obtain ⟨bn, rfl⟩ : ∃ bn : Nat, b = (bn : Int) := ⟨b.toNat, by have := hv.1; omega⟩
  have hb2 : 2 ≤ bn := by have := hv.1; omega
  have hb4 : bn ≤ 4 := by have := hv.2.1; omega
  have hn16 : rows.length ≤ 16 := hv.2.2.2.1
  clear hv
  have HB1 := Lib.hid (HB.out.alloc (by simp) (Obj.cells #[Value.int .i64 0, Value.slice none 0 0, Value.slice none 0 0] 27))
  have HC1 := Lib.hid (HC.out.alloc (Obj.cells #[Value.int .i64 0, Value.slice none 0 0, Value.slice none 0 0] 27))
  have hZ := Cells3.new (w.alloc (Obj.cells #[Value.int .i64 (bn : Int), Value.slice an rows.length cn, Value.slice ao out.length co] 27)) 27 (.int .i64 0) (.slice none 0 0) (.slice none 0 0)
  rw [size_alloc'] at hZ
  have HZ1 := Lib.hid hZ
  have k0 := HC1.out.c0
  have k1 := HC1.out.c1
  have k2 := HC1.out.c2
  clear hZ HB HC
  go_enter Try.func59, Try.ntmps59
  go_wp2_with fail
  refine (classes_any _ _ rows out _ (HS.out.below HB1.out) HV.out).mono ?_
  rintro e W1 ⟨vc, mb, rfl, hvc, hm, hmb, b1⟩
  have HB2 := Lib.hid (HB1.out.trans (b1.mono HB1.out.size))
  have HC2 := Lib.hid (HC1.out.below b1)
  have HZ2 := Lib.hid (HZ1.out.below b1)
  have HS2 : Hid (w.heap.size + 2 ≤ W1.heap.size) := by have := HZ2.out.lt; show _ ≤ _; omega
  obtain ⟨ks, hks⟩ : ∃ ks, ks = keysQ rows out := ⟨_, rfl⟩
  have HKS := Lib.hid hks
  rw [← hks] at hm
  have HM := Lib.hid hm
  have hkl : ks.length ≤ 16 := by rw [hks]; have := keysQ_len rows out; omega
  obtain ⟨K, hK⟩ : ∃ K, K = ks.length := ⟨_, rfl⟩
  have HK := Lib.hid hK
  rw [← hK] at hkl
  have hL : Hid (∀ ty, (Builtin.len_ #[78] ty #[.map (some mb)]).run Try.prog W1 = .ok (.int .i64 (K : Int)) W1) := fun ty => by rw [hK]; exact hm.len_ Try.underlying78 ty
  have hmR := run_make_rows K (by omega)
  have hmI := run_make_ints K (by omega)
  clear hvc hm b1 hks hK HB1 HC1 HZ1 k0 k1 k2
  have k0 := HC2.out.c0
  have k1 := HC2.out.c1
  have k2 := HC2.out.c2
  go_wp2_with fail
  go_cut [5] (fun s wx => ∃ p g1 g2 : Nat, s = .pointer (some ⟨p, 0, none⟩) ∧ Hid (Cells3 wx p 27 (.int .i64 (bn : Int)) (.slice (some ⟨g1, 0, none⟩) K K) (.slice (some ⟨g2, 0, none⟩) K K)) ∧ Hid (CellsN wx g1 25 (List.replicate K (.slice none 0 0))) ∧ Hid (CellsN wx g2 3 (List.replicate K (.int .i64 0))) ∧ Hid (W1.heap.size ≤ p ∧ W1.heap.size ≤ g1 ∧ W1.heap.size ≤ g2) ∧ Hid (Below W1.heap.size W1 wx))
  case first =>
    go_region_held3 (fun w' => w'.cell? ⟨w.heap.size, 0, none⟩ = some (.int .i64 (bn : Int)) ∧ ∀ ty, (Builtin.len_ #[78] ty #[.map (some mb)]).run Try.prog w' = .ok (.int .i64 (K : Int)) w')
      ((refine merge_held HC2.out.c0 HM.out HK.out ?_; repeat (first | with_reducible exact Below.refl _ _ | with_reducible apply Below.drew | with_reducible apply below_allocs)))
      (fail)
    all_goals
      go_wp2_with fail
      go_meet
      apply merge_meet (hs := rfl)
      case h1 => repeat (first | with_reducible apply c3_drew | ((with_reducible refine c3_new' ?_) <;> (first | rfl | (simp; done) | omega)) | with_reducible apply Cells3.alloc)
      case h2 => repeat (first | with_reducible apply CellsN.drew | ((with_reducible refine cn_rep ?_) <;> (first | rfl | (simp; done) | omega)) | with_reducible apply CellsN.alloc)
      case h3 => repeat (first | with_reducible apply CellsN.drew | ((with_reducible refine cn_rep ?_) <;> (first | rfl | (simp; done) | omega)) | with_reducible apply CellsN.alloc)
      case h4 => refine ⟨?_, ?_, ?_⟩ <;> (first | exact Nat.le_refl _ | (simp; done) | omega)
      case h5 => repeat (first | with_reducible exact Below.refl _ _ | with_reducible apply Below.drew | with_reducible apply below_allocs)
  case rest =>
    obtain ⟨p, g1, g2, rfl, hM3, hG1, hG2, hge, hB⟩ := hcut
    obtain ⟨W2, rfl⟩ : ∃ W, W = wc := ⟨_, rfl⟩
    have hB2 := Lib.hid (HB2.out.trans (hB.out.mono HB2.out.size))
    have hC2 := Lib.hid (HC2.out.below hB.out)
    have hZ2 := Lib.hid (HZ2.out.below hB.out)
    have hMP := Lib.hid (HM.out.below hB.out)
    have HG := Lib.hid (show g1 < W2.heap.size ∧ g2 < W2.heap.size from ⟨hG1.out.lt, hG2.out.lt⟩)
    have HRL : Hid ((rowsQ rows out).length = K ∧ (outQ rows out).length = K) := by show _ ∧ _; rw [HK.out, HKS.out]; simp [rowsQ, outQ]
    have HKOK : Hid (∀ i x, ks[i]? = some x → OkK (bn + 1) x ∧ (rowsQ rows out)[i]? = some x.tail ∧ (outQ rows out)[i]? = some (x.headD 0)) := fun i x hx => by
      rw [HKS.out] at hx
      obtain ⟨s, hs, hxs⟩ := keysQ_mem (List.mem_of_getElem? hx)
      refine ⟨?_, by rw [rowsQ, List.getElem?_map, hx]; rfl, by rw [outQ, List.getElem?_map, hx]; rfl⟩
      rw [hxs]
      have h1 := keyC_ok HV.out (cls := classes rows out) (fun y hy => by
        have h2 := clsR_bd HV.out (rows.length + 1) y hy
        exact h2) hs
      rw [Int.toNat_natCast] at h1
      exact h1
    clear HB2 HC2 HZ2 HM hL hmR hmI k0 k1 k2 hB
    go_wp2_with (at_range; refine wpList_range_k _ rfl _ 78 rfl Try.underlying78 rfl hMP.out ?_; intro w3 hrg hg3 hsz3)
    go_frame
    have hb3 := below_of_grown hg3
    have hF3 : Hid (Filled w3 W1.heap.size w3.heap.size g1 g2 (rowsQ rows out) (outQ rows out) (fun _ => false) (List.replicate K (.slice none 0 0)) (List.replicate K (.int .i64 0)) w3.heap.size) :=
      ⟨hG1.out.below hb3, hG2.out.below hb3, by rw [List.length_replicate, HRL.out.1], by rw [List.length_replicate, HRL.out.1], by rw [HRL.out.1, HRL.out.2], hge.out.2.1, hge.out.2.2, by have := HG.out.1; omega, by have := HG.out.2; omega, Nat.le_refl _, Nat.le_refl _, fun i u r h => by simp at h, fun i j u u' h => by simp at h, fun i o h => by simp at h⟩
    have hM4 := Lib.hid (hM3.out.below hb3)
    have hC4 := Lib.hid (hC2.out.below hb3)
    have hZ4 := Lib.hid (hZ2.out.below hb3)
    have hB4 := Lib.hid (hB2.out.trans (hb3.mono hB2.out.size))
    have hrg' := Lib.hid hrg
    have HRB := Lib.hid hB2.out.size
    obtain ⟨r, hr⟩ : ∃ r, r = W2.heap.size := ⟨_, rfl⟩
    rw [← hr] at hrg' HRB ⊢
    obtain ⟨L, hL⟩ : ∃ L, L = w3.heap.size := ⟨_, rfl⟩
    rw [← hL] at hF3
    have HZW : Hid (w.heap.size + 2 ≤ W1.heap.size) := HS2
    clear hrg hg3 hsz3 hb3 hM3 hC2 hZ2 hB2 hr hL hG1 hG2 hMP
    obtain ⟨ky, hky⟩ : ∃ x : Nat, x = 0 := ⟨0, rfl⟩
    clear hky ky
    go_loopw [7] (fun _ wr => ∃ (dn : Nat → Bool) (cnt : Nat) (us os : List Value) (hi : Nat), Hid (RangeOf encK wr mb r ks dn cnt) ∧ Hid (Filled wr W1.heap.size L g1 g2 (rowsQ rows out) (outQ rows out) dn us os hi) ∧ Hid (Cells3 wr p 27 (.int .i64 (bn : Int)) (.slice (some ⟨g1, 0, none⟩) K K) (.slice (some ⟨g2, 0, none⟩) K K)) ∧ Hid (Cells3 wr w.heap.size 27 (.int .i64 (bn : Int)) (.slice an rows.length cn) (.slice ao out.length co)) ∧ Hid (Cells3 wr (w.heap.size + 1) 27 (.int .i64 0) (.slice none 0 0) (.slice none 0 0)) ∧ Hid (Below w.heap.size w wr)) (fun _ wr => wr.rangeLeft mb r)
    case atStart => exact ⟨_, _, _, _, _, hrg', hF3, hM4, hC4, hZ4, hB4⟩
    case round =>
      clear hrg' hF3 hM4 hC4 hZ4 hB4
      obtain ⟨dn, cnt, us, os, hi, hRG, hF, hM, hC, hZ, hB⟩ := hrel
      have HLE := Lib.hid (RangeOf.left_eq hRG.out)
      go_wp2_with (at_next; refine wpList_next_k _ rfl _ rfl rfl hRG.out ?_ ?_)
      · intro h0 hall
        have HALL : Hid (∀ i < (rowsQ rows out).length, dn i = true) := fun i hi => hall i (by rw [HRL.out.1, HK.out] at hi; exact hi)
        have HW := Lib.hid (hF.out.whole (b := (bn : Int)) HALL.out (by rw [HRL.out.1]; omega))
        rw [HRL.out.1] at HW
        clear h0 hall
        have m0 := hM.out.c0
        have m1 := hM.out.c1
        have m2 := hM.out.c2
        have z0 := hZ.out.c0
        have z1 := hZ.out.c1
        have z2 := hZ.out.c2
        have z3 := hZ.out.f
        go_wp2
        have hZ3 := (((hZ.out.set0 (.int .i64 (bn : Int))).set1 (.slice (some ⟨g1, 0, none⟩) K K)).set2 (.slice (some ⟨g2, 0, none⟩) K K))
        have n0 := hZ3.c0
        have n1 := hZ3.c1
        have n2 := hZ3.c2
        refine bodyPost_ret (v := .agg #[.int .i64 (bn : Int), .slice (some ⟨g1, 0, none⟩) K K, .slice (some ⟨g2, 0, none⟩) K K]) (by simp [results, Try.results59, go_sem, n0, n1, n2]) rfl ⟨_, rfl, ?_, ?_⟩
        · have T0 : Plain.Touch w.heap.size (w.heap.size + 2) wr (((wr.setCell ⟨w.heap.size + 1, 0, none⟩ (.int .i64 (bn : Int))).setCell ⟨w.heap.size + 1, 1, none⟩ (.slice (some ⟨g1, 0, none⟩) K K)).setCell ⟨w.heap.size + 1, 2, none⟩ (.slice (some ⟨g2, 0, none⟩) K K)) :=
            ((Plain.Touch.of_set _ (by show _ ≤ _ + 1; omega) (by show _ + 1 < _; omega)).trans (Plain.Touch.of_set _ (by show _ ≤ _ + 1; omega) (by show _ + 1 < _; omega))).trans (Plain.Touch.of_set _ (by show _ ≤ _ + 1; omega) (by show _ + 1 < _; omega))
          have := (HW.out.touch T0 (.inr HZW.out)).lower (show w.heap.size ≤ W1.heap.size by have := HZW.out; omega)
          simpa only [size_setCell'] using this
        · exact ((hB.out.setCell (by show _ ≤ _ + 1; omega) _).setCell (by show _ ≤ _ + 1; omega) _).setCell (by show _ ≤ _ + 1; omega) _
      · intro i x w1 cnt1 hx hdi hrg1 hlt hg1' hsz1 hen
        obtain ⟨hxo, hxr, hxq⟩ := HKOK.out i x hx
        obtain ⟨o, y, rfl⟩ : ∃ o y, x = o :: y := by
          cases x with
          | nil => have := hxo.1; simp at this
          | cons o y => exact ⟨o, y, rfl⟩
        have hyl : y.length = bn := by have := hxo.1; simp at this; omega
        have hik : i < K := by rw [HK.out]; exact (List.getElem?_eq_some_iff.1 hx).1
        obtain ⟨v1, v2, v3, v4, hek⟩ : ∃ v1 v2 v3 v4 : Int, encK (o :: y) = .agg #[.int .i64 o, .int .i64 v1, .int .i64 v2, .int .i64 v3, .int .i64 v4] ∧ ∀ (j : Nat) (z : Int), y[j]? = some z → [Value.int .i64 o, .int .i64 v1, .int .i64 v2, .int .i64 v3, .int .i64 v4][1 + j]? = some (.int .i64 z) := by
          refine ⟨_, _, _, _, rfl, fun j z hz => ?_⟩
          have hj := (List.getElem?_eq_some_iff.1 hz).1
          have h1 : (o :: y).getD (1 + j) 0 = z := by rw [Nat.add_comm, List.getD_eq_getElem?_getD, List.getElem?_cons_succ, hz]; rfl
          have : j = 0 ∨ j = 1 ∨ j = 2 ∨ j = 3 := by omega
          rcases this with rfl | rfl | rfl | rfl <;> (simp only [List.getElem?_cons_succ, List.getElem?_cons_zero]; rw [← h1])
        rw [hek.1] at hen ⊢
        have HEK := Lib.hid hek.2
        have HYL := Lib.hid hyl
        have HXR := Lib.hid hxr
        have HXQ := Lib.hid hxq
        have HRG1 := Lib.hid hrg1
        have HLT := Lib.hid hlt
        have nr : ∀ {g : Nat} {cs : Array Value} {t : TypeId} {fz : Nat × Nat}, wr.heap[g]? = some (.cells cs t fz) → g ≠ r := fun h => (hRG.out.ne_cells h).2
        have hF1 := Lib.hid (hF.out.other hg1' (fun cs t fz h => nr h rfl))
        have hM1 := Lib.hid (hM.out.grown hg1' (fun e => nr hM.out.row (Option.some.inj e).symm))
        have hC1 := Lib.hid (hC.out.grown hg1' (fun e => nr hC.out.row (Option.some.inj e).symm))
        have hZ1 := Lib.hid (hZ.out.grown hg1' (fun e => nr hZ.out.row (Option.some.inj e).symm))
        have hrb : w.heap.size ≤ r := HRB.out
        have hB1 := Lib.hid (hB.out.grown hg1' hB.out.size (fun k hk => by cases hk; exact hrb))
        have hBk : Below w1.heap.size w1 (w1.alloc (Obj.cells #[Value.int .i64 o, Value.int .i64 v1, Value.int .i64 v2, Value.int .i64 v3, Value.int .i64 v4] 83)) := (Below.refl _ _).alloc (Nat.le_refl _) _
        have hKC : CellsN (w1.alloc (Obj.cells #[Value.int .i64 o, Value.int .i64 v1, Value.int .i64 v2, Value.int .i64 v3, Value.int .i64 v4] 83)) w1.heap.size 83 [Value.int .i64 o, Value.int .i64 v1, Value.int .i64 v2, Value.int .i64 v3, Value.int .i64 v4] := CellsN.new w1 83 _
        have HKC := Lib.hid hKC
        have HRG2 := Lib.hid (HRG1.out.below hBk)
        have hF2 := Lib.hid (hF1.out.below hBk)
        have hM2 := Lib.hid (hM1.out.below hBk)
        have hC2 := Lib.hid (hC1.out.below hBk)
        have hZ2 := Lib.hid (hZ1.out.below hBk)
        have hB2 := Lib.hid (hB1.out.trans (hBk.mono hB1.out.size))
        have HW1 : Hid (∃ kb, kb = w1.heap.size) := ⟨_, rfl⟩
        have hMk := hM2.out.c1
        have hik0 : (i : Int) < (K : Int) := by omega
        have hii0 : (0 : Int) ≤ (i : Int) := Int.natCast_nonneg _
        have hbn0 : (0 : Int) ≤ (bn : Int) := Int.natCast_nonneg _
        have hbn4 : (bn : Int) ≤ 4 := by omega
        obtain ⟨z, hz⟩ : ∃ z, us[i]? = some z := ⟨_, List.getElem?_eq_getElem (by have := hF.out.l1; have := HRL.out.1; omega)⟩
        have HUZ := Lib.hid hz
        clear hx hxo hxr hxq hek hyl hrg1 hlt hg1' hsz1 hBk hKC nr hz hF hM hC hZ hB hF1 hM1 hC1 hZ1 hB1 HRG1 hRG
        go_wp2_with fail
        obtain ⟨kb, hkb⟩ : ∃ kb, kb = w1.heap.size := ⟨_, rfl⟩
        obtain ⟨W5, hW5⟩ : ∃ W, W = w1.alloc (Obj.cells #[Value.int .i64 o, Value.int .i64 v1, Value.int .i64 v2, Value.int .i64 v3, Value.int .i64 v4] 83) := ⟨_, rfl⟩
        rw [← hW5] at HKC HRG2 hF2 hM2 hC2 hZ2 hB2 hMk ⊢
        rw [← hkb] at HKC ⊢
        clear hW5 hkb HW1
        have HCL := Lib.hid (fun (W : World) (hW : Below W5.heap.size W5 W) => clone_row (HKC.out.below hW) y bn HYL.out hb4 HEK.out)
        have c0 := hC2.out.c0
        have HNE := Lib.hid (show g1 ≠ p ∧ g1 ≠ w.heap.size from ⟨hF2.out.c1.ne3 hM2.out (by decide), hF2.out.c1.ne3 hC2.out (by decide)⟩)
        go_region_held3 (fun w' => w'.cell? ⟨p, 1, none⟩ = some (.slice (some ⟨g1, 0, none⟩) K K) ∧ w'.cell? ⟨w.heap.size, 0, none⟩ = some (.int .i64 (bn : Int)))
          (first | exact two_cells' ((below_drew' W5).trans bcl) hMk c0 | exact ⟨((hM2.out.below ((below_drew' W5).trans bcl)).other (a := ⟨g1, i, none⟩) HNE.out.1 _).c1, ((hC2.out.below ((below_drew' W5).trans bcl)).other (a := ⟨g1, i, none⟩) HNE.out.2 _).c0⟩ | (refine two_cells' ?_ hMk c0; repeat (first | with_reducible exact Below.refl _ _ | with_reducible apply Below.drew)))
          ((go_at_call 51; refine (HCL.out _ (by repeat (first | with_reducible exact Below.refl _ _ | with_reducible apply Below.drew))).mono ?_; rintro e wc ⟨vcl, rfl, hcl, bcl⟩; obtain ⟨va, vp, rfl, _⟩ := hcl.form; have hFc := hF2.out.below ((below_drew' W5).trans bcl); have q1 := hFc.c1.at_ HUZ.out; have q2 := hFc.c1.f i))
        all_goals
          have hb5 := (below_drew' W5).trans bcl
          have hu : OwnI wc hi wc.heap.size (.slice va y.length vp) y := ⟨hcl.mono hF2.out.hi2, fun k hk => (hcl.lt k hk).2, Nat.le_refl _⟩
          have HP := Lib.hid (hFc.put (by rw [HRL.out.1]; exact hik) HXR.out HXQ.out hu)
          have g12 : g1 ≠ g2 := hFc.c1.ne hFc.c2 (by decide)
          have gk1 : g1 ≠ kb := hF2.out.c1.ne HKC.out (by decide)
          have gp1 : g1 ≠ p := HNE.out.1
          have gp2 : g2 ≠ p := hF2.out.c2.ne3 hM2.out (by decide)
          have gc1 : g1 ≠ w.heap.size := HNE.out.2
          have gc2 : g2 ≠ w.heap.size := hF2.out.c2.ne3 hC2.out (by decide)
          have gz1 : g1 ≠ w.heap.size + 1 := hF2.out.c1.ne3 hZ2.out (by decide)
          have gz2 : g2 ≠ w.heap.size + 1 := hF2.out.c2.ne3 hZ2.out (by decide)
          have gb1 : w.heap.size ≤ g1 := by have := hFc.b1; have := HZW.out; omega
          have gb2 : w.heap.size ≤ g2 := by have := hFc.b2; have := HZW.out; omega
          have hR5 := HRG2.out.below hb5
          have gm1 := hR5.ne_cells hFc.c1.row
          have gm2 := hR5.ne_cells hFc.c2.row
          have hR6 := (hR5.grown (grown_set (a := ⟨g1, i, none⟩) (.slice va y.length vp)) (fun e => gm1.1 (Option.some.inj e)) (fun e => gm1.2 (Option.some.inj e))).grown (grown_set (a := ⟨g2, i, none⟩) (.int .i64 o)) (fun e => gm2.1 (Option.some.inj e)) (fun e => gm2.2 (Option.some.inj e))
          have HR6 := Lib.hid hR6
          have hM5 := (hM2.out.below hb5).other (a := ⟨g1, i, none⟩) gp1 (.slice va y.length vp)
          have hC5 := (hC2.out.below hb5).other (a := ⟨g1, i, none⟩) gc1 (.slice va y.length vp)
          have hZ5 := (hZ2.out.below hb5).other (a := ⟨g1, i, none⟩) gz1 (.slice va y.length vp)
          have hK5 := (HKC.out.below hb5).other (a := ⟨g1, i, none⟩) gk1 (.slice va y.length vp)
          have hO5 := hFc.c2.other (a := ⟨g1, i, none⟩) g12 (.slice va y.length vp)
          obtain ⟨zo, hzo⟩ : ∃ z, os[i]? = some z := ⟨_, List.getElem?_eq_getElem (by have := hFc.l2; have := HRL.out.1; omega)⟩
          have j2 := hM5.c2
          have jk := hK5.at_ (i := 0) rfl
          have jo := hO5.at_ hzo
          have jf := hO5.f i
          have HM6 := Lib.hid (hM5.other (a := ⟨g2, i, none⟩) gp2 (.int .i64 o))
          have HC6 := Lib.hid (hC5.other (a := ⟨g2, i, none⟩) gc2 (.int .i64 o))
          have HZ6 := Lib.hid (hZ5.other (a := ⟨g2, i, none⟩) gz2 (.int .i64 o))
          have HB6 : Hid (Below w.heap.size w ((wc.setCell ⟨g1, i, none⟩ (.slice va y.length vp)).setCell ⟨g2, i, none⟩ (.int .i64 o))) := ((hB2.out.trans (hb5.mono hB2.out.size)).setCell gb1 _).setCell gb2 _
          clear hb5 hu hR5 hR6 hM5 hC5 hZ5 hK5 hO5 hzo hFc hcl bcl q1 q2 c0 hMk HCL gm1 gm2
          go_wp2
          go_roundw
          case rel => exact ⟨_, cnt1, _, _, wc.heap.size, HR6, HP, HM6, HC6, HZ6, HB6⟩
          case measure => rw [RangeOf.left_eq HR6.out, HLE.out]; exact HLT.out
end Mins
end Go.Proofs.Ytdgfecjakmdheaa
/- Contract of the function that keeps the states that can be reached. No conditions beyond those that each states. -/
namespace Go.Proofs.Ytdgfecjakmdheaa
open Go.ChangeShapes Go.WideShapes Go.ChangeAt Go.RowKit
open Go.PlainAid Plain
set_option linter.unusedVariables false
namespace Mins
open Seqs
theorem index_any (v : Value) (xs : List Int) (x : Int) (w : World) (h : Lies (Value.int .i64) w v xs) (hx : x ∈ xs) (hn : xs.Nodup) :
    Calls Try.prog 73 #[v, .int .i64 x] w fun e w' => e = .returned (.int .i64 (ix xs x)) ∧ w = w' := by
  have hl := idxOf_lt hx
  obtain ⟨q, s, c', rfl, hcl⟩ := ints_at h (by omega)
  have gd : ∀ j < xs.length, xs[j]? = some (xs.getD j 0) := fun j hj => by
    rw [List.getD_eq_getElem?_getD, List.getElem?_eq_getElem hj]
    rfl
  refine (Try.slices_Index_int q s xs.length c' xs x w (Nat.le_refl _) h.1 (fun j hj => hcl j _ (gd j hj))).mono fun _ _ ⟨he, hw⟩ => ⟨?_, hw.symm⟩
  rw [he, List.take_length]
  have h1 : xs.getD (ix xs x) 0 = x := Option.some.inj ((gd _ hl).symm.trans (get_idxOf hx))
  have h2 := Lib.idxFrom_hit x xs (ix xs x) 0 hl h1 (fun j hj e => by
    have h3 := gd j (by omega)
    rw [e] at h3
    have := idxOf_get hn h3
    omega)
  show Ending.returned (.int .i64 (Lib.idxFrom xs x 0)) = _
  rw [h2, Nat.zero_add]
/-- What a round finds. -/
theorem search_facts {b : Int} {rows : List (List Int)} {out : List Int} (hv : IsSeq b rows out) {i : Nat} (hi : i < (reached rows).length) :
    ∃ (sn : Nat) (r : List Int) (o : Int), (reached rows)[i]? = some (sn : Int) ∧ sn < rows.length ∧ rows[sn]? = some r ∧ out[sn]? = some o ∧ (r.length : Int) = b ∧ 0 < r.length ∧ r.length ≤ 4 ∧ (∀ x ∈ r, x ∈ reached rows) ∧ minRow rows (reached rows) sn = r.map (fun x => (ix (reached rows) x : Int)) ∧ out.getD ((sn : Int)).toNat 0 = o := by
  have hc := hv.closed
  have h1 : (reached rows)[i]? = some (reached rows)[i] := List.getElem?_eq_getElem hi
  have h2 := (reachI_ok hc rows.length).2 _ (List.getElem_mem hi)
  have h2' : 0 ≤ (reached rows)[i] ∧ (reached rows)[i] < (rows.length : Int) := h2
  have h3 := rowOf_get h2'.1 h2'.2
  have h4 := hv.2.2.2.2.2.1 _ (rowOf_mem h2'.1 h2'.2)
  have h5 := hv.1
  have h6 := hv.2.1
  have h7 := hv.2.2.2.2.1
  obtain ⟨sn, hsn⟩ : ∃ sn : Nat, (sn : Int) = (reached rows)[i] := ⟨(reached rows)[i].toNat, by omega⟩
  rw [← hsn] at h1 h2' h3 h4
  rw [Int.toNat_natCast] at h3
  obtain ⟨o, ho⟩ : ∃ o, out[sn]? = some o := ⟨_, List.getElem?_eq_getElem (by omega)⟩
  refine ⟨sn, rowOf rows sn, o, h1, by omega, h3, ho, h4.1, by omega, by omega, fun x hx => reached_next hc (List.mem_of_getElem? h1) hx, rfl, ?_⟩
  rw [Int.toNat_natCast, List.getD_eq_getElem?_getD, ho]
  rfl
theorem take_map_snoc {α β : Type} {l : List α} {i : Nat} {x : α} (f : α → β) (h : l[i]? = some x) : (l.take (i + 1)).map f = (l.take i).map f ++ [f x] := by
  obtain ⟨hk, rfl⟩ := List.getElem?_eq_some_iff.1 h
  rw [List.take_succ_eq_append_getElem hk, List.map_append]
  rfl
theorem fill_ix {l : List Int} {n i : Nat} (c : Int) (hl : l.length = i) (h : i < n) : ((l ++ List.replicate (n - i) 0).map (Value.int .i64)).set i (.int .i64 c) = ((l ++ [c]) ++ List.replicate (n - (i + 1)) 0).map (Value.int .i64) := by
  rw [show n - i = (n - (i + 1)) + 1 from by omega, List.replicate_succ, List.map_append, List.map_cons, set_mid _ _ _ _ i (by rw [List.length_map]; exact hl), List.append_assoc, List.map_append]
  rfl
set_option maxHeartbeats 2000000 in
theorem searched_any (v : Value) (b : Int) (rows : List (List Int)) (out : List Int) (w : World) (h : LiesS w v b rows out) (hv : IsSeq b rows out) :
    Calls Try.prog 60 #[v] w (GivesS b (searchR rows) (searchO rows out) w) := by
  obtain ⟨i0, hi0, hz0, hz1, hz2⟩ := info_parts Ints.infoI
  obtain ⟨i2, hi2, hz20, hz21, hz22⟩ := info_parts infoR
  have HS := Lib.hid h
  obtain ⟨an, cn, ao, co, rfl⟩ := h.form
  clear h
  have HB : Hid (Below w.heap.size w (w.alloc (Obj.cells #[Value.int .i64 b, Value.slice an rows.length cn, Value.slice ao out.length co] 27))) := (Below.refl _ _).alloc (Nat.le_refl _) _
  have HC := Lib.hid (Cells3.new w 27 (.int .i64 b) (.slice an rows.length cn) (.slice ao out.length co))
  have HV := Lib.hid hv
  have HQ := Lib.hid (seqB_yes hv)
  obtain ⟨bn, rfl⟩ : ∃ bn : Nat, b = (bn : Int) := ⟨b.toNat, by have := hv.1; omega⟩
  have hb2 : 2 ≤ bn := by have := hv.1; omega
  have hb4 : bn ≤ 4 := by have := hv.2.1; omega
  have hn16 : rows.length ≤ 16 := hv.2.2.2.1
  obtain ⟨R, hR⟩ : ∃ R, R = reached rows := ⟨_, rfl⟩
  have HRE := Lib.hid hR
  have hR16 : R.length ≤ 16 := by rw [hR]; have := reached_len hv.closed; omega
  have hR1 : 0 < R.length := by rw [hR]; exact (List.getElem?_eq_some_iff.1 (reached_zero rows)).1
  have HRN : Hid R.Nodup := by rw [hR]; exact (reachI_ok hv.closed _).1
  clear hv hR
  have HB1 := Lib.hid (HB.out.alloc (by simp) (Obj.cells #[Value.int .i64 0, Value.slice none 0 0, Value.slice none 0 0] 27))
  have HC1 := Lib.hid (HC.out.alloc (Obj.cells #[Value.int .i64 0, Value.slice none 0 0, Value.slice none 0 0] 27))
  have hZ := Cells3.new (w.alloc (Obj.cells #[Value.int .i64 (bn : Int), Value.slice an rows.length cn, Value.slice ao out.length co] 27)) 27 (.int .i64 0) (.slice none 0 0) (.slice none 0 0)
  rw [size_alloc'] at hZ
  have HZ1 := Lib.hid hZ
  have k0 := HC1.out.c0
  have k1 := HC1.out.c1
  have k2 := HC1.out.c2
  clear hZ HB HC
  go_enter Try.func60, Try.ntmps60
  go_wp2_with fail
  refine (impl_reach_yes _ _ rows out _ (HS.out.below HB1.out) HQ.out).mono ?_
  rintro e W1 ⟨rv, rfl, hrv, b1⟩
  have HB2 := Lib.hid (HB1.out.trans (b1.mono HB1.out.size))
  have HC2 := Lib.hid (HC1.out.below b1)
  have HZ2 := Lib.hid (HZ1.out.below b1)
  rw [← HRE.out] at hrv
  obtain ⟨ra, rc, rfl, hra⟩ := hrv.form
  obtain ⟨rq, rfl⟩ := hra hR1
  have HRV := Lib.hid (hrv.mono HB1.out.size)
  clear hrv b1 hra HB1 HC1 HZ1 k0 k1 k2
  have k0 := HC2.out.c0
  have k1 := HC2.out.c1
  have k2 := HC2.out.c2
  go_wp2_with fail
  have HS2 : Hid (w.heap.size + 2 ≤ W1.heap.size) := by have := HZ2.out.lt; show _ ≤ _; omega
  have hBx : Below W1.heap.size W1 (W1.alloc (Obj.cells #[Value.int .i64 (bn : Int), Value.slice none 0 0, Value.slice none 0 0] 27)) := (Below.refl _ _).alloc (Nat.le_refl _) _
  have hB3 := Lib.hid (HB2.out.trans (hBx.mono HB2.out.size))
  have hC3 := Lib.hid (HC2.out.below hBx)
  have hZ3 := Lib.hid (HZ2.out.below hBx)
  have hP3 := Lib.hid (Cells3.new W1 27 (.int .i64 (bn : Int)) (.slice none 0 0) (.slice none 0 0))
  have hV3 := Lib.hid (HRV.out.below hBx)
  obtain ⟨p, hp⟩ : ∃ p, p = W1.heap.size := ⟨_, rfl⟩
  obtain ⟨W2, hW2⟩ : ∃ W, W = W1.alloc (Obj.cells #[Value.int .i64 (bn : Int), Value.slice none 0 0, Value.slice none 0 0] 27) := ⟨_, rfl⟩
  rw [← hW2] at hB3 hC3 hZ3 hP3 hV3 ⊢
  rw [← hp] at hP3 HS2 ⊢
  obtain ⟨BB, hBB⟩ : ∃ B, B = W2.heap.size := ⟨_, rfl⟩
  have hBL : Hid (Building W2 BB BB p (bn : Int) (.slice none 0 0) (.slice none 0 0) [] ((R.take 0).map (minRow rows R)) ((R.take 0).map fun s => out.getD s.toNat 0)) := Building.start hP3.out (by rw [hBB]; exact Nat.le_refl _)
  have hRV3 : Hid (OwnI W2 w.heap.size BB (.slice (some ⟨rq, 0, none⟩) R.length rc) R) := ⟨hV3.out, fun k hk => by rw [hBB]; exact (hV3.out.lt k hk).2, by rw [hBB]; exact Nat.le_refl _⟩
  have HBB : Hid (p < BB ∧ w.heap.size + 2 ≤ BB) := by
    have h1 := hP3.out.lt
    have h2 := HS2.out
    show _ ∧ _
    omega
  clear hW2 hp hBB hBx hP3 hV3 HB2 HC2 HZ2 HRV k0 k1 k2
  go_loopw [17] (fun i' wr => ∃ (i : Nat) (vn vo : Value) (us : List Value) (hi : Nat), i ≤ R.length ∧ i' = .int .i64 i ∧ Hid (Building wr BB hi p (bn : Int) vn vo us ((R.take i).map (minRow rows R)) ((R.take i).map fun s => out.getD s.toNat 0)) ∧ Hid (OwnI wr w.heap.size BB (.slice (some ⟨rq, 0, none⟩) R.length rc) R) ∧ Hid (Cells3 wr w.heap.size 27 (.int .i64 (bn : Int)) (.slice an rows.length cn) (.slice ao out.length co)) ∧ Hid (Cells3 wr (w.heap.size + 1) 27 (.int .i64 0) (.slice none 0 0) (.slice none 0 0)) ∧ Hid (Below w.heap.size w wr)) (fun i' _ => R.length - (intOf i').toNat)
  case atStart => exact ⟨0, _, _, [], BB, Nat.zero_le _, rfl, hBL, hRV3, hC3, hZ3, hB3⟩
  case round =>
    clear hBL hRV3 hC3 hZ3 hB3
    obtain ⟨i, vn, vo, us, hi, hil, rfl, hBL, hRV, hC, hZ, hB⟩ := hrel
    obtain ⟨W3, rfl⟩ : ∃ W : World, W = wr := ⟨_, rfl⟩
    obtain ⟨na, nc, oa, oc, hvn, hvo⟩ := hBL.out.form
    by_cases hlt : i < R.length
    case neg =>
      obtain rfl : i = R.length := by omega
      have HE : Hid ((R.take R.length).map (minRow rows R) = searchR rows ∧ ((R.take R.length).map fun s => out.getD s.toNat 0) = searchO rows out) := by
        show _ ∧ _
        rw [List.take_length, HRE.out]
        exact ⟨rfl, rfl⟩
      have HW : Hid (OwnS W3 BB W3.heap.size (.agg #[.int .i64 (bn : Int), vn, vo]) (bn : Int) (searchR rows) (searchO rows out)) := by
        have h1 := hBL.out.seq
        rw [HE.out.1, HE.out.2] at h1
        exact h1
      have hP := hBL.out.cells
      subst hvn; subst hvo
      have m0 := hP.c0
      have m1 := hP.c1
      have m2 := hP.c2
      have z0 := hZ.out.c0
      have z1 := hZ.out.c1
      have z2 := hZ.out.c2
      have z3 := hZ.out.f
      obtain ⟨l1, hl1⟩ : ∃ l, l = ((R.take R.length).map (minRow rows R)).length := ⟨_, rfl⟩
      obtain ⟨l2, hl2⟩ : ∃ l, l = ((R.take R.length).map fun s => out.getD s.toNat 0).length := ⟨_, rfl⟩
      rw [← hl1] at m1 HW
      rw [← hl2] at m2 HW
      clear hP hl1 hl2
      go_wp2
      have hZ3 := (((hZ.out.set0 (.int .i64 (bn : Int))).set1 (.slice na l1 nc)).set2 (.slice oa l2 oc))
      have n0 := hZ3.c0
      have n1 := hZ3.c1
      have n2 := hZ3.c2
      refine bodyPost_ret (v := .agg #[.int .i64 (bn : Int), .slice na l1 nc, .slice oa l2 oc]) (by simp [results, Try.results60, go_sem, n0, n1, n2]) rfl ⟨_, rfl, ?_, ?_⟩
      · have T0 : Plain.Touch w.heap.size (w.heap.size + 2) W3 (((W3.setCell ⟨w.heap.size + 1, 0, none⟩ (.int .i64 (bn : Int))).setCell ⟨w.heap.size + 1, 1, none⟩ (.slice na l1 nc)).setCell ⟨w.heap.size + 1, 2, none⟩ (.slice oa l2 oc)) :=
          ((Plain.Touch.of_set _ (by show _ ≤ _ + 1; omega) (by show _ + 1 < _; omega)).trans (Plain.Touch.of_set _ (by show _ ≤ _ + 1; omega) (by show _ + 1 < _; omega))).trans (Plain.Touch.of_set _ (by show _ ≤ _ + 1; omega) (by show _ + 1 < _; omega))
        have := (HW.out.touch T0 (.inr HBB.out.2)).lower (show w.heap.size ≤ BB by have := HBB.out.2; omega)
        simpa only [size_setCell'] using this
      · exact ((hB.out.setCell (by show _ ≤ _ + 1; omega) _).setCell (by show _ ≤ _ + 1; omega) _).setCell (by show _ ≤ _ + 1; omega) _
    case pos =>
      obtain ⟨sn, r, o, hs, hsn, hr, ho, hrl, hr0, hr4, hrB, hmr, hoo⟩ := search_facts HV.out (i := i) (by rw [← HRE.out]; exact hlt)
      rw [← HRE.out] at hs hrB hmr
      obtain ⟨l1, hl1⟩ : ∃ l, l = ((R.take i).map (minRow rows R)).length := ⟨_, rfl⟩
      obtain ⟨l2, hl2⟩ : ∃ l, l = ((R.take i).map fun s => out.getD s.toNat 0).length := ⟨_, rfl⟩
      have hl1' : l1 ≤ 16 := by rw [hl1]; simp; omega
      have hl2' : l2 ≤ 16 := by rw [hl2]; simp; omega
      have HUSL : Hid (us.length = l1) := by show _ = _; rw [hl1]; exact hBL.out.len
      have HL2 := Lib.hid hl2
      rw [← hl1] at hvn
      rw [← hl2] at hvo
      subst hvn; subst hvo
      clear hl1 hl2
      have HSI := Lib.hid hs
      have HRR := Lib.hid hr
      have HOO := Lib.hid ho
      have HRB := Lib.hid hrB
      have HMR := Lib.hid hmr
      have HOV := Lib.hid hoo
      have hrl' : r.length = bn := by omega
      have HRL := Lib.hid hrl'
      have o1 := (ints_at hRV.out.lies hR1)
      obtain ⟨q1, s1, c1', hv1, hcl1⟩ := o1
      injection hv1 with e1 e2 e3
      injection e1 with e1
      injection e1 with e1 e4
      subst e1; subst e4
      have o1 := hcl1 i _ hs
      rw [Nat.zero_add] at o1
      obtain ⟨pa, off, hpa, q, t, c, o2', hcl⟩ := seq_row HS.out hr hr0
      have o2 := old_cell hB.out o2'
      have HCL := Lib.hid hcl
      have k0 := hC.out.c0
      have k1 := hC.out.c1
      have k2 := hC.out.c2
      rw [hpa] at k1
      clear hpa
      have hii0 : (0 : Int) ≤ (i : Int) := Int.natCast_nonneg _
      have hsn0 : (0 : Int) ≤ (sn : Int) := Int.natCast_nonneg _
      have hiR : (i : Int) < (R.length : Int) := by omega
      have hsN : (sn : Int) < (rows.length : Int) := by omega
      clear hs hr ho hrB hmr hoo hrl hrl' hcl1 hcl o2' e2 e3
      go_wp2_with (at_make; refine wpList_make_full W3 rfl _ _ 25 rfl W3.heap.size 3 i0 (.int .i64 0) 1 Try.underlying25 hi0 hz0 hz1 .i64 .i64 _ _ bn rfl rfl rfl rfl (by rw [hz2]; omega) (by unfold maxLen; omega) (Nat.le_refl _) ?_; intro w1 hown hgrow; have hbw := below_of_grown hgrow; have o2'' := old_cell hbw o2; have k1' := old_cell hbw k1)
      have hO : Hid (w1.ownsRow W3.heap.size 3 1 (.slice (some ⟨W3.heap.size, 0, none⟩) bn bn) bn (((r.take 0).map (fun x => (ix R x : Int)) ++ List.replicate (bn - 0) (0 : Int)).map (Value.int .i64))) := by
        show w1.ownsRow _ _ _ _ _ _
        rw [Ints.zero_made] at hown
        simpa using hown
      have hBW := Lib.hid hbw
      obtain ⟨zb, hzb⟩ : ∃ z, z = W3.heap.size := ⟨_, rfl⟩
      have HZB := Lib.hid hzb
      rw [← hzb] at hO ⊢
      clear hown hgrow hbw hzb o2'' k1' k0 k1 k2 o1 o2
      go_loopw [30] (fun k' wr => ∃ k : Nat, k ≤ r.length ∧ k' = .int .i64 k ∧ Hid (wr.ownsRow zb 3 1 (.slice (some ⟨zb, 0, none⟩) bn bn) bn (((r.take k).map (fun x => (ix R x : Int)) ++ List.replicate (bn - k) (0 : Int)).map (Value.int .i64))) ∧ Hid (Below W3.heap.size W3 wr)) (fun k' _ => r.length - (intOf k').toNat)
      case atStart => exact ⟨0, Nat.zero_le _, rfl, hO, hBW⟩
      case round =>
        clear hO hBW
        obtain ⟨k, hkl, rfl, hO, hBW⟩ := hrel
        by_cases hlk : k < r.length
        case pos =>
          obtain ⟨x, hx⟩ : ∃ x, r[k]? = some x := ⟨_, List.getElem?_eq_getElem hlk⟩
          have HX := Lib.hid hx
          have hxR := HRB.out x (List.mem_of_getElem? hx)
          have o3 := old_cell hBW.out (old_cell hB.out (HCL.out k x hx))
          have HRV := Lib.hid ((hRV.out.has.below hBW.out).lies)
          have hL : ((r.take k).map (fun x => (ix R x : Int))).length = k := by simp; omega
          have HL := Lib.hid hL
          have hst0 := fill_ix (n := bn) (ix R x : Int) hL (by have := HRL.out; omega)
          rw [← take_map_snoc (fun x => (ix R x : Int)) hx] at hst0
          obtain ⟨m, hm⟩ : ∃ m : Nat, m = ix R x := ⟨_, rfl⟩
          rw [← hm] at hst0
          have HM := Lib.hid hm
          have q1 := hO.out.cellAt k (by have := HRL.out; omega)
          have q2 := hO.out.frozenAt k
          have hst := hO.out.stored k (.int .i64 (m : Int))
          rw [hst0] at hst
          have HS3 := Lib.hid hst
          rw [List.getElem?_map, List.getElem?_append_right (by rw [hL]; exact Nat.le_refl _), List.getElem?_replicate, if_pos (by rw [hL]; have := HRL.out; omega)] at q1
          have hkb : (k : Int) < (bn : Int) := by have := HRL.out; omega
          have hkb2 : k < bn := by have := HRL.out; omega
          have hk0 : (0 : Int) ≤ (k : Int) := Int.natCast_nonneg _
          have hkr : (k : Int) < (r.length : Int) := by omega
          have HXR := Lib.hid hxR
          clear hx hxR hL hst0 hst hm
          go_wp2_with (go_at_call 73; refine (index_any _ _ _ _ HRV.out HXR.out HRN.out).mono ?_; rintro e w' ⟨rfl, rfl⟩; rw [← HM.out])
          go_roundw
          case rel => exact ⟨k + 1, by omega, by go_num, HS3.out.1, hBW.out.trans (by
            have h1 := (Below.refl W3.heap.size wr).grown HS3.out.2 hBW.out.size (fun k hk => by have e2 : zb = k := Option.some.inj hk; have := HZB.out; omega)
            exact h1)⟩
          case measure => simp [intOf]; omega
        case neg =>
          obtain rfl : k = r.length := by omega
          obtain ⟨W4, rfl⟩ : ∃ W : World, W = wr := ⟨_, rfl⟩
          have HU : Hid (Has (Value.int .i64) 3 W4 hi (.slice (some ⟨zb, 0, none⟩) bn bn) (minRow rows R sn)) := by
            have h1 := hO.out
            rw [List.take_length, HRL.out, Nat.sub_self, List.replicate_zero, List.append_nil] at h1
            have h2 : Has (Value.int .i64) 3 W4 W3.heap.size (.slice (some ⟨zb, 0, none⟩) bn bn) (minRow rows R sn) := by
              show W4.ownsRow _ _ _ _ _ _
              rw [HMR.out, List.length_map, HRL.out]
              rw [HZB.out] at h1 ⊢
              exact h1
            exact h2.mono hBL.out.le
          have HBL4 := Lib.hid (hBL.out.below hBW.out)
          have HRV4 := Lib.hid (hRV.out.below hBW.out)
          have HC4 := Lib.hid (hC.out.below hBW.out)
          have HZ4 := Lib.hid (hZ.out.below hBW.out)
          have HB4 := Lib.hid (hB.out.trans (hBW.out.mono hB.out.size))
          have HLT := Lib.hid (take_map_snoc (minRow rows R) HSI.out)
          have HLO := Lib.hid (take_map_snoc (fun s : Int => out.getD s.toNat 0) HSI.out)
          obtain ⟨po, oo, hpo, ho1⟩ : ∃ po oo, ao = some ⟨po, oo, none⟩ ∧ w.cell? ⟨po, oo + sn, none⟩ = some (.int .i64 o) := by
            obtain ⟨q', s', h1, h2⟩ := HS.out.cells.2 sn o HOO.out
            exact ⟨q', s', h1, h2⟩
          have HPO := Lib.hid hpo
          have HO1 := Lib.hid ho1
          have hsO : (sn : Int) < (out.length : Int) := by have := HV.out.2.2.2.2.1; omega
          have hsO2 : sn < out.length := by omega
          have d1 := HBL4.out.cells.c1
          have d2 := (HBL4.out.cells.alloc (.cells #[Value.slice (some ⟨zb, 0, none⟩) bn bn] 25)).c1
          have hpl := HBL4.out.cells.lt
          have HNP := Lib.hid (has_ne_c3 HBL4.out.top HBL4.out.cells (by decide))
          have HNC := Lib.hid (has_ne_c3 HBL4.out.top HC4.out (by decide))
          have HNZ := Lib.hid (has_ne_c3 HBL4.out.top HZ4.out (by decide))
          have HLO4 := Lib.hid (show BB ≤ W4.heap.size from Nat.le_trans HBL4.out.lo HBL4.out.le)
          clear hO hBL hRV hC hZ hB hBW hpo ho1
          go_wp2_with (at_builtin; refine wpList_append_list (enc := id) (e := 25) rfl _ _ 24 rfl BB i2 (.slice none 0 0) 24 Try.underlying24 hi2 hz20 hz21 hz22 rfl (.slice na l1 nc) us rfl (has_alloc HBL4.out.top _) (.slice (some ⟨W4.heap.size, 0, none⟩) 1 1) [.slice (some ⟨zb, 0, none⟩) bn bn] rfl (lies_lit1v _ rfl) (fun y hy => by simp at hy; subst hy; rfl) (by rw [HUSL.out]; simp; omega) (by rw [HUSL.out]; simp; omega) (by have := HLO4.out; simp; omega) ?_; intro v' w2 hv' hg2 _; obtain ⟨a2, c2, hvf, _⟩ := hv'.form; rw [show (us ++ [Value.slice (some ⟨zb, 0, none⟩) bn bn]).length = l1 + 1 from by rw [List.length_append, HUSL.out]; rfl] at hvf; subst hvf; have hg3 := grown_alloc hg2; have hc2 := HBL4.out.cells.grown hg3 HNP.out; have d3 := hc2.c1; have df := hc2.f)
          obtain ⟨l3, hl3⟩ : ∃ l, l = l1 + 1 := ⟨_, rfl⟩
          rw [← hl3] at hv' ⊢
          have HBL5 := Lib.hid (HBL4.out.row HU.out hv' hg3)
          have HG5 : Hid (BB ≤ w2.heap.size) := Nat.le_trans HLO4.out hg3.size
          have hne1 : (p : Nat) ≠ w.heap.size := by have := HS2.out; omega
          have hne2 : (p : Nat) ≠ w.heap.size + 1 := by have := HS2.out; omega
          have hne3 : w.heap.size ≤ p := by have := HS2.out; omega
          have HC5 := Lib.hid ((HC4.out.grown hg3 HNC.out).other (a := ⟨p, 1, none⟩) hne1 (.slice a2 l3 c2))
          have HZ5 := Lib.hid ((HZ4.out.grown hg3 HNZ.out).other (a := ⟨p, 1, none⟩) hne2 (.slice a2 l3 c2))
          have HB5 : Hid (Below w.heap.size w (w2.setCell ⟨p, 1, none⟩ (.slice a2 l3 c2))) := (HBL4.out.top.frame HB4.out (by have := HBB.out.2; omega) hg3).setCell hne3 _
          have HRV5 : Hid (OwnI (w2.setCell ⟨p, 1, none⟩ (.slice a2 l3 c2)) w.heap.size BB (.slice (some ⟨rq, 0, none⟩) R.length rc) R) :=
            (HRV4.out.grown hg3 (fun k hk => .inr (HBL4.out.top.lt k hk).1)).set (a := ⟨p, 1, none⟩) (has_ne_c3 (HRV4.out.grown hg3 (fun k hk => .inr (HBL4.out.top.lt k hk).1)).has hc2 (by decide)) _
          have HG6 : Hid (BB ≤ (w2.setCell ⟨p, 1, none⟩ (.slice a2 l3 c2)).heap.size) := by show _ ≤ _; rw [size_setCell']; exact HG5.out
          obtain ⟨W5, hW5⟩ : ∃ W, W = w2.setCell ⟨p, 1, none⟩ (.slice a2 l3 c2) := ⟨_, rfl⟩
          rw [← hW5] at HBL5 HC5 HZ5 HB5 HRV5 HG6 ⊢
          have HW5 := Lib.hid (show w2.heap.size = W5.heap.size by rw [hW5, size_setCell'])
          rw [HW5.out] at HBL5
          clear hv' hg2 hg3 hc2 d1 d2 d3 df hpl HBL4 HC4 HZ4 HB4 HRV4 hW5 hl3 HNP HNC HNZ HLO4 HG5
          have HVO := Lib.hid HBL5.out.terms
          have hOL : ((R.take i).map fun s => out.getD s.toNat 0).length = l2 := HL2.out.symm
          have HOL := Lib.hid hOL
          have c3 := HBL5.out.cells.c2
          have c4 := (HBL5.out.cells.alloc (.cells #[Value.int .i64 o] 3)).c2
          have kk2 := HC5.out.c2
          rw [HPO.out] at kk2
          have ko := old_cell HB5.out HO1.out
          have hpl := HBL5.out.cells.lt
          have HNO := Lib.hid (has_ne_c3 HVO.out.has HBL5.out.cells (by decide))
          have HNC := Lib.hid (has_ne_c3 HVO.out.has HC5.out (by decide))
          have HNZ := Lib.hid (has_ne_c3 HVO.out.has HZ5.out (by decide))
          clear hOL
          go_region_law ((refine step_append_at_list (enc := Value.int .i64) (e := 3) rfl (.tmp 49) (.tmp 55) 25 rfl BB i0 (.int .i64 0) 8 Try.underlying25 hi0 hz0 hz1 hz2 rfl (.slice oa l2 oc) ((R.take i).map fun s => out.getD s.toNat 0) rfl (by repeat (first | with_reducible exact HVO.out.has | with_reducible apply has_drew | with_reducible apply has_alloc)) (Value.slice (some ⟨_, 0, none⟩) 1 1) [o] rfl (by repeat (first | with_reducible apply lies_drew | (with_reducible refine lies_lit1 (enc := Value.int .i64) _ rfl) | with_reducible apply lies_alloc)) (fun _ _ => rfl) (by rw [HOL.out]; simp; omega) (by rw [HOL.out]; simp; omega) (by have := HG6.out; simp; omega) ?_; intro vt w6 ho6 hg6 hb6; obtain ⟨a6, c6, hvf, _⟩ := ho6.form; rw [show ((R.take i).map (fun s => out.getD s.toNat 0) ++ [o]).length = l2 + 1 from by rw [List.length_append, HOL.out]; rfl] at hvf; subst hvf; refine with_fact (T := W5.grownBy w6 (Value.slice oa l2 oc).ownBlock) ?_ ?_; (focus (exact grown_alloc (grown_drew hg6))); intro hg7; have hc7 := HBL5.out.cells.grown hg7 HNO.out; have r1 := hc7.c2; have r3 := hc7.f))
          all_goals
            have HBL7 := Lib.hid (HBL5.out.term ho6 hg7 (fun k hk => (hb6 k hk).imp id (fun h => by simp at h; omega)))
            have HG8 : Hid (BB ≤ w6.heap.size) := Nat.le_trans HG6.out hg7.size
            have HC7 := Lib.hid ((HC5.out.grown hg7 HNC.out).other (a := ⟨p, 2, none⟩) hne1 (.slice a6 (l2 + 1) c6))
            have HZ7 := Lib.hid ((HZ5.out.grown hg7 HNZ.out).other (a := ⟨p, 2, none⟩) hne2 (.slice a6 (l2 + 1) c6))
            have HB7 : Hid (Below w.heap.size w (w6.setCell ⟨p, 2, none⟩ (.slice a6 (l2 + 1) c6))) := (HVO.out.has.frame HB5.out (by have := HBB.out.2; omega) hg7).setCell hne3 _
            have HRV7 : Hid (OwnI (w6.setCell ⟨p, 2, none⟩ (.slice a6 (l2 + 1) c6)) w.heap.size BB (.slice (some ⟨rq, 0, none⟩) R.length rc) R) :=
              (HRV5.out.grown hg7 (fun k hk => .inr (HVO.out.has.lt k hk).1)).set (a := ⟨p, 2, none⟩) (has_ne_c3 (HRV5.out.grown hg7 (fun k hk => .inr (HVO.out.has.lt k hk).1)).has hc7 (by decide)) _
            rw [← HLT.out] at HBL7
            have HBL8 : Hid (Building (w6.setCell ⟨p, 2, none⟩ (.slice a6 (l2 + 1) c6)) BB w6.heap.size p (bn : Int) (.slice a2 l3 c2) (.slice a6 (l2 + 1) c6) (us ++ [.slice (some ⟨zb, 0, none⟩) bn bn]) ((R.take (i + 1)).map (minRow rows R)) ((R.take (i + 1)).map fun s => out.getD s.toNat 0)) := by
              have h1 := HBL7.out
              rw [← HOV.out, ← HLO.out] at h1
              exact h1
            clear ho6 hb6 hg6 hg7 hc7 r1 r3 c3 c4 kk2 ko hpl HBL5 HVO HNO HNC HNZ HBL7
            go_wp2
            go_roundw
            case rel => exact ⟨i + 1, _, _, _, w6.heap.size, by omega, by go_num, HBL8, HRV7, HC7, HZ7, HB7⟩
            case measure => simp [intOf]; omega
end Mins
end Go.Proofs.Ytdgfecjakmdheaa
/- Contracts of DigitsOf and DigitSum, of the program and of the model. No conditions beyond those that each states. -/
namespace Go.Proofs.Ytdgfecjakmdheaa
open Go.ChangeShapes Go.WideShapes Go.ChangeAt Go.RowKit
open Go.PlainAid Plain
set_option linter.unusedVariables false
namespace Digits
open Ints

/-- The digits, none where number or base is out of range. -/
def digV (n b : Int) : List Int := if 2 ≤ b ∧ b ≤ 4 ∧ 0 ≤ n ∧ n < powV b 16 then digs n.toNat b.toNat else []
theorem powV_in (b : Nat) (h1 : 2 ≤ b) (h2 : b ≤ 4) : powV b 16 = ((b ^ 16 : Nat) : Int) := by
  rw [powV, if_pos (by omega)]
  rfl
theorem digV_in (n b : Nat) (h1 : 2 ≤ b) (h2 : b ≤ 4) (h3 : n < b ^ 16) : digV n b = digs n b := by
  rw [digV, if_pos ⟨by omega, by omega, by omega, by rw [powV_in b h1 h2]; exact Int.ofNat_lt.2 h3⟩]
  rfl
theorem has_empty (w : World) : Has (Value.int .i64) 3 (w.alloc (.cells #[] 3)) w.heap.size (.slice (some ⟨w.heap.size, 0, none⟩) 0 0) [] := Has.lit (enc := Value.int .i64) (e := 3) w [] (Nat.le_refl _) (by simp)
theorem gives_empty (w : World) : Gives (Value.int .i64) 3 [] w (.returned (.slice (some ⟨w.heap.size, 0, none⟩) 0 0)) (w.alloc (.cells #[] 3)) :=
  ⟨_, rfl, has_empty w, (Below.refl _ _).alloc (Nat.le_refl _) _⟩
theorem spec_digits_no (n b : Int) (w : World) (h : ¬ (2 ≤ b ∧ b ≤ 4 ∧ 0 ≤ n ∧ n < powV b 16)) :
    Calls Try.prog 36 #[.int .i64 n, .int .i64 b] w (Gives (Value.int .i64) 3 [] w) := by
  by_cases h1 : n < 0
  · clear h
    go_enter Try.func36, Try.ntmps36
    go_wp2
    go_ret
    exact gives_empty w
  · by_cases h2 : 2 ≤ b ∧ b ≤ 4
    · have h3 : powV b 16 ≤ n := by omega
      obtain ⟨h4, h5⟩ := h2
      have hp := fun w => spec_pow_any b 16 w
      obtain ⟨p, hp'⟩ : ∃ p, p = powV b 16 := ⟨_, rfl⟩
      rw [← hp'] at h3
      rw [← hp'] at hp
      clear h hp'
      have HP := Lib.hid hp
      clear hp
      go_enter Try.func36, Try.ntmps36
      go_wp2_with fail
      refine (l1In_yes _ _ _ _ h4 h5).mono ?_
      rintro e w' ⟨rfl, rfl⟩
      go_wp2_with fail
      refine (HP.out _).mono ?_
      rintro e w' ⟨rfl, rfl⟩
      go_wp2
      go_ret
      exact gives_empty w
    · have h3 : b < 2 ∨ 4 < b := by omega
      clear h h2
      go_enter Try.func36, Try.ntmps36
      go_wp2_with fail
      refine (l1In_no _ _ _ _ h3).mono ?_
      rintro e w' ⟨rfl, rfl⟩
      go_wp2
      go_ret
      exact gives_empty w
theorem spec_digits_in (n b : Nat) (w : World) (h1 : 2 ≤ b) (h2 : b ≤ 4) (h3 : n < b ^ 16) :
    Calls Try.prog 36 #[.int .i64 n, .int .i64 b] w (Gives (Value.int .i64) 3 (digs n b) w) := by
  obtain ⟨i0, hi, hz0, hz1, hz2⟩ := info_parts infoI
  have hst := Lib.hid (digits_start n b h3)
  have hp := fun w => spec_pow_any b 16 w
  rw [powV_in b h1 h2] at hp
  obtain ⟨p, hp'⟩ : ∃ p, p = b ^ 16 := ⟨_, rfl⟩
  rw [← hp'] at hp
  have hlt : n < p := by omega
  have hz := (pow_bd b 16 h1 h2 (by omega)).2
  have hnb : n ≤ 4294967296 := by omega
  have HP := Lib.hid hp
  clear hp hp' h3 hz
  have hd0 : decide ((n : Int) < 0) = false := decide_eq_false (by omega)
  have hd1 : decide (p ≤ n) = false := decide_eq_false (by omega)
  go_enter Try.func36, Try.ntmps36
  go_wp2_with fail
  refine (l1In_yes _ _ _ _ (by omega) (by omega)).mono ?_
  rintro e w' ⟨rfl, rfl⟩
  go_wp2_with fail
  refine (HP.out _).mono ?_
  rintro e w' ⟨rfl, rfl⟩
  go_wp2_with fail
  clear hlt HP
  go_loopw [0, 5] (fun n' o' wr => ∃ (m : Nat) (cs : List Int), m ≤ 4294967296 ∧ n' = .int .i64 m ∧ Hid (DigitsAt n b m cs) ∧ Hid (Has (Value.int .i64) 3 wr w.heap.size o' cs.reverse) ∧ Hid (Below w.heap.size w wr)) (fun n' _ _ => (intOf n').toNat)
  case atStart => exact ⟨n, [], by omega, rfl, hst, has_empty w, (Below.refl _ _).alloc (Nat.le_refl _) _⟩
  case round =>
    obtain ⟨m, cs, hm, rfl, hat, hown, hbel⟩ := hrel
    by_cases h0 : 0 < m
    · have HS := Lib.hid (digits_step hat.out h0)
      have hlen := HS.out.2
      have hb2 := hbel.out.size
      have hdiv : m / b < m := Nat.div_lt_self h0 (by omega)
      have hne : ((b : Int) == 0) = false := by simp; omega
      have hl := Lib.hid (hown.out.lies.below ((Below.refl wr.heap.size wr).alloc (Nat.le_refl _) (.cells #[.int .i64 ((m : Int) % (b : Int))] 3)))
      have hlit := Lib.hid (Has.lit (enc := Value.int .i64) (e := 3) wr [(m : Int) % (b : Int)] hb2 (by simp))
      have hlr : cs.reverse.length + 1 ≤ 16 := by rw [List.length_reverse]; omega
      have hq0 : 0 ≤ (m : Int) / (b : Int) := Int.ediv_nonneg (by omega) (by omega)
      have hq1 : (m : Int) / (b : Int) ≤ 4294967296 := Int.le_trans (Int.ediv_le_self _ (by omega)) (by omega)
      clear hdiv
      go_wp2_with (at_builtin; refine append_lies (enc := Value.int .i64) (e := 3) _ rfl _ _ 25 rfl w.heap.size i0 (.int .i64 0) 8 Try.underlying25 hi hz0 hz1 hz2 rfl _ [(m : Int) % (b : Int)] rfl hlit.out u5 cs.reverse rfl hl.out (fun _ => rfl) (by simp; omega) (by simp; omega) (by simp; omega) ?_; intro v' w' hown' hgrow')
      have hbel' : Hid (Below w.heap.size w w') := hlit.out.frame (hbel.out.alloc hb2 _) (Nat.le_refl _) hgrow'
      have HO := Lib.hid hown'
      clear hown' hgrow' hlit hl
      go_wp2
      go_roundw
      case rel => exact ⟨m / b, cs ++ [((m % b : Nat) : Int)], by have := Nat.div_le_self m b; omega, by go_num, HS.out.1, by rw [List.reverse_append]; exact HO.out, hbel'⟩
      case measure => simp [intOf]; exact Nat.div_lt_self h0 (by omega)
    · obtain rfl : m = 0 := by omega
      have HE := Lib.hid (digits_end hat.out)
      have H2 : Hid (Has (Value.int .i64) 3 wr w.heap.size u5 (digs n b)) := by
        have := hown.out
        rw [HE.out] at this
        exact this
      clear hown hat
      go_wp2
      go_ret
      exact ⟨u5, rfl, H2.out, hbel.out⟩
theorem gives_nil (w : World) : Gives (Value.int .i64) 3 [] w (.returned (.slice none 0 0)) w := ⟨_, rfl, World.ownsRow_nil _ _ _ _, Below.refl _ _⟩
theorem powV_out (b : Int) (h : ¬ (2 ≤ b ∧ b ≤ 4)) : powV b 16 = 0 := if_neg (by omega)
theorem impl_digits_no (n b : Int) (w : World) (h : ¬ (2 ≤ b ∧ b ≤ 4 ∧ 0 ≤ n ∧ n < powV b 16)) :
    Calls Try.prog 32 #[.int .i64 n, .int .i64 b] w (Gives (Value.int .i64) 3 [] w) := by
  by_cases h1 : n < 0
  · clear h
    have hd0 : decide (n < 0) = true := decide_eq_true h1
    go_enter Try.func32, Try.ntmps32
    go_wp2
    go_ret
    exact gives_nil w
  · have h3 : powV b 16 ≤ n := by
      by_cases h2 : 2 ≤ b ∧ b ≤ 4
      · omega
      · rw [powV_out b h2]; omega
    have hp := fun w => impl_pow_any b 16 w
    obtain ⟨p, hp'⟩ : ∃ p, p = powV b 16 := ⟨_, rfl⟩
    rw [← hp'] at h3
    rw [← hp'] at hp
    clear h hp'
    have HP := Lib.hid hp
    clear hp
    have hd0 : decide (n < 0) = false := decide_eq_false h1
    go_enter Try.func32, Try.ntmps32
    go_wp2_with fail
    refine (HP.out _).mono ?_
    rintro e w' ⟨rfl, rfl⟩
    go_wp2
    go_ret
    exact gives_nil w
theorem impl_digits_in (n b : Nat) (w : World) (h1 : 2 ≤ b) (h2 : b ≤ 4) (h3 : n < b ^ 16) :
    Calls Try.prog 32 #[.int .i64 n, .int .i64 b] w (Gives (Value.int .i64) 3 (digs n b) w) := by
  obtain ⟨i0, hi, hz0, hz1, hz2⟩ := info_parts infoI
  have hst := Lib.hid (digits_start n b h3)
  have hp := fun w => impl_pow_any b 16 w
  rw [powV_in b h1 h2] at hp
  obtain ⟨p, hp'⟩ : ∃ p, p = b ^ 16 := ⟨_, rfl⟩
  rw [← hp'] at hp
  have hlt : n < p := by omega
  have hz := (pow_bd b 16 h1 h2 (by omega)).2
  have hnb : n ≤ 4294967296 := by omega
  have HP := Lib.hid hp
  clear hp hp' h3 hz
  have hd0 : decide ((n : Int) < 0) = false := decide_eq_false (by omega)
  have hd1 : decide (p ≤ n) = false := decide_eq_false (by omega)
  go_enter Try.func32, Try.ntmps32
  go_wp2_with fail
  refine (HP.out _).mono ?_
  rintro e w' ⟨rfl, rfl⟩
  go_wp2_with fail
  clear hlt HP
  go_loopw [0, 5] (fun n' o' wr => ∃ (m : Nat) (cs : List Int), m ≤ 4294967296 ∧ n' = .int .i64 m ∧ Hid (DigitsAt n b m cs) ∧ Hid (Has (Value.int .i64) 3 wr w.heap.size o' cs) ∧ Hid (Below w.heap.size w wr)) (fun n' _ _ => (intOf n').toNat)
  case atStart => exact ⟨n, [], by omega, rfl, hst, World.ownsRow_nil _ _ _ _, Below.refl _ _⟩
  case round =>
    obtain ⟨m, cs, hm, rfl, hat, hown, hbel⟩ := hrel
    by_cases h0 : 0 < m
    · have HS := Lib.hid (digits_step hat.out h0)
      have hlen := HS.out.2
      have hb2 := hbel.out.size
      have hne : ((b : Int) == 0) = false := by simp; omega
      have hq0 : 0 ≤ (m : Int) / (b : Int) := Int.ediv_nonneg (by omega) (by omega)
      have hq1 : (m : Int) / (b : Int) ≤ 4294967296 := Int.le_trans (Int.ediv_le_self _ (by omega)) (by omega)
      go_wp2_with (at_builtin; refine append_one (enc := Value.int .i64) (e := 3) wr rfl _ _ 25 rfl w.heap.size i0 (.int .i64 0) 8 Try.underlying25 hi hz0 hz1 hz2 rfl u5 cs rfl hown.out ((m : Int) % (b : Int)) rfl (fun _ => rfl) (by omega) (by omega) hb2 ?_; intro v' w' hown' hgrow')
      have hbel' : Hid (Below w.heap.size w w') := hown.out.frame hbel.out (Nat.le_refl _) hgrow'
      have HO := Lib.hid hown'
      clear hown' hgrow'
      go_wp2
      go_roundw
      case rel => exact ⟨m / b, cs ++ [((m % b : Nat) : Int)], by have := Nat.div_le_self m b; omega, by go_num, HS.out.1, HO.out, hbel'⟩
      case measure => simp [intOf]; exact Nat.div_lt_self h0 (by omega)
    · obtain rfl : m = 0 := by omega
      have HE := Lib.hid (digits_end hat.out)
      have H2 : Hid (Has (Value.int .i64) 3 wr w.heap.size u5 (lows b 16 n)) := by
        have := hown.out
        rw [HE.out] at this
        exact this
      clear hown hat HE
      go_wp2_with fail
      refine (reverse_has u5 _ wr _ H2.out).mono ?_
      rintro e w2 ⟨rfl, ho, hg⟩
      have HG : Hid (Gives (Value.int .i64) 3 (digs n b) w (.returned u5) w2) := ⟨u5, rfl, ho, H2.out.frame hbel.out (Nat.le_refl _) hg⟩
      clear ho hg
      go_wp2
      go_ret
      exact HG.out
theorem spec_digits_any (n b : Int) (w : World) : Calls Try.prog 36 #[.int .i64 n, .int .i64 b] w (Gives (Value.int .i64) 3 (digV n b) w) := by
  by_cases h : 2 ≤ b ∧ b ≤ 4 ∧ 0 ≤ n ∧ n < powV b 16
  · obtain ⟨k, rfl⟩ := Int.eq_ofNat_of_zero_le (show 0 ≤ b by omega)
    obtain ⟨m, rfl⟩ := Int.eq_ofNat_of_zero_le (show 0 ≤ n by omega)
    have h4 := h.2.2.2
    rw [powV_in k (by omega) (by omega)] at h4
    rw [digV_in m k (by omega) (by omega) (by omega)]
    exact spec_digits_in m k w (by omega) (by omega) (by omega)
  · rw [digV, if_neg h]
    exact spec_digits_no n b w h
theorem impl_digits_any (n b : Int) (w : World) : Calls Try.prog 32 #[.int .i64 n, .int .i64 b] w (Gives (Value.int .i64) 3 (digV n b) w) := by
  by_cases h : 2 ≤ b ∧ b ≤ 4 ∧ 0 ≤ n ∧ n < powV b 16
  · obtain ⟨k, rfl⟩ := Int.eq_ofNat_of_zero_le (show 0 ≤ b by omega)
    obtain ⟨m, rfl⟩ := Int.eq_ofNat_of_zero_le (show 0 ≤ n by omega)
    have h4 := h.2.2.2
    rw [powV_in k (by omega) (by omega)] at h4
    rw [digV_in m k (by omega) (by omega) (by omega)]
    exact impl_digits_in m k w (by omega) (by omega) (by omega)
  · rw [digV, if_neg h]
    exact impl_digits_no n b w h
theorem digV_len (n b : Int) : (digV n b).length ≤ 16 := by
  unfold digV
  split
  · exact digs_len _ _
  · simp
theorem digV_mem (n b : Int) : ∀ x ∈ digV n b, 0 ≤ x ∧ x < 4 := by
  unfold digV
  split
  · intro x hx
    have := digs_mem _ _ (by omega) x hx
    omega
  · intro x hx; cases hx
end Digits
end Go.Proofs.Ytdgfecjakmdheaa
/- Contracts of DigitSum, AreDigits, ValueOf, PadDigits and ReverseDigits, of the program and of the model. No conditions beyond those that each states. -/
namespace Go.Proofs.Ytdgfecjakmdheaa
open Go.ChangeShapes Go.WideShapes Go.ChangeAt Go.RowKit
open Go.PlainAid Plain
set_option linter.unusedVariables false
namespace Digits
open Ints

theorem ret_b {a b : Bool} (h : a = b) : Ending.returned (.bool a) = Ending.returned (.bool b) := by rw [h]
theorem spec_are (v : Value) (xs : List Int) (b : Int) (w : World) (h : Lies (Value.int .i64) w v xs) :
    Calls Try.prog 54 #[v, .int .i64 b] w fun e w' => e = .returned (.bool (areD b xs)) ∧ w = w' := by
  obtain ⟨hl, a, ca, rfl, _, hc⟩ := h
  have HC := Lib.hid hc
  clear hc
  go_enter Try.func54, Try.ntmps54
  go_wp2
  go_loop [5] (fun i' => ∃ i : Nat, i ≤ xs.length ∧ i' = .int .i64 i ∧ Hid (∀ j, (hj : j < xs.length) → j < i → 0 ≤ xs[j] ∧ xs[j] < b)) (fun i' => xs.length - (intOf i').toNat)
  case atStart => exact ⟨0, Nat.zero_le _, rfl, fun j hj h => by omega⟩
  case round =>
    obtain ⟨i, hi, rfl, HI⟩ := hrel
    by_cases hlt : i < xs.length
    · obtain ⟨q, r, rfl, hc2⟩ := HC.out i _ (List.getElem?_eq_getElem hlt)
      obtain ⟨x, hx⟩ : ∃ x, x = xs[i] := ⟨_, rfl⟩
      have HX := Lib.hid hx
      rw [← hx] at hc2
      clear hx
      by_cases h0 : x < 0
      · have HE := Lib.hid (areD_at (b := b) i hlt (by rw [← HX.out]; exact .inl h0))
        have hd := decide_eq_true h0
        go_wp2
        go_ret
        exact ⟨ret_b HE.out.symm, rfl⟩
      · by_cases h1 : b ≤ x
        · have HE := Lib.hid (areD_at (b := b) i hlt (by rw [← HX.out]; exact .inr h1))
          have hd := decide_eq_false h0
          have hd1 := decide_eq_true h1
          go_wp2
          go_ret
          exact ⟨ret_b HE.out.symm, rfl⟩
        · have HN : Hid (∀ j, (hj : j < xs.length) → j < i + 1 → 0 ≤ xs[j] ∧ xs[j] < b) := fun j hj h => by
            by_cases e : j = i
            · subst e; rw [← HX.out]; omega
            · exact HI.out j hj (by omega)
          have hd := decide_eq_false h0
          have hd1 := decide_eq_false h1
          go_wp2
          go_round
          case rel => exact ⟨i + 1, by omega, by go_num, HN⟩
          case measure => simp [intOf]; omega
    · by_cases hb : 2 ≤ b ∧ b ≤ 4
      · obtain ⟨hb1, hb2⟩ := hb
        by_cases h16 : xs.length ≤ 16
        · have HE := Lib.hid (areD_yes hb1 hb2 h16 (mem_of_all (fun j hj => HI.out j hj (by omega))))
          have hd := decide_eq_true (show (xs.length : Int) ≤ 16 by omega)
          go_wp2_with (go_at_call 53; refine (l1In_yes _ _ _ _ hb1 hb2).mono ?_; rintro e w' ⟨rfl, rfl⟩)
          go_ret
          exact ⟨ret_b HE.out.symm, rfl⟩
        · have HE := Lib.hid (areD_long (b := b) (xs := xs) (by omega))
          have hd := decide_eq_false (show ¬ (xs.length : Int) ≤ 16 by omega)
          go_wp2_with (go_at_call 53; refine (l1In_yes _ _ _ _ hb1 hb2).mono ?_; rintro e w' ⟨rfl, rfl⟩)
          go_ret
          exact ⟨ret_b HE.out.symm, rfl⟩
      · have hb3 : b < 2 ∨ 4 < b := by omega
        have HE := Lib.hid (areD_base xs hb3)
        have HB := Lib.hid hb3
        clear hb hb3
        go_wp2_with (go_at_call 53; refine (l1In_no _ _ _ _ HB.out).mono ?_; rintro e w' ⟨rfl, rfl⟩)
        go_ret
        exact ⟨ret_b HE.out.symm, rfl⟩
/-- The number of some digits, -1 where they are none. -/
def valV (b : Int) (xs : List Int) : Int := if areD b xs = true then valD b.toNat xs else -1
theorem valV_yes {b : Nat} {xs : List Int} (h : areD b xs = true) : valV b xs = valD b xs := by rw [valV, if_pos h]; rfl
theorem valV_no {b : Int} {xs : List Int} (h : areD b xs = false) : valV b xs = -1 := by rw [valV, if_neg (by simp [h])]
theorem val_bounds {b : Nat} {xs : List Int} (h : areD b xs = true) (i : Nat) (hi : i < xs.length) : (0 ≤ valD b (xs.take i) ∧ valD b (xs.take i) ≤ 4294967296) ∧ (0 ≤ valD b (xs.take i) * (b : Int) ∧ valD b (xs.take i) * (b : Int) ≤ 4294967296) ∧ 0 ≤ xs[i] ∧ xs[i] ≤ 4 := by
  obtain ⟨h1, h2, h3, h4⟩ := areD_out h
  have ha := valD_bd b (by omega) i xs (by omega) h4
  have hp := pow_bd b i (by omega) (by omega) (by omega)
  have hb := valD_bd b (by omega) (i + 1) xs (by omega) h4
  have hq := pow_bd b (i + 1) (by omega) (by omega) (by omega)
  have hx := h4 xs[i] (List.getElem_mem _)
  rw [List.take_succ_eq_append_getElem hi, valD_snoc] at hb
  have : 0 ≤ valD b (xs.take i) * (b : Int) := Int.mul_nonneg ha.1 (by omega)
  omega
end Digits
end Go.Proofs.Ytdgfecjakmdheaa
/- Contracts of IsSteady, StateAfter and TermAt, of the program and of the model. No conditions beyond those that each states. -/
namespace Go.Proofs.Ytdgfecjakmdheaa
open Go.ChangeShapes Go.WideShapes Go.ChangeAt Go.RowKit
open Go.PlainAid Plain
set_option linter.unusedVariables false
namespace Seqs
theorem IsSeq.first {b : Int} {rows : List (List Int)} {out : List Int} (h : IsSeq b rows out) : ∃ r, rows[0]? = some r ∧ r[0]? = some (nextS rows 0 0) := by
  obtain ⟨r, h1, h2, _⟩ := h.next (s := 0) (d := 0) (Int.le_refl _) (by have := h.2.2.1; omega) (Int.le_refl _) (by have := h.1; omega)
  exact ⟨r, h1, h2⟩
theorem spec_steady (v : Value) (b : Int) (rows : List (List Int)) (out : List Int) (w : World) (h : LiesS w v b rows out) :
    Calls Try.prog 61 #[v] w fun e w' => e = .returned (.bool (steadyB b rows out)) ∧ Below w.heap.size w w' := by
  have HS := Lib.hid h
  obtain ⟨an, cn, ao, co, rfl⟩ := h.form
  clear h
  have hB : Below w.heap.size w (w.alloc (Obj.cells #[Value.int .i64 b, Value.slice an rows.length cn, Value.slice ao out.length co] 27)) := (Below.refl _ _).alloc (Nat.le_refl _) _
  have HC := Lib.hid (Cells3.new w 27 (.int .i64 b) (.slice an rows.length cn) (.slice ao out.length co))
  have HB := Lib.hid hB
  clear hB
  cases hs : seqB b rows out with
  | false =>
    have HQ := Lib.hid hs
    have HE : Hid (steadyB b rows out = false) := by show _ = _; rw [steadyB, hs]; rfl
    clear hs
    go_enter Try.func61, Try.ntmps61
    go_wp2_with fail
    refine (spec_is _ b rows out _ (HS.out.below HB.out)).mono ?_
    rintro e W1 ⟨rfl, b1⟩
    have HB1 := Lib.hid (HB.out.trans (b1.mono HB.out.size))
    rw [HQ.out]
    clear b1
    go_wp2
    go_ret
    exact ⟨ret_b HE.out.symm, HB1.out⟩
  | true =>
    have HQ := Lib.hid hs
    obtain ⟨x, hx⟩ : ∃ x, x = nextS rows 0 0 := ⟨_, rfl⟩
    have HE : Hid (steadyB b rows out = (x == 0)) := by show _ = _; rw [steadyB, hs, hx]; rfl
    obtain ⟨r, hr, hr0⟩ := IsSeq.first (seqB_out hs)
    rw [← hx] at hr0
    have HR := Lib.hid hr
    have HR0 := Lib.hid hr0
    clear hs hx hr hr0
    go_enter Try.func61, Try.ntmps61
    go_wp2_with fail
    refine (spec_is _ b rows out _ (HS.out.below HB.out)).mono ?_
    rintro e W1 ⟨rfl, b1⟩
    have HB1 := Lib.hid (HB.out.trans (b1.mono HB.out.size))
    have HC1 := Lib.hid (HC.out.below b1)
    rw [HQ.out]
    clear b1
    obtain ⟨hN, _⟩ := (HS.out.below HB1.out).cells
    obtain ⟨p, o, a', c', rfl, hcell, hrow⟩ := hN 0 r HR.out
    obtain ⟨q, s, rfl, hc0⟩ := hrow 0 x HR0.out
    have hrl : 0 < r.length := (List.getElem?_eq_some_iff.1 HR0.out).1
    have hrr : 0 < rows.length := (List.getElem?_eq_some_iff.1 HR.out).1
    rw [Nat.add_zero] at hcell hc0
    clear hN hrow
    have k0 := HC1.out.c0
    have k1 := HC1.out.c1
    have k2 := HC1.out.c2
    go_wp2
    go_ret
    exact ⟨ret_b HE.out.symm, HB1.out⟩
theorem impl_steady (v : Value) (b : Int) (rows : List (List Int)) (out : List Int) (w : World) (h : LiesS w v b rows out) :
    Calls Try.prog 56 #[v] w fun e w' => e = .returned (.bool (steadyB b rows out)) ∧ Below w.heap.size w w' := by
  have HS := Lib.hid h
  obtain ⟨an, cn, ao, co, rfl⟩ := h.form
  clear h
  have hB : Below w.heap.size w (w.alloc (Obj.cells #[Value.int .i64 b, Value.slice an rows.length cn, Value.slice ao out.length co] 27)) := (Below.refl _ _).alloc (Nat.le_refl _) _
  have HC := Lib.hid (Cells3.new w 27 (.int .i64 b) (.slice an rows.length cn) (.slice ao out.length co))
  have HB := Lib.hid hB
  clear hB
  cases hs : seqB b rows out with
  | false =>
    have HQ := Lib.hid hs
    have HE : Hid (steadyB b rows out = false) := by show _ = _; rw [steadyB, hs]; rfl
    clear hs
    go_enter Try.func56, Try.ntmps56
    go_wp2_with fail
    refine (impl_is _ b rows out _ (HS.out.below HB.out)).mono ?_
    rintro e W1 ⟨rfl, b1⟩
    have HB1 := Lib.hid (HB.out.trans (b1.mono HB.out.size))
    rw [HQ.out]
    clear b1
    go_wp2
    go_ret
    exact ⟨ret_b HE.out.symm, HB1.out⟩
  | true =>
    have HQ := Lib.hid hs
    obtain ⟨x, hx⟩ : ∃ x, x = nextS rows 0 0 := ⟨_, rfl⟩
    have HE : Hid (steadyB b rows out = (x == 0)) := by show _ = _; rw [steadyB, hs, hx]; rfl
    obtain ⟨r, hr, hr0⟩ := IsSeq.first (seqB_out hs)
    rw [← hx] at hr0
    have HR := Lib.hid hr
    have HR0 := Lib.hid hr0
    clear hs hx hr hr0
    go_enter Try.func56, Try.ntmps56
    go_wp2_with fail
    refine (impl_is _ b rows out _ (HS.out.below HB.out)).mono ?_
    rintro e W1 ⟨rfl, b1⟩
    have HB1 := Lib.hid (HB.out.trans (b1.mono HB.out.size))
    have HC1 := Lib.hid (HC.out.below b1)
    rw [HQ.out]
    clear b1
    obtain ⟨hN, _⟩ := (HS.out.below HB1.out).cells
    obtain ⟨p, o, a', c', rfl, hcell, hrow⟩ := hN 0 r HR.out
    obtain ⟨q, s, rfl, hc0⟩ := hrow 0 x HR0.out
    have hrl : 0 < r.length := (List.getElem?_eq_some_iff.1 HR0.out).1
    have hrr : 0 < rows.length := (List.getElem?_eq_some_iff.1 HR.out).1
    rw [Nat.add_zero] at hcell hc0
    clear hN hrow
    have k0 := HC1.out.c0
    have k1 := HC1.out.c1
    have k2 := HC1.out.c2
    go_wp2
    go_ret
    exact ⟨ret_b HE.out.symm, HB1.out⟩
end Seqs
end Go.Proofs.Ytdgfecjakmdheaa
