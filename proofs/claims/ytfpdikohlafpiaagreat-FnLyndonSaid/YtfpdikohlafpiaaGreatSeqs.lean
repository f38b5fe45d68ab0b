/- Slices of slices of ints and sequences as lists: what it is that such a value reads as lists, and that the call owns all of it in an interval of blocks; what stays of both from world to world. No conditions beyond those that each fact states. -/
import Derived.Test.YtfpdikohlafpiaaGreatLists
namespace Go.Proofs.YtfpdikohlafpiaaGreat.Plain
open Go.RowKit

/-- Only new blocks, and writes into blocks of the listed slices. -/
structure Wrote (us : List Value) (w w' : World) : Prop where
  os : w'.os = w.os
  tape : w'.tape = w.tape
  output : w'.output = w.output
  size : w.heap.size ≤ w'.heap.size
  block : ∀ k, k < w.heap.size → (∀ u ∈ us, u.ownBlock ≠ some k) → w'.heap[k]? = w.heap[k]?
theorem Wrote.refl (us : List Value) (w : World) : Wrote us w w := ⟨rfl, rfl, rfl, Nat.le_refl _, fun _ _ _ => rfl⟩
theorem Wrote.trans {us : List Value} {a b c : World} (h : Wrote us a b) (k : Wrote us b c) : Wrote us a c :=
  ⟨k.os.trans h.os, k.tape.trans h.tape, k.output.trans h.output, Nat.le_trans h.size k.size, fun i hi hn => (k.block i (Nat.lt_of_lt_of_le hi h.size) hn).trans (h.block i hi hn)⟩
theorem Wrote.mono {us us' : List Value} {w w' : World} (h : Wrote us w w') (hs : ∀ u ∈ us, u ∈ us') : Wrote us' w w' := ⟨h.os, h.tape, h.output, h.size, fun k hk hn => h.block k hk fun u hu => hn u (hs u hu)⟩
theorem Wrote.of_grown {w w' : World} {v : Value} (h : w.grownBy w' v.ownBlock) : Wrote [v] w w' := ⟨h.os, h.tape, h.output, h.size, fun k hk hn => h.block k hk fun e => hn v (by simp) e.symm⟩
theorem Wrote.of_below {us : List Value} {w w' : World} (h : Below w.heap.size w w') : Wrote us w w' := ⟨h.os, h.tape, h.output, h.size, fun k hk _ => h.block k hk⟩

/-- Only new blocks, and writes into the blocks from lo to hi. -/
structure Touch (lo hi : Nat) (w w' : World) : Prop where
  os : w'.os = w.os
  tape : w'.tape = w.tape
  output : w'.output = w.output
  size : w.heap.size ≤ w'.heap.size
  block : ∀ k, k < w.heap.size → (k < lo ∨ hi ≤ k) → w'.heap[k]? = w.heap[k]?
theorem Touch.trans {lo hi : Nat} {a b c : World} (h : Touch lo hi a b) (k : Touch lo hi b c) : Touch lo hi a c :=
  ⟨k.os.trans h.os, k.tape.trans h.tape, k.output.trans h.output, Nat.le_trans h.size k.size, fun i hi hn => (k.block i (Nat.lt_of_lt_of_le hi h.size) hn).trans (h.block i hi hn)⟩
theorem Touch.of_wrote {us : List Value} {lo hi : Nat} {w w' : World} (h : Wrote us w w') (hu : ∀ u ∈ us, ∀ k, u.ownBlock = some k → lo ≤ k ∧ k < hi) : Touch lo hi w w' :=
  ⟨h.os, h.tape, h.output, h.size, fun k hk hn => h.block k hk fun u hu' e => by have := hu u hu' k e; omega⟩
theorem Touch.below {lo hi : Nat} {w0 w w' : World} (h : Touch lo hi w w') (hb : Below w0.heap.size w0 w) (hlo : w0.heap.size ≤ lo) : Below w0.heap.size w0 w' :=
  ⟨h.os.trans hb.os, h.tape.trans hb.tape, h.output.trans hb.output, Nat.le_trans hb.size h.size, fun k hk => (h.block k (Nat.lt_of_lt_of_le hk hb.size) (.inl (by omega))).trans (hb.block k hk)⟩

theorem Touch.of_set {lo hi : Nat} {w : World} {a : Addr} (v : Value) (h1 : lo ≤ a.block) (h2 : a.block < hi) : Touch lo hi w (w.setCell a v) :=
  ⟨rfl, rfl, rfl, by simp [World.setCell], fun k _ hn => by
    have : a.block ≠ k := by omega
    simp [World.setCell, Array.getElem?_modify, this]⟩
/-- A slice of ints of the call's own, its block from lo to hi. -/
structure OwnI (w : World) (lo hi : Nat) (v : Value) (xs : List Int) : Prop where
  has : Has (Value.int .i64) 3 w lo v xs
  lt : ∀ k, v.ownBlock = some k → k < hi
  le : hi ≤ w.heap.size
theorem Has.of_same {α : Type} {enc : α → Value} {e : TypeId} {w w' : World} {base : Nat} {v : Value} {xs : List α} (h : Has enc e w base v xs) (hk : ∀ k, v.ownBlock = some k → w'.heap[k]? = w.heap[k]?) : Has enc e w' base v xs :=
  ⟨h.1, h.2.imp id fun ⟨g, cap, cur, h1, h2, h3, r⟩ => ⟨g, cap, cur, h1, h2, (hk g (by rw [h1]; rfl)).trans h3, r⟩⟩
theorem OwnI.lies {w : World} {lo hi : Nat} {v : Value} {xs : List Int} (h : OwnI w lo hi v xs) : Lies (Value.int .i64) w v xs := h.has.lies
theorem OwnI.range {w : World} {lo hi : Nat} {v : Value} {xs : List Int} (h : OwnI w lo hi v xs) : ∀ k, v.ownBlock = some k → lo ≤ k ∧ k < hi := fun k hk => ⟨(h.has.lt k hk).1, h.lt k hk⟩
theorem OwnI.below {w w' : World} {lo hi : Nat} {v : Value} {xs : List Int} (h : OwnI w lo hi v xs) (hb : Below w.heap.size w w') : OwnI w' lo hi v xs := ⟨h.has.below hb, h.lt, Nat.le_trans h.le hb.size⟩
theorem OwnI.touch {w w' : World} {lo hi lo' hi' : Nat} {v : Value} {xs : List Int} (h : OwnI w lo hi v xs) (ht : Touch lo' hi' w w') (hd : hi ≤ lo' ∨ hi' ≤ lo) : OwnI w' lo hi v xs :=
  ⟨h.has.of_same fun k hk => ht.block k (h.has.lt k hk).2 (by have := h.range k hk; omega), h.lt, Nat.le_trans h.le ht.size⟩
theorem OwnI.wrote {w w' : World} {lo hi : Nat} {v : Value} {xs : List Int} {us : List Value} (h : OwnI w lo hi v xs) (hw : Wrote us w w') (hn : ∀ u ∈ us, v.ownBlock = none ∨ v.ownBlock ≠ u.ownBlock) : OwnI w' lo hi v xs :=
  ⟨h.has.of_same fun k hk => hw.block k (h.has.lt k hk).2 (fun u hu e => by rcases hn u hu with h1 | h1 <;> simp_all), h.lt, Nat.le_trans h.le hw.size⟩
theorem OwnI.mono {w : World} {lo hi lo' hi' : Nat} {v : Value} {xs : List Int} (h : OwnI w lo hi v xs) (h1 : lo' ≤ lo) (h2 : hi ≤ hi') (h3 : hi' ≤ w.heap.size) : OwnI w lo' hi' v xs := ⟨h.has.mono h1, fun k hk => Nat.lt_of_lt_of_le (h.lt k hk) h2, h3⟩
theorem OwnI.of_gives {w w' : World} {v : Value} {xs : List Int} (h : Has (Value.int .i64) 3 w' w.heap.size v xs) : OwnI w' w.heap.size w'.heap.size v xs := ⟨h, fun k hk => (h.lt k hk).2, Nat.le_refl _⟩

/-- Rows of ints of the call's own, no two in one block. -/
structure OwnRows (w : World) (lo hi : Nat) (us : List Value) (rows : List (List Int)) : Prop where
  len : us.length = rows.length
  row : ∀ (i : Nat) (u : Value) (r : List Int), us[i]? = some u → rows[i]? = some r → OwnI w lo hi u r
  apart : ∀ (i j : Nat) (u u' : Value), us[i]? = some u → us[j]? = some u' → i ≠ j → u.ownBlock = none ∨ u.ownBlock ≠ u'.ownBlock
/-- In w the slice v holds the rows. -/
def LiesR (w : World) (v : Value) (rows : List (List Int)) : Prop := ∃ us : List Value, Lies id w v us ∧ us.length = rows.length ∧ ∀ (i : Nat) (u : Value) (r : List Int), us[i]? = some u → rows[i]? = some r → Lies (Value.int .i64) w u r
/-- In w the value v is the sequence with base b, the next states rows and the terms out. -/
def LiesS (w : World) (v : Value) (b : Int) (rows : List (List Int)) (out : List Int) : Prop := ∃ vn vo, v = .agg #[.int .i64 b, vn, vo] ∧ LiesR w vn rows ∧ Lies (Value.int .i64) w vo out
/-- The slice v of rows is the call's own, whole, in the blocks from lo to hi; us are the rows' values. -/
structure OwnR (w : World) (lo hi : Nat) (v : Value) (us : List Value) (rows : List (List Int)) : Prop where
  top : Has id 24 w lo v us
  lt : ∀ k, v.ownBlock = some k → k < hi
  le : hi ≤ w.heap.size
  rows : OwnRows w lo hi us rows
/-- The sequence v is the call's own, whole, in the blocks from lo to hi. -/
def OwnS (w : World) (lo hi : Nat) (v : Value) (b : Int) (rows : List (List Int)) (out : List Int) : Prop :=
  ∃ vn vo us, v = .agg #[.int .i64 b, vn, vo] ∧ OwnR w lo hi vn us rows ∧ OwnRows w lo hi (us ++ [vo]) (rows ++ [out])

theorem LiesR.below {w w' : World} {v : Value} {rows : List (List Int)} (h : LiesR w v rows) (hb : Below w.heap.size w w') : LiesR w' v rows := by
  obtain ⟨us, h1, h2, h3⟩ := h
  exact ⟨us, h1.below hb, h2, fun i u r hu hr => (h3 i u r hu hr).below hb⟩
theorem LiesS.below {w w' : World} {v : Value} {b : Int} {rows : List (List Int)} {out : List Int} (h : LiesS w v b rows out) (hb : Below w.heap.size w w') : LiesS w' v b rows out := by
  obtain ⟨vn, vo, h1, h2, h3⟩ := h
  exact ⟨vn, vo, h1, h2.below hb, h3.below hb⟩
theorem OwnRows.lies {w : World} {lo hi : Nat} {v : Value} {us : List Value} {rows : List (List Int)} (h : OwnRows w lo hi us rows) (ht : Lies id w v us) : LiesR w v rows := ⟨us, ht, h.len, fun i u r hu hr => (h.row i u r hu hr).lies⟩
theorem OwnR.lies {w : World} {lo hi : Nat} {v : Value} {us : List Value} {rows : List (List Int)} (h : OwnR w lo hi v us rows) : LiesR w v rows := h.rows.lies h.top.lies
theorem OwnRows.last {w : World} {lo hi : Nat} {us : List Value} {rows : List (List Int)} {vo : Value} {out : List Int} (h : OwnRows w lo hi (us ++ [vo]) (rows ++ [out])) : OwnI w lo hi vo out := by
  have hl : us.length = rows.length := by have := h.len; simpa using this
  exact h.row us.length vo out (by simp) (by rw [hl]; simp)
theorem OwnS.lies {w : World} {lo hi : Nat} {v : Value} {b : Int} {rows : List (List Int)} {out : List Int} (h : OwnS w lo hi v b rows out) : LiesS w v b rows out := by
  obtain ⟨vn, vo, us, h1, h2, h3⟩ := h
  exact ⟨vn, vo, h1, h2.lies, h3.last.lies⟩
theorem OwnRows.below {w w' : World} {lo hi : Nat} {us : List Value} {rows : List (List Int)} (h : OwnRows w lo hi us rows) (hb : Below w.heap.size w w') : OwnRows w' lo hi us rows := ⟨h.len, fun i u r hu hr => (h.row i u r hu hr).below hb, h.apart⟩
theorem OwnRows.touch {w w' : World} {lo hi lo' hi' : Nat} {us : List Value} {rows : List (List Int)} (h : OwnRows w lo hi us rows) (ht : Touch lo' hi' w w') (hd : hi ≤ lo' ∨ hi' ≤ lo) : OwnRows w' lo hi us rows := ⟨h.len, fun i u r hu hr => (h.row i u r hu hr).touch ht hd, h.apart⟩
theorem OwnR.below {w w' : World} {lo hi : Nat} {v : Value} {us : List Value} {rows : List (List Int)} (h : OwnR w lo hi v us rows) (hb : Below w.heap.size w w') : OwnR w' lo hi v us rows := ⟨h.top.below hb, h.lt, Nat.le_trans h.le hb.size, h.rows.below hb⟩
theorem OwnR.touch {w w' : World} {lo hi lo' hi' : Nat} {v : Value} {us : List Value} {rows : List (List Int)} (h : OwnR w lo hi v us rows) (ht : Touch lo' hi' w w') (hd : hi ≤ lo' ∨ hi' ≤ lo) : OwnR w' lo hi v us rows :=
  ⟨h.top.of_same fun k hk => ht.block k (h.top.lt k hk).2 (by have := (h.top.lt k hk).1; have := h.lt k hk; omega), h.lt, Nat.le_trans h.le ht.size, h.rows.touch ht hd⟩
theorem OwnS.below {w w' : World} {lo hi : Nat} {v : Value} {b : Int} {rows : List (List Int)} {out : List Int} (h : OwnS w lo hi v b rows out) (hb : Below w.heap.size w w') : OwnS w' lo hi v b rows out := by
  obtain ⟨vn, vo, us, h1, h2, h3⟩ := h
  exact ⟨vn, vo, us, h1, h2.below hb, h3.below hb⟩
theorem OwnS.touch {w w' : World} {lo hi lo' hi' : Nat} {v : Value} {b : Int} {rows : List (List Int)} {out : List Int} (h : OwnS w lo hi v b rows out) (ht : Touch lo' hi' w w') (hd : hi ≤ lo' ∨ hi' ≤ lo) : OwnS w' lo hi v b rows out := by
  obtain ⟨vn, vo, us, h1, h2, h3⟩ := h
  exact ⟨vn, vo, us, h1, h2.touch ht hd, h3.touch ht hd⟩
theorem OwnS.le {w : World} {lo hi : Nat} {v : Value} {b : Int} {rows : List (List Int)} {out : List Int} (h : OwnS w lo hi v b rows out) : hi ≤ w.heap.size := by
  obtain ⟨vn, vo, us, h1, h2, h3⟩ := h
  exact h2.le
/-- A row that the rows do not hold yet. -/
theorem OwnRows.snoc {w : World} {lo hi hi' : Nat} {us : List Value} {rows : List (List Int)} {u : Value} {r : List Int} (h : OwnRows w lo hi us rows) (hu : OwnI w hi hi' u r) (hlo : lo ≤ hi) (hle : hi ≤ hi') : OwnRows w lo hi' (us ++ [u]) (rows ++ [r]) := by
  refine ⟨by simp [h.len], fun i x y hx hy => ?_, fun i j x x' hx hx' hij => ?_⟩
  · by_cases hi' : i < us.length
    · rw [List.getElem?_append_left hi'] at hx
      rw [List.getElem?_append_left (by rw [← h.len]; exact hi')] at hy
      exact (h.row i x y hx hy).mono (Nat.le_refl _) hle hu.le
    · have e1 : i = us.length := by have := (List.getElem?_eq_some_iff.1 hx).1; simp at this; omega
      subst e1
      rw [List.getElem?_append_right (Nat.le_refl _)] at hx
      rw [h.len, List.getElem?_append_right (Nat.le_refl _)] at hy
      simp at hx hy
      subst hx; subst hy
      exact hu.mono hlo (Nat.le_refl _) hu.le
  · have old : ∀ (i : Nat) (x : Value), us[i]? = some x → ∀ k, x.ownBlock = some k → k < hi := fun i x hx k hk => by
      obtain ⟨r', hr'⟩ : ∃ r', rows[i]? = some r' := ⟨_, List.getElem?_eq_getElem (by rw [← h.len]; exact (List.getElem?_eq_some_iff.1 hx).1)⟩
      exact (h.row i x r' hx hr').lt k hk
    have new : ∀ k, u.ownBlock = some k → hi ≤ k := fun k hk => (hu.range k hk).1
    have at_ : ∀ (i : Nat) (x : Value), (us ++ [u])[i]? = some x → (i < us.length ∧ us[i]? = some x) ∨ (i = us.length ∧ x = u) := fun i x hx => by
      by_cases hi' : i < us.length
      · rw [List.getElem?_append_left hi'] at hx
        exact .inl ⟨hi', hx⟩
      · have e1 : i = us.length := by have := (List.getElem?_eq_some_iff.1 hx).1; simp at this; omega
        subst e1
        rw [List.getElem?_append_right (Nat.le_refl _)] at hx
        simp at hx
        exact .inr ⟨rfl, hx.symm⟩
    rcases at_ i x hx with ⟨h1, h2⟩ | ⟨h1, rfl⟩ <;> rcases at_ j x' hx' with ⟨h3, h4⟩ | ⟨h3, rfl⟩
    · exact h.apart i j x x' h2 h4 hij
    · cases hb : x.ownBlock with
      | none => exact .inl rfl
      | some k =>
        refine .inr fun e => ?_
        have := old i x h2 k hb
        have := new k e.symm
        omega
    · cases hb : x.ownBlock with
      | none => exact .inl rfl
      | some k =>
        refine .inr fun e => ?_
        have := old j x' h4 k e.symm
        have := new k hb
        omega
    · omega
theorem OwnRows.nil (w : World) (lo hi : Nat) : OwnRows w lo hi [] [] := ⟨rfl, fun i u r h => by simp at h, fun i j u u' h => by simp at h⟩
/-- The outer slice's block is no row's. -/
theorem Has.ne_top {w : World} {lo lo' : Nat} {v u : Value} {us : List Value} {xs : List Int} (ht : Has id 24 w lo v us) (h : Has (Value.int .i64) 3 w lo' u xs) : v.ownBlock = none ∨ v.ownBlock ≠ u.ownBlock := by
  rcases ht.2 with ⟨rfl, _⟩ | ⟨g, cap, cur, rfl, _, hg, _⟩
  · exact .inl rfl
  · rcases h.2 with ⟨rfl, _⟩ | ⟨g', cap', cur', rfl, _, hg', _⟩
    · exact .inr (by simp [Value.ownBlock])
    · refine .inr fun e => ?_
      have e1 : g = g' := by simpa [Value.ownBlock] using e
      subst e1
      rw [hg] at hg'
      simp at hg'
theorem Has.ne_row {w : World} {lo lo' : Nat} {v u : Value} {us : List Value} {xs : List Int} (ht : Has id 24 w lo v us) (h : Has (Value.int .i64) 3 w lo' u xs) : u.ownBlock = none ∨ u.ownBlock ≠ v.ownBlock := by
  rcases ht.ne_top h with h1 | h1
  · cases hu : u.ownBlock with
    | none => exact .inl rfl
    | some k => exact .inr (by rw [h1]; simp)
  · exact .inr (Ne.symm h1)
/-- How many numbers the rows hold. -/
def tot (rows : List (List Int)) : Nat := (rows.map List.length).sum
theorem tot_snoc (rows : List (List Int)) (r : List Int) : tot (rows ++ [r]) = tot rows + r.length := by simp [tot]
theorem tot_take (rows : List (List Int)) (i : Nat) (r : List Int) (h : rows[i]? = some r) : tot (rows.take (i + 1)) = tot (rows.take i) + r.length := by
  obtain ⟨hi, rfl⟩ := List.getElem?_eq_some_iff.1 h
  rw [List.take_succ_eq_append_getElem hi, tot_snoc]
theorem tot_take_le (rows : List (List Int)) (i : Nat) : tot (rows.take i) ≤ tot rows := by
  have : tot rows = tot (rows.take i) + tot (rows.drop i) := by
    simp only [tot, List.map_take, List.map_drop]
    rw [← List.sum_append, List.take_append_drop]
  omega
theorem row_le (rows : List (List Int)) (i : Nat) (r : List Int) (h : rows[i]? = some r) : r.length ≤ tot rows := by
  have := tot_take rows i r h
  have := tot_take_le rows (i + 1)
  omega
/-- A row's value, its cell in the outer slice, its own cells. -/
theorem LiesR.row {w : World} {v : Value} {rows : List (List Int)} (h : LiesR w v rows) : ∃ a cap, v = .slice a rows.length cap ∧ rows.length ≤ 9223372036854775807 ∧
    ∀ (i : Nat) (r : List Int), rows[i]? = some r → ∃ b off u, a = some ⟨b, off, none⟩ ∧ w.cell? ⟨b, off + i, none⟩ = some u ∧ Lies (Value.int .i64) w u r := by
  obtain ⟨us, ⟨hl, a, cap, rfl, hn, hc⟩, hlen, hrow⟩ := h
  refine ⟨a, cap, by rw [hlen], by omega, fun i r hr => ?_⟩
  have hi : i < us.length := by rw [hlen]; exact (List.getElem?_eq_some_iff.1 hr).1
  obtain ⟨b, off, rfl, hcell⟩ := hc i _ (List.getElem?_eq_getElem hi)
  exact ⟨b, off, _, rfl, hcell, hrow i _ r (List.getElem?_eq_getElem hi) hr⟩
/-- A write into the outer slice's block leaves the rows. -/
theorem OwnRows.top_grown {w w' : World} {lo lo' hi : Nat} {v : Value} {us xs : List Value} {rows : List (List Int)} (h : OwnRows w lo hi us rows) (ht : Has id 24 w lo' v xs) (hg : w.grownBy w' v.ownBlock) : OwnRows w' lo hi us rows :=
  ⟨h.len, fun i u r hu hr => (h.row i u r hu hr).wrote (Wrote.of_grown hg) (fun x hx => by
    obtain rfl : x = v := by simpa using hx
    exact ht.ne_row (h.row i u r hu hr).has), h.apart⟩
theorem OwnRows.mono {w : World} {lo hi hi' : Nat} {us : List Value} {rows : List (List Int)} (h : OwnRows w lo hi us rows) (h1 : hi ≤ hi') (h2 : hi' ≤ w.heap.size) : OwnRows w lo hi' us rows :=
  ⟨h.len, fun i u r hu hr => (h.row i u r hu hr).mono (Nat.le_refl _) h1 h2, h.apart⟩
theorem OwnRows.lower {w : World} {lo lo' hi : Nat} {us : List Value} {rows : List (List Int)} (h : OwnRows w lo hi us rows) (h1 : lo' ≤ lo) : OwnRows w lo' hi us rows :=
  ⟨h.len, fun i u r hu hr => (h.row i u r hu hr).mono h1 (Nat.le_refl _) (h.row i u r hu hr).le, h.apart⟩
theorem OwnS.make {w : World} {base lo mid hi : Nat} {vn vo : Value} {us : List Value} {b : Int} {rows : List (List Int)} {out : List Int} (h : OwnR w lo mid vn us rows) (ho : OwnI w mid hi vo out) (h0 : base ≤ lo) (h1 : lo ≤ mid) (h2 : mid ≤ hi) :
    OwnS w base hi (.agg #[.int .i64 b, vn, vo]) b rows out :=
  ⟨vn, vo, us, rfl, ⟨h.top.mono h0, fun k hk => Nat.lt_of_lt_of_le (h.lt k hk) h2, ho.le, (h.rows.lower h0).mono h2 ho.le⟩, (h.rows.snoc ho h1 h2).lower h0⟩
theorem LiesS.form {w : World} {v : Value} {b : Int} {rows : List (List Int)} {out : List Int} (h : LiesS w v b rows out) : ∃ an cn ao co, v = .agg #[.int .i64 b, .slice an rows.length cn, .slice ao out.length co] := by
  obtain ⟨vn, vo, rfl, ⟨us, ⟨_, an, cn, rfl, _⟩, hl, _⟩, ⟨_, ao, co, rfl, _⟩⟩ := h
  exact ⟨an, cn, ao, co, by rw [hl]⟩
/-- All of a sequence's cells, by their numbers. -/
theorem LiesS.parts {w : World} {v : Value} {b : Int} {rows : List (List Int)} {out : List Int} (h : LiesS w v b rows out) : ∃ an cn ao co, v = .agg #[.int .i64 b, .slice an rows.length cn, .slice ao out.length co] ∧
    (∀ (i : Nat) (r : List Int), rows[i]? = some r → ∃ p o a' c', an = some ⟨p, o, none⟩ ∧ w.cell? ⟨p, o + i, none⟩ = some (.slice a' r.length c') ∧ ∀ (k : Nat) (x : Int), r[k]? = some x → ∃ q s, a' = some ⟨q, s, none⟩ ∧ w.cell? ⟨q, s + k, none⟩ = some (.int .i64 x)) ∧
    ∀ (k : Nat) (x : Int), out[k]? = some x → ∃ q s, ao = some ⟨q, s, none⟩ ∧ w.cell? ⟨q, s + k, none⟩ = some (.int .i64 x) := by
  obtain ⟨vn, vo, rfl, hn, ⟨_, ao, co, rfl, _, hco⟩⟩ := h
  obtain ⟨an, cn, rfl, _, hc⟩ := hn.row
  refine ⟨an, cn, ao, co, rfl, fun i r hr => ?_, fun k x hx => ?_⟩
  · obtain ⟨p, o, u, h1, h2, ⟨_, a', c', rfl, _, h3⟩⟩ := hc i r hr
    refine ⟨p, o, a', c', h1, h2, fun k x hx => ?_⟩
    obtain ⟨q, s, h4, h5⟩ := h3 k x hx
    exact ⟨q, s, h4, h5⟩
  · obtain ⟨q, s, h4, h5⟩ := hco k x hx
    exact ⟨q, s, h4, h5⟩
/-- The same of a sequence whose slices are known by name. -/
theorem LiesS.cells {w : World} {b : Int} {rows : List (List Int)} {out : List Int} {an ao : Option Addr} {cn co : Nat} (h : LiesS w (.agg #[.int .i64 b, .slice an rows.length cn, .slice ao out.length co]) b rows out) :
    (∀ (i : Nat) (r : List Int), rows[i]? = some r → ∃ p o a' c', an = some ⟨p, o, none⟩ ∧ w.cell? ⟨p, o + i, none⟩ = some (.slice a' r.length c') ∧ ∀ (k : Nat) (x : Int), r[k]? = some x → ∃ q s, a' = some ⟨q, s, none⟩ ∧ w.cell? ⟨q, s + k, none⟩ = some (.int .i64 x)) ∧
    ∀ (k : Nat) (x : Int), out[k]? = some x → ∃ q s, ao = some ⟨q, s, none⟩ ∧ w.cell? ⟨q, s + k, none⟩ = some (.int .i64 x) := by
  obtain ⟨an', cn', ao', co', hv, h1, h2⟩ := h.parts
  injection hv with hv
  simp only [Array.mk.injEq, List.cons.injEq, Value.slice.injEq, true_and, and_true] at hv
  obtain ⟨⟨rfl, rfl⟩, rfl, rfl⟩ := hv
  exact ⟨h1, h2⟩
theorem OwnS.form {w : World} {lo hi : Nat} {v : Value} {b : Int} {rows : List (List Int)} {out : List Int} (h : OwnS w lo hi v b rows out) : ∃ an cn ao co, v = .agg #[.int .i64 b, .slice an rows.length cn, .slice ao out.length co] := h.lies.form
theorem OwnI.form {w : World} {lo hi : Nat} {v : Value} {xs : List Int} (h : OwnI w lo hi v xs) : ∃ a c, v = .slice a xs.length c := by
  obtain ⟨a, c, h1, _⟩ := h.has.form
  exact ⟨a, c, h1⟩
theorem below_drew' (w : World) : Below w.heap.size w w.drew := ⟨rfl, rfl, rfl, Nat.le_refl _, fun _ _ => rfl⟩
/-- A call that hands back a new slice of rows, a new sequence. -/
def GivesR (rows : List (List Int)) (w : World) (en : Ending) (w' : World) : Prop := ∃ v us, en = .returned v ∧ OwnR w' w.heap.size w'.heap.size v us rows ∧ Below w.heap.size w w'
def GivesS (b : Int) (rows : List (List Int)) (out : List Int) (w : World) (en : Ending) (w' : World) : Prop := ∃ v, en = .returned v ∧ OwnS w' w.heap.size w'.heap.size v b rows out ∧ Below w.heap.size w w'
theorem set_next (us : List Value) (n : Nat) (z x : Value) (h : us.length < n) : ((us ++ List.replicate (n - us.length) z).map id).set us.length (id x) = ((us ++ [x]) ++ List.replicate (n - (us.length + 1)) z).map id := by
  rw [show n - us.length = (n - (us.length + 1)) + 1 from by omega, List.replicate_succ, List.map_append, List.map_cons, set_mid _ _ _ _ us.length (by simp), List.append_assoc, List.map_append]
  rfl
theorem made_rows {w1 : World} {base n : Nat} {v : Value} (h : w1.ownsRow base 24 1 v n (madeCells (Value.slice none 0 0).cells (n * 1)).toList) : Has id 24 w1 base v (List.replicate n (.slice none 0 0)) := by
  rw [show (Value.slice none 0 0).cells = #[Value.slice none 0 0] from rfl, toList_madeCells_one] at h
  show w1.ownsRow _ _ _ _ _ _
  rw [List.length_replicate]
  simpa using h
end Go.Proofs.YtfpdikohlafpiaaGreat.Plain
