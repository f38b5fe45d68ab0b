/- Plain facts on sequences as lists: which ones are valid, the state and the term that they lead to, the steady form. No conditions beyond those that each fact states. -/
import Derived.WalkKit
import Derived.Lib.Hide
import Derived.Test.YtfpdikohlafpiaaGreatDigitsVal
namespace Go.Proofs.YtfpdikohlafpiaaGreat.Plain

/-- A valid sequence. -/
def IsSeq (b : Int) (rows : List (List Int)) (out : List Int) : Prop :=
  2 ≤ b ∧ b ≤ 4 ∧ 1 ≤ rows.length ∧ rows.length ≤ 16 ∧ out.length = rows.length ∧ (∀ r ∈ rows, (r.length : Int) = b ∧ ∀ x ∈ r, 0 ≤ x ∧ x < (rows.length : Int)) ∧ ∀ x ∈ out, 0 ≤ x ∧ x ≤ 3
instance (b : Int) (rows : List (List Int)) (out : List Int) : Decidable (IsSeq b rows out) := by unfold IsSeq; infer_instance
def seqB (b : Int) (rows : List (List Int)) (out : List Int) : Bool := decide (IsSeq b rows out)
theorem seqB_yes {b : Int} {rows : List (List Int)} {out : List Int} (h : IsSeq b rows out) : seqB b rows out = true := decide_eq_true h
theorem seqB_no {b : Int} {rows : List (List Int)} {out : List Int} (h : ¬ IsSeq b rows out) : seqB b rows out = false := decide_eq_false h
theorem seqB_out {b : Int} {rows : List (List Int)} {out : List Int} (h : seqB b rows out = true) : IsSeq b rows out := of_decide_eq_true h

/-- Row and term i are those of a valid sequence. -/
def RowOK (b : Int) (n : Nat) (r : List Int) (o : Int) : Prop := (r.length : Int) = b ∧ (∀ x ∈ r, 0 ≤ x ∧ x < (n : Int)) ∧ 0 ≤ o ∧ o ≤ 3
instance (b : Int) (n : Nat) (r : List Int) (o : Int) : Decidable (RowOK b n r o) := by unfold RowOK; infer_instance
def rowB (b : Int) (n : Nat) (r : List Int) (o : Int) : Bool := decide (RowOK b n r o)
theorem IsSeq.rowOK {b : Int} {rows : List (List Int)} {out : List Int} (h : IsSeq b rows out) {i : Nat} {r : List Int} {o : Int} (hr : rows[i]? = some r) (ho : out[i]? = some o) : RowOK b rows.length r o := by
  obtain ⟨_, _, _, _, _, h1, h2⟩ := h
  have h3 := h1 r (List.mem_of_getElem? hr)
  have h4 := h2 o (List.mem_of_getElem? ho)
  exact ⟨h3.1, h3.2, h4⟩
theorem isSeq_of {b : Int} {rows : List (List Int)} {out : List Int} (h1 : 2 ≤ b) (h2 : b ≤ 4) (h3 : 1 ≤ rows.length) (h4 : rows.length ≤ 16) (h5 : out.length = rows.length)
    (h6 : ∀ (i : Nat) (r : List Int), rows[i]? = some r → (r.length : Int) = b ∧ ∀ (k : Nat) (x : Int), r[k]? = some x → 0 ≤ x ∧ x < (rows.length : Int)) (h7 : ∀ (i : Nat) (o : Int), out[i]? = some o → 0 ≤ o ∧ o ≤ 3) : IsSeq b rows out := by
  refine ⟨h1, h2, h3, h4, h5, fun r hr => ?_, fun o ho => ?_⟩
  · obtain ⟨i, hi⟩ := List.getElem?_of_mem hr
    refine ⟨(h6 i r hi).1, fun x hx => ?_⟩
    obtain ⟨k, hk⟩ := List.getElem?_of_mem hx
    exact (h6 i r hi).2 k x hk
  · obtain ⟨i, hi⟩ := List.getElem?_of_mem ho
    exact h7 i o hi
theorem not_seq_row {b : Int} {rows : List (List Int)} {out : List Int} {i : Nat} {r : List Int} (hr : rows[i]? = some r) (h : ¬ (r.length : Int) = b) : seqB b rows out = false :=
  seqB_no fun hs => h (hs.2.2.2.2.2.1 r (List.mem_of_getElem? hr)).1
theorem not_seq_cell {b : Int} {rows : List (List Int)} {out : List Int} {i k : Nat} {r : List Int} {x : Int} (hr : rows[i]? = some r) (hx : r[k]? = some x) (h : x < 0 ∨ (rows.length : Int) ≤ x) : seqB b rows out = false :=
  seqB_no fun hs => by
    have := (hs.2.2.2.2.2.1 r (List.mem_of_getElem? hr)).2 x (List.mem_of_getElem? hx)
    omega
theorem not_seq_out {b : Int} {rows : List (List Int)} {out : List Int} {i : Nat} {o : Int} (ho : out[i]? = some o) (h : o < 0 ∨ 3 < o) : seqB b rows out = false :=
  seqB_no fun hs => by
    have := hs.2.2.2.2.2.2 o (List.mem_of_getElem? ho)
    omega
theorem rowB_yes {b : Int} {n : Nat} {r : List Int} {o : Int} (h1 : (r.length : Int) = b) (h2 : ∀ (k : Nat) (x : Int), r[k]? = some x → 0 ≤ x ∧ x < (n : Int)) (h3 : 0 ≤ o) (h4 : o ≤ 3) : rowB b n r o = true :=
  decide_eq_true ⟨h1, fun x hx => by
    obtain ⟨k, hk⟩ := List.getElem?_of_mem hx
    exact h2 k x hk, h3, h4⟩
theorem rowB_len {b : Int} {n : Nat} {r : List Int} {o : Int} (h : ¬ (r.length : Int) = b) : rowB b n r o = false := decide_eq_false fun hs => h hs.1
theorem rowB_out {b : Int} {n : Nat} {r : List Int} {o : Int} (h : o < 0 ∨ 3 < o) : rowB b n r o = false := decide_eq_false fun hs => by have := hs.2.2; omega
theorem rowB_cell {b : Int} {n : Nat} {r : List Int} {o : Int} {k : Nat} {x : Int} (hx : r[k]? = some x) (h : x < 0 ∨ (n : Int) ≤ x) : rowB b n r o = false := decide_eq_false fun hs => by
  have := hs.2.1 x (List.mem_of_getElem? hx)
  omega
theorem rowB_seq {b : Int} {rows : List (List Int)} {out : List Int} {i : Nat} {r : List Int} {o : Int} (hr : rows[i]? = some r) (ho : out[i]? = some o) (h : rowB b rows.length r o = false) : seqB b rows out = false :=
  seqB_no fun hs => by
    have h1 : rowB b rows.length r o = true := decide_eq_true (hs.rowOK hr ho)
    rw [h1] at h
    cases h
theorem seq_rows {b : Int} {rows : List (List Int)} {out : List Int} (h1 : 2 ≤ b) (h2 : b ≤ 4) (h3 : 1 ≤ rows.length) (h4 : rows.length ≤ 16) (h5 : out.length = rows.length)
    (h : ∀ (i : Nat) (r : List Int) (o : Int), rows[i]? = some r → out[i]? = some o → rowB b rows.length r o = true) : seqB b rows out = true := by
  refine seqB_yes (isSeq_of h1 h2 h3 h4 h5 (fun i r hr => ?_) (fun i o ho => ?_))
  · obtain ⟨o, ho⟩ : ∃ o, out[i]? = some o := ⟨_, List.getElem?_eq_getElem (by rw [h5]; exact (List.getElem?_eq_some_iff.1 hr).1)⟩
    have := of_decide_eq_true (h i r o hr ho)
    exact ⟨this.1, fun k x hx => this.2.1 x (List.mem_of_getElem? hx)⟩
  · obtain ⟨r, hr⟩ : ∃ r, rows[i]? = some r := ⟨_, List.getElem?_eq_getElem (by rw [← h5]; exact (List.getElem?_eq_some_iff.1 ho).1)⟩
    exact (of_decide_eq_true (h i r o hr ho)).2.2
/-- The next state. -/
def nextS (rows : List (List Int)) (s d : Int) : Int := (rows.getD s.toNat []).getD d.toNat 0
def afterS (rows : List (List Int)) (ds : List Int) : Int := ds.foldl (nextS rows) 0
theorem afterS_snoc (rows : List (List Int)) (ds : List Int) (d : Int) : afterS rows (ds ++ [d]) = nextS rows (afterS rows ds) d := by simp [afterS]
theorem IsSeq.row {b : Int} {rows : List (List Int)} {out : List Int} (h : IsSeq b rows out) {s : Int} (h0 : 0 ≤ s) (h1 : s < rows.length) :
    ∃ r, rows[s.toNat]? = some r ∧ rows.getD s.toNat [] = r ∧ (r.length : Int) = b ∧ ∀ x ∈ r, 0 ≤ x ∧ x < (rows.length : Int) := by
  have hs : s.toNat < rows.length := by omega
  obtain ⟨ha, hb⟩ := h.2.2.2.2.2.1 rows[s.toNat] (List.getElem_mem _)
  exact ⟨rows[s.toNat], List.getElem?_eq_getElem hs, by simp [List.getD, hs], ha, hb⟩
theorem IsSeq.next {b : Int} {rows : List (List Int)} {out : List Int} (h : IsSeq b rows out) {s d : Int} (h0 : 0 ≤ s) (h1 : s < rows.length) (h2 : 0 ≤ d) (h3 : d < b) :
    ∃ r, rows[s.toNat]? = some r ∧ r[d.toNat]? = some (nextS rows s d) ∧ 0 ≤ nextS rows s d ∧ nextS rows s d < rows.length := by
  obtain ⟨r, e1, e2, hl, hm⟩ := h.row h0 h1
  have hd : d.toNat < r.length := by omega
  have e3 : nextS rows s d = r[d.toNat] := by rw [nextS, e2]; simp [List.getD, hd]
  obtain ⟨ha, hb⟩ := hm r[d.toNat] (List.getElem_mem _)
  exact ⟨r, e1, by rw [e3]; exact List.getElem?_eq_getElem hd, by rw [e3]; exact ha, by rw [e3]; exact hb⟩
theorem IsSeq.after {b : Int} {rows : List (List Int)} {out : List Int} (h : IsSeq b rows out) : ∀ (ds : List Int), (∀ d ∈ ds, 0 ≤ d ∧ d < b) → 0 ≤ afterS rows ds ∧ afterS rows ds < rows.length := by
  have key : ∀ (ds : List Int) (s : Int), 0 ≤ s → s < rows.length → (∀ d ∈ ds, 0 ≤ d ∧ d < b) → 0 ≤ ds.foldl (nextS rows) s ∧ ds.foldl (nextS rows) s < rows.length := by
    intro ds
    induction ds with
    | nil => intro s h0 h1 _; exact ⟨h0, h1⟩
    | cons d ds ih =>
      intro s h0 h1 hd
      obtain ⟨ha, hb⟩ := hd d (by simp)
      obtain ⟨_, _, _, hc, he⟩ := h.next h0 h1 ha hb
      exact ih _ hc he fun x hx => hd x (by simp [hx])
  have h1 := h.2.2.1
  exact fun ds hd => key ds 0 (Int.le_refl _) (by omega) hd
theorem IsSeq.after_step {b : Int} {rows : List (List Int)} {out : List Int} (h : IsSeq b rows out) {ds : List Int} (hd : ∀ d ∈ ds, 0 ≤ d ∧ d < b) {i sn : Nat} (hi : i < ds.length) (hs : (sn : Int) = afterS rows (ds.take i)) :
    ∃ dn yn : Nat, ds[i]? = some (dn : Int) ∧ sn < rows.length ∧ yn < rows.length ∧ (yn : Int) = afterS rows (ds.take (i + 1)) ∧ ∃ r, rows[sn]? = some r ∧ r[dn]? = some (yn : Int) := by
  have h1 := h.after (ds.take i) fun d hd' => hd d (List.mem_of_mem_take hd')
  have hx := hd ds[i] (List.getElem_mem _)
  rw [← hs] at h1
  obtain ⟨r, e1, e2, e3, e4⟩ := h.next (s := sn) (d := ds[i]) h1.1 h1.2 hx.1 hx.2
  refine ⟨ds[i].toNat, (nextS rows sn ds[i]).toNat, ?_, by omega, by omega, ?_, r, ?_, ?_⟩
  · rw [List.getElem?_eq_getElem hi, show ((ds[i].toNat : Nat) : Int) = ds[i] from by omega]
  · rw [List.take_succ_eq_append_getElem hi, afterS_snoc, ← hs]
    omega
  · simpa using e1
  · rw [e2, show (((nextS rows sn ds[i]).toNat : Nat) : Int) = nextS rows sn ds[i] from by omega]
/-- The state after some digits, -1 where sequence or digits are not valid. -/
def afterV (b : Int) (rows : List (List Int)) (out : List Int) (ar : Bool) (ds : List Int) : Int := if seqB b rows out = true ∧ ar = true then afterS rows ds else -1
/-- The term n. -/
def termS (b : Int) (rows : List (List Int)) (out : List Int) (n : Int) : Int := out.getD (afterS rows (digs n.toNat b.toNat)).toNat 0
theorem IsSeq.term_at {b : Int} {rows : List (List Int)} {out : List Int} (h : IsSeq b rows out) {ds : List Int} (hd : ∀ d ∈ ds, 0 ≤ d ∧ d < b) : ∃ sn : Nat, (sn : Int) = afterS rows ds ∧ sn < out.length ∧ out[sn]? = some (out.getD (afterS rows ds).toNat 0) := by
  have h1 := h.after ds hd
  have h2 := h.2.2.2.2.1
  refine ⟨(afterS rows ds).toNat, by omega, by omega, ?_⟩
  rw [List.getD_eq_getElem?_getD, List.getElem?_eq_getElem (by omega)]
  rfl
/-- The steady form. -/
def steadyB (b : Int) (rows : List (List Int)) (out : List Int) : Bool := seqB b rows out && decide (nextS rows 0 0 = 0)
def raise (r : List Int) : List Int := r.map (· + 1)
def steadyRows (rows : List (List Int)) : List (List Int) := (0 :: raise ((rows.getD 0 []).drop 1)) :: rows.map raise
def steadyOut (out : List Int) : List Int := out.getD 0 0 :: out
end Go.Proofs.YtfpdikohlafpiaaGreat.Plain
