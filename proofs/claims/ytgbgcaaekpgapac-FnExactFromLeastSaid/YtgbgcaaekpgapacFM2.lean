/- Several texts of this proof, one behind the other: each says ahead of it what it shows and under which conditions. -/
import Derived.WalkKit
import Derived.Lib.Hide
import Derived.Test.YtgbgcaaekpgapacFM1
import Derived.Deep.RegionHeld3
import Derived.Test.YtgbgcaaekpgapacRows
import Derived.ProofKit
import Derived.OpenShut
import Derived.ShutString
import Derived.PlainAid
import Derived.Outline
import Derived.Shelf.Slices.Turned
import Derived.Shelf.Slices.Equal
import Derived.Ground.Names2Prog
import Derived.Shelf.Slices.Clone
import Derived.Shelf.Slices.Empties2
import Derived.Ground.SlgnProg
import Derived.Shelf.SlicesE.Clone
import Derived.Test.YtgbgcaaekpgapacProg
import Derived.BigQuiet
import Derived.Deep.QuietTactic
import Derived.WalkSmall
import Derived.IntWalk
import Derived.Lib.OwnBridge
import Derived.Deep.RegionLaw
/- Plain facts on sequences as lists: which ones are valid, the state and the term that they lead to, the steady form. No conditions beyond those that each fact states. -/
namespace Go.Proofs.Ytgbgcaaekpgapac.Plain

/-- A valid sequence. -/
def IsSeq (b : Int) (rows : List (List Int)) (out : List Int) : Prop :=
  2 ≤ b ∧ b ≤ 4 ∧ 1 ≤ rows.length ∧ rows.length ≤ 16 ∧ out.length = rows.length ∧ (∀ r ∈ rows, (r.length : Int) = b ∧ ∀ x ∈ r, 0 ≤ x ∧ x < (rows.length : Int)) ∧ ∀ x ∈ out, 0 ≤ x ∧ x ≤ 3
instance (b : Int) (rows : List (List Int)) (out : List Int) : Decidable (IsSeq b rows out) := by unfold IsSeq; infer_instance
def seqB (b : Int) (rows : List (List Int)) (out : List Int) : Bool := decide (IsSeq b rows out)
theorem seqB_yes {b : Int} {rows : List (List Int)} {out : List Int} (h : IsSeq b rows out) : seqB b rows out = true := decide_eq_true h
theorem seqB_no {b : Int} {rows : List (List Int)} {out : List Int} (h : ¬ IsSeq b rows out) : seqB b rows out = false := decide_eq_false h
theorem seqB_out {b : Int} {rows : List (List Int)} {out : List Int} (h : seqB b rows out = true) : IsSeq b rows out := of_decide_eq_true h

/-- Row and term i are those of a valid sequence. -/
def RowOK (b : Int) (n : Nat) (r : List Int) (o : Int) : Prop := (r.length : Int) = b ∧ (∀ x ∈ r, 0 ≤ x ∧ x < (n : Int)) ∧ 0 ≤ o ∧ o ≤ 3
instance (b : Int) (n : Nat) (r : List Int) (o : Int) : Decidable (RowOK b n r o) := by unfold RowOK; infer_instance
def rowB (b : Int) (n : Nat) (r : List Int) (o : Int) : Bool := decide (RowOK b n r o)
theorem IsSeq.rowOK {b : Int} {rows : List (List Int)} {out : List Int} (h : IsSeq b rows out) {i : Nat} {r : List Int} {o : Int} (hr : rows[i]? = some r) (ho : out[i]? = some o) : RowOK b rows.length r o := by
  obtain ⟨_, _, _, _, _, h1, h2⟩ := h
  have h3 := h1 r (List.mem_of_getElem? hr)
  have h4 := h2 o (List.mem_of_getElem? ho)
  exact ⟨h3.1, h3.2, h4⟩
theorem isSeq_of {b : Int} {rows : List (List Int)} {out : List Int} (h1 : 2 ≤ b) (h2 : b ≤ 4) (h3 : 1 ≤ rows.length) (h4 : rows.length ≤ 16) (h5 : out.length = rows.length)
    (h6 : ∀ (i : Nat) (r : List Int), rows[i]? = some r → (r.length : Int) = b ∧ ∀ (k : Nat) (x : Int), r[k]? = some x → 0 ≤ x ∧ x < (rows.length : Int)) (h7 : ∀ (i : Nat) (o : Int), out[i]? = some o → 0 ≤ o ∧ o ≤ 3) : IsSeq b rows out := by
  refine ⟨h1, h2, h3, h4, h5, fun r hr => ?_, fun o ho => ?_⟩
  · obtain ⟨i, hi⟩ := List.getElem?_of_mem hr
    refine ⟨(h6 i r hi).1, fun x hx => ?_⟩
    obtain ⟨k, hk⟩ := List.getElem?_of_mem hx
    exact (h6 i r hi).2 k x hk
  · obtain ⟨i, hi⟩ := List.getElem?_of_mem ho
    exact h7 i o hi
theorem not_seq_row {b : Int} {rows : List (List Int)} {out : List Int} {i : Nat} {r : List Int} (hr : rows[i]? = some r) (h : ¬ (r.length : Int) = b) : seqB b rows out = false :=
  seqB_no fun hs => h (hs.2.2.2.2.2.1 r (List.mem_of_getElem? hr)).1
theorem not_seq_cell {b : Int} {rows : List (List Int)} {out : List Int} {i k : Nat} {r : List Int} {x : Int} (hr : rows[i]? = some r) (hx : r[k]? = some x) (h : x < 0 ∨ (rows.length : Int) ≤ x) : seqB b rows out = false :=
  seqB_no fun hs => by
    have := (hs.2.2.2.2.2.1 r (List.mem_of_getElem? hr)).2 x (List.mem_of_getElem? hx)
    omega
theorem not_seq_out {b : Int} {rows : List (List Int)} {out : List Int} {i : Nat} {o : Int} (ho : out[i]? = some o) (h : o < 0 ∨ 3 < o) : seqB b rows out = false :=
  seqB_no fun hs => by
    have := hs.2.2.2.2.2.2 o (List.mem_of_getElem? ho)
    omega
theorem rowB_yes {b : Int} {n : Nat} {r : List Int} {o : Int} (h1 : (r.length : Int) = b) (h2 : ∀ (k : Nat) (x : Int), r[k]? = some x → 0 ≤ x ∧ x < (n : Int)) (h3 : 0 ≤ o) (h4 : o ≤ 3) : rowB b n r o = true :=
  decide_eq_true ⟨h1, fun x hx => by
    obtain ⟨k, hk⟩ := List.getElem?_of_mem hx
    exact h2 k x hk, h3, h4⟩
theorem rowB_len {b : Int} {n : Nat} {r : List Int} {o : Int} (h : ¬ (r.length : Int) = b) : rowB b n r o = false := decide_eq_false fun hs => h hs.1
theorem rowB_out {b : Int} {n : Nat} {r : List Int} {o : Int} (h : o < 0 ∨ 3 < o) : rowB b n r o = false := decide_eq_false fun hs => by have := hs.2.2; omega
theorem rowB_cell {b : Int} {n : Nat} {r : List Int} {o : Int} {k : Nat} {x : Int} (hx : r[k]? = some x) (h : x < 0 ∨ (n : Int) ≤ x) : rowB b n r o = false := decide_eq_false fun hs => by
  have := hs.2.1 x (List.mem_of_getElem? hx)
  omega
theorem rowB_seq {b : Int} {rows : List (List Int)} {out : List Int} {i : Nat} {r : List Int} {o : Int} (hr : rows[i]? = some r) (ho : out[i]? = some o) (h : rowB b rows.length r o = false) : seqB b rows out = false :=
  seqB_no fun hs => by
    have h1 : rowB b rows.length r o = true := decide_eq_true (hs.rowOK hr ho)
    rw [h1] at h
    cases h
theorem seq_rows {b : Int} {rows : List (List Int)} {out : List Int} (h1 : 2 ≤ b) (h2 : b ≤ 4) (h3 : 1 ≤ rows.length) (h4 : rows.length ≤ 16) (h5 : out.length = rows.length)
    (h : ∀ (i : Nat) (r : List Int) (o : Int), rows[i]? = some r → out[i]? = some o → rowB b rows.length r o = true) : seqB b rows out = true := by
  refine seqB_yes (isSeq_of h1 h2 h3 h4 h5 (fun i r hr => ?_) (fun i o ho => ?_))
  · obtain ⟨o, ho⟩ : ∃ o, out[i]? = some o := ⟨_, List.getElem?_eq_getElem (by rw [h5]; exact (List.getElem?_eq_some_iff.1 hr).1)⟩
    have := of_decide_eq_true (h i r o hr ho)
    exact ⟨this.1, fun k x hx => this.2.1 x (List.mem_of_getElem? hx)⟩
  · obtain ⟨r, hr⟩ : ∃ r, rows[i]? = some r := ⟨_, List.getElem?_eq_getElem (by rw [← h5]; exact (List.getElem?_eq_some_iff.1 ho).1)⟩
    exact (of_decide_eq_true (h i r o hr ho)).2.2
/-- The next state. -/
def nextS (rows : List (List Int)) (s d : Int) : Int := (rows.getD s.toNat []).getD d.toNat 0
def afterS (rows : List (List Int)) (ds : List Int) : Int := ds.foldl (nextS rows) 0
theorem afterS_snoc (rows : List (List Int)) (ds : List Int) (d : Int) : afterS rows (ds ++ [d]) = nextS rows (afterS rows ds) d := by simp [afterS]
theorem IsSeq.row {b : Int} {rows : List (List Int)} {out : List Int} (h : IsSeq b rows out) {s : Int} (h0 : 0 ≤ s) (h1 : s < rows.length) :
    ∃ r, rows[s.toNat]? = some r ∧ rows.getD s.toNat [] = r ∧ (r.length : Int) = b ∧ ∀ x ∈ r, 0 ≤ x ∧ x < (rows.length : Int) := by
  have hs : s.toNat < rows.length := by omega
  obtain ⟨ha, hb⟩ := h.2.2.2.2.2.1 rows[s.toNat] (List.getElem_mem _)
  exact ⟨rows[s.toNat], List.getElem?_eq_getElem hs, by simp [List.getD, hs], ha, hb⟩
theorem IsSeq.next {b : Int} {rows : List (List Int)} {out : List Int} (h : IsSeq b rows out) {s d : Int} (h0 : 0 ≤ s) (h1 : s < rows.length) (h2 : 0 ≤ d) (h3 : d < b) :
    ∃ r, rows[s.toNat]? = some r ∧ r[d.toNat]? = some (nextS rows s d) ∧ 0 ≤ nextS rows s d ∧ nextS rows s d < rows.length := by
  obtain ⟨r, e1, e2, hl, hm⟩ := h.row h0 h1
  have hd : d.toNat < r.length := by omega
  have e3 : nextS rows s d = r[d.toNat] := by rw [nextS, e2]; simp [List.getD, hd]
  obtain ⟨ha, hb⟩ := hm r[d.toNat] (List.getElem_mem _)
  exact ⟨r, e1, by rw [e3]; exact List.getElem?_eq_getElem hd, by rw [e3]; exact ha, by rw [e3]; exact hb⟩
theorem IsSeq.after {b : Int} {rows : List (List Int)} {out : List Int} (h : IsSeq b rows out) : ∀ (ds : List Int), (∀ d ∈ ds, 0 ≤ d ∧ d < b) → 0 ≤ afterS rows ds ∧ afterS rows ds < rows.length := by
  have key : ∀ (ds : List Int) (s : Int), 0 ≤ s → s < rows.length → (∀ d ∈ ds, 0 ≤ d ∧ d < b) → 0 ≤ ds.foldl (nextS rows) s ∧ ds.foldl (nextS rows) s < rows.length := by
    intro ds
    induction ds with
    | nil => intro s h0 h1 _; exact ⟨h0, h1⟩
    | cons d ds ih =>
      intro s h0 h1 hd
      obtain ⟨ha, hb⟩ := hd d (by simp)
      obtain ⟨_, _, _, hc, he⟩ := h.next h0 h1 ha hb
      exact ih _ hc he fun x hx => hd x (by simp [hx])
  have h1 := h.2.2.1
  exact fun ds hd => key ds 0 (Int.le_refl _) (by omega) hd
theorem IsSeq.after_step {b : Int} {rows : List (List Int)} {out : List Int} (h : IsSeq b rows out) {ds : List Int} (hd : ∀ d ∈ ds, 0 ≤ d ∧ d < b) {i sn : Nat} (hi : i < ds.length) (hs : (sn : Int) = afterS rows (ds.take i)) :
    ∃ dn yn : Nat, ds[i]? = some (dn : Int) ∧ sn < rows.length ∧ yn < rows.length ∧ (yn : Int) = afterS rows (ds.take (i + 1)) ∧ ∃ r, rows[sn]? = some r ∧ r[dn]? = some (yn : Int) := by
  have h1 := h.after (ds.take i) fun d hd' => hd d (List.mem_of_mem_take hd')
  have hx := hd ds[i] (List.getElem_mem _)
  rw [← hs] at h1
  obtain ⟨r, e1, e2, e3, e4⟩ := h.next (s := sn) (d := ds[i]) h1.1 h1.2 hx.1 hx.2
  refine ⟨ds[i].toNat, (nextS rows sn ds[i]).toNat, ?_, by omega, by omega, ?_, r, ?_, ?_⟩
  · rw [List.getElem?_eq_getElem hi, show ((ds[i].toNat : Nat) : Int) = ds[i] from by omega]
  · rw [List.take_succ_eq_append_getElem hi, afterS_snoc, ← hs]
    omega
  · simpa using e1
  · rw [e2, show (((nextS rows sn ds[i]).toNat : Nat) : Int) = nextS rows sn ds[i] from by omega]
/-- The state after some digits, -1 where sequence or digits are not valid. -/
def afterV (b : Int) (rows : List (List Int)) (out : List Int) (ar : Bool) (ds : List Int) : Int := if seqB b rows out = true ∧ ar = true then afterS rows ds else -1
/-- The term n. -/
def termS (b : Int) (rows : List (List Int)) (out : List Int) (n : Int) : Int := out.getD (afterS rows (digs n.toNat b.toNat)).toNat 0
theorem IsSeq.term_at {b : Int} {rows : List (List Int)} {out : List Int} (h : IsSeq b rows out) {ds : List Int} (hd : ∀ d ∈ ds, 0 ≤ d ∧ d < b) : ∃ sn : Nat, (sn : Int) = afterS rows ds ∧ sn < out.length ∧ out[sn]? = some (out.getD (afterS rows ds).toNat 0) := by
  have h1 := h.after ds hd
  have h2 := h.2.2.2.2.1
  refine ⟨(afterS rows ds).toNat, by omega, by omega, ?_⟩
  rw [List.getD_eq_getElem?_getD, List.getElem?_eq_getElem (by omega)]
  rfl
/-- The steady form. -/
def steadyB (b : Int) (rows : List (List Int)) (out : List Int) : Bool := seqB b rows out && decide (nextS rows 0 0 = 0)
def raise (r : List Int) : List Int := r.map (· + 1)
def steadyRows (rows : List (List Int)) : List (List Int) := (0 :: raise ((rows.getD 0 []).drop 1)) :: rows.map raise
def steadyOut (out : List Int) : List Int := out.getD 0 0 :: out
end Go.Proofs.Ytgbgcaaekpgapac.Plain
/- Plain facts on minimal forms: the states that are reached, the classes of states that no digits tell apart, the merged sequence, the minimal form. No conditions beyond those that each fact states. -/
namespace Go.Proofs.Ytgbgcaaekpgapac.Plain
set_option linter.unusedVariables false
/-! ### the states that are reached -/
def rowOf (rows : List (List Int)) (s : Int) : List Int := rows.getD s.toNat []
/-- What a search has found when it has looked at i states. -/
def reachI (rows : List (List Int)) : Nat → List Int
  | 0 => [0]
  | i + 1 => match (reachI rows i)[i]? with
    | some s => addAll (reachI rows i) (rowOf rows s)
    | none => reachI rows i
theorem reachI_step {rows : List (List Int)} {i : Nat} {s : Int} (h : (reachI rows i)[i]? = some s) : reachI rows (i + 1) = addAll (reachI rows i) (rowOf rows s) := by
  rw [reachI, h]
theorem reachI_stop {rows : List (List Int)} {i : Nat} (h : (reachI rows i).length ≤ i) : reachI rows (i + 1) = reachI rows i := by
  rw [reachI, List.getElem?_eq_none h]
theorem reachI_over {rows : List (List Int)} {i : Nat} (h : (reachI rows i).length ≤ i) : ∀ j, i ≤ j → reachI rows j = reachI rows i := by
  intro j hj
  obtain ⟨d, rfl⟩ := Nat.le.dest hj
  induction d with
  | zero => rfl
  | succ d ih =>
    have ih := ih (by omega)
    rw [← Nat.add_assoc, reachI_stop (by rw [ih]; omega), ih]
/-- All next states are states. -/
def Closed (rows : List (List Int)) : Prop := 0 < rows.length ∧ ∀ r ∈ rows, ∀ x ∈ r, 0 ≤ x ∧ x < (rows.length : Int)
theorem IsSeq.closed {b : Int} {rows : List (List Int)} {out : List Int} (h : IsSeq b rows out) : Closed rows := ⟨h.2.2.1, fun r hr x hx => (h.2.2.2.2.2.1 r hr).2 x hx⟩
theorem rowOf_mem {rows : List (List Int)} {s : Int} (h0 : 0 ≤ s) (h1 : s < rows.length) : rowOf rows s ∈ rows := by
  have h2 : s.toNat < rows.length := by omega
  rw [rowOf, List.getD_eq_getElem?_getD, List.getElem?_eq_getElem h2]
  exact List.getElem_mem _
theorem rowOf_get {rows : List (List Int)} {s : Int} (h0 : 0 ≤ s) (h1 : s < rows.length) : rows[s.toNat]? = some (rowOf rows s) := by
  have h2 : s.toNat < rows.length := by omega
  rw [rowOf, List.getD_eq_getElem?_getD, List.getElem?_eq_getElem h2]
  rfl
theorem reachI_ok {rows : List (List Int)} (hc : Closed rows) : ∀ i, (reachI rows i).Nodup ∧ ∀ x ∈ reachI rows i, 0 ≤ x ∧ x < (rows.length : Int)
  | 0 => ⟨by simp [reachI], fun x hx => by
      have : x = 0 := by simpa [reachI] using hx
      have := hc.1
      omega⟩
  | i + 1 => by
    obtain ⟨h1, h2⟩ := reachI_ok hc i
    cases hs : (reachI rows i)[i]? with
    | none =>
      rw [reachI, hs]
      exact ⟨h1, h2⟩
    | some s =>
      rw [reachI_step hs]
      have h3 := h2 s (List.mem_of_getElem? hs)
      refine ⟨addAll_nodup _ _ h1, fun x hx => ?_⟩
      rcases (mem_addAll _ _ _).1 hx with h | h
      · exact h2 x h
      · exact hc.2 _ (rowOf_mem h3.1 h3.2) x h
theorem reachI_len {rows : List (List Int)} (hc : Closed rows) (i : Nat) : (reachI rows i).length ≤ rows.length := nodup_bounded _ _ (reachI_ok hc i).1 (reachI_ok hc i).2
theorem reachI_prefix_succ (rows : List (List Int)) (i : Nat) : reachI rows i <+: reachI rows (i + 1) := by
  cases hs : (reachI rows i)[i]? with
  | none => rw [reachI, hs]; exact List.prefix_refl _
  | some s => rw [reachI_step hs]; exact addAll_prefix _ _
theorem reachI_prefix (rows : List (List Int)) {i j : Nat} (h : i ≤ j) : reachI rows i <+: reachI rows j := by
  obtain ⟨d, rfl⟩ := Nat.le.dest h
  induction d with
  | zero => exact List.prefix_refl _
  | succ d ih => exact (ih (by omega)).trans (reachI_prefix_succ rows _)
/-- All that is reached. -/
def reached (rows : List (List Int)) : List Int := reachI rows rows.length
theorem reachI_end {rows : List (List Int)} (hc : Closed rows) {i : Nat} (h : (reachI rows i).length ≤ i) : reachI rows i = reached rows := by
  have h1 := reachI_over h
  have h2 : (reachI rows rows.length).length ≤ rows.length := reachI_len hc _
  rcases Nat.le_total i rows.length with h3 | h3
  · exact (h1 _ h3).symm
  · exact reachI_over h2 i h3
theorem reached_len {rows : List (List Int)} (hc : Closed rows) : (reached rows).length ≤ rows.length := reachI_len hc _
theorem reachI_sub {rows : List (List Int)} (hc : Closed rows) (i : Nat) : reachI rows i <+: reached rows := by
  rcases Nat.le_total i rows.length with h3 | h3
  · exact reachI_prefix rows h3
  · rw [reachI_over (reachI_len hc _) i h3]; exact List.prefix_refl _
theorem reached_zero (rows : List (List Int)) : (reached rows)[0]? = some 0 := by
  obtain ⟨t, ht⟩ := reachI_prefix rows (Nat.zero_le rows.length)
  rw [reached, ← ht]
  rfl
/-- What is reached is closed. -/
theorem reached_next {rows : List (List Int)} (hc : Closed rows) {s x : Int} (hs : s ∈ reached rows) (hx : x ∈ rowOf rows s) : x ∈ reached rows := by
  obtain ⟨i, hi⟩ := List.getElem?_of_mem hs
  have hl : i < rows.length := Nat.lt_of_lt_of_le (List.getElem?_eq_some_iff.1 hi).1 (reached_len hc)
  have h1 : (reachI rows i)[i]? = some s ∨ (reachI rows i).length ≤ i := by
    rcases Nat.lt_or_ge i (reachI rows i).length with h2 | h2
    · left
      obtain ⟨t, ht⟩ := reachI_sub hc i
      rw [← ht, List.getElem?_append_left h2] at hi
      exact hi
    · exact .inr h2
  rcases h1 with h1 | h1
  · obtain ⟨t, ht⟩ := reachI_sub hc (i + 1)
    rw [← ht, reachI_step h1]
    simp [mem_addAll, hx]
  · have h2 := reachI_end hc h1
    rw [h2] at h1
    have := (List.getElem?_eq_some_iff.1 hi).1
    omega
def reachV (b : Int) (rows : List (List Int)) (out : List Int) : List Int := if seqB b rows out = true then reached rows else []
/-! ### the classes -/
/-- What tells a state: its term and the classes of its next states. -/
def keyC (rows : List (List Int)) (out cls : List Int) (s : Nat) : List Int := out.getD s 0 :: (rows.getD s []).map fun x => cls.getD x.toNat 0
def keysOf (rows : List (List Int)) (out cls : List Int) : List (List Int) := (List.range rows.length).map (keyC rows out cls)
/-- The keys of round k, the classes behind it. -/
def keysR (rows : List (List Int)) (out : List Int) : Nat → List (List Int)
  | 0 => List.replicate rows.length []
  | k + 1 => keysOf rows out (numb (keysR rows out k))
def clsR (rows : List (List Int)) (out : List Int) (k : Nat) : List Int := numb (keysR rows out k)
theorem keysR_len (rows : List (List Int)) (out : List Int) : ∀ k, (keysR rows out k).length = rows.length
  | 0 => by simp [keysR]
  | k + 1 => by simp [keysR, keysOf]
theorem clsR_len (rows : List (List Int)) (out : List Int) (k : Nat) : (clsR rows out k).length = rows.length := by rw [clsR, numb_len, keysR_len]
theorem keysR_get (rows : List (List Int)) (out : List Int) (k : Nat) {i : Nat} (h : i < rows.length) : (keysR rows out (k + 1))[i]? = some (keyC rows out (clsR rows out k) i) := by
  simp [keysR, keysOf, clsR, h]
theorem addAll_rep {α : Type} [DecidableEq α] (x : α) (l : List α) : ∀ n, addAll (x :: l) (List.replicate n x) = x :: l
  | 0 => rfl
  | n + 1 => by
    rw [List.replicate_succ, addAll_cons, addTo_in (by simp)]
    exact addAll_rep x l n
theorem dist_rep {α : Type} [DecidableEq α] (x : α) (n : Nat) : dist (List.replicate (n + 1) x) = [x] := by
  rw [dist, List.replicate_succ, addAll_cons, addTo_new (by simp)]
  exact addAll_rep x [] n
theorem numb_rep {α : Type} [DecidableEq α] (x : α) (n : Nat) : numb (List.replicate n x) = List.replicate n 0 := by
  cases n with
  | zero => rfl
  | succ n =>
    rw [numb, dist_rep]
    simp [ix]
theorem clsR_zero (rows : List (List Int)) (out : List Int) : clsR rows out 0 = List.replicate rows.length 0 := numb_rep _ _
/-- How many classes there are in round k. -/
def cntR (rows : List (List Int)) (out : List Int) (k : Nat) : Nat := (dist (keysR rows out k)).length
theorem cntR_zero {rows : List (List Int)} (out : List Int) (h : 0 < rows.length) : cntR rows out 0 = 1 := by
  obtain ⟨n, hn⟩ : ∃ n, rows.length = n + 1 := ⟨rows.length - 1, by omega⟩
  rw [cntR, keysR, hn, dist_rep]
  rfl
theorem dist_le {α : Type} [DecidableEq α] (keys : List α) : (dist keys).length ≤ keys.length := nodup_sub_len _ _ (dist_nodup _) (fun x hx => mem_dist.1 hx)
theorem cntR_le (rows : List (List Int)) (out : List Int) (k : Nat) : cntR rows out k ≤ rows.length := by
  have := dist_le (keysR rows out k)
  rw [keysR_len] at this
  exact this
/-- Rows of states. -/
structure Auto (rows : List (List Int)) (out : List Int) (n : Nat) : Prop where
  closed : Closed rows
  width : ∀ r ∈ rows, r.length = n
  terms : out.length = rows.length
theorem IsSeq.auto {b : Int} {rows : List (List Int)} {out : List Int} (h : IsSeq b rows out) : Auto rows out b.toNat := ⟨h.closed, fun r hr => by have := (h.2.2.2.2.2.1 r hr).1; omega, h.2.2.2.2.1⟩
theorem keyC_iff {rows : List (List Int)} {out cls : List Int} {n : Nat} (A : Auto rows out n) {i j : Nat} (hi : i < rows.length) (hj : j < rows.length) :
    keyC rows out cls i = keyC rows out cls j ↔ out.getD i 0 = out.getD j 0 ∧ ∀ d < n, cls.getD ((rows.getD i []).getD d 0).toNat 0 = cls.getD ((rows.getD j []).getD d 0).toNat 0 := by
  have w : ∀ i < rows.length, (rows.getD i []).length = n := fun i hi => by
    rw [List.getD_eq_getElem?_getD, List.getElem?_eq_getElem hi]
    exact A.width _ (List.getElem_mem _)
  have wi := w i hi
  have wj := w j hj
  have g : ∀ (l : List Int), l.length = n → ∀ d < n, (l.map fun x => cls.getD x.toNat 0)[d]? = some (cls.getD (l.getD d 0).toNat 0) := fun l hl d hd => by
    have hd' : d < l.length := by omega
    rw [List.getElem?_map, show l.getD d 0 = l[d] by simp [List.getD_eq_getElem?_getD, hd'], List.getElem?_eq_getElem hd']
    rfl
  unfold keyC
  rw [List.cons.injEq]
  refine and_congr_right fun _ => ⟨fun h d hd => ?_, fun h => ?_⟩
  · have h1 := g _ wi d hd
    rw [h, g _ wj d hd] at h1
    exact (Option.some.inj h1).symm
  · apply List.ext_getElem?
    intro d
    rcases Nat.lt_or_ge d n with hd | hd
    · rw [g _ wi d hd, g _ wj d hd, h d hd]
    · rw [List.getElem?_eq_none (by simp only [List.length_map]; omega), List.getElem?_eq_none (by simp only [List.length_map]; omega)]
theorem cls_iff {rows : List (List Int)} {out : List Int} {k i j : Nat} (hi : i < rows.length) (hj : j < rows.length) :
    (clsR rows out (k + 1)).getD i 0 = (clsR rows out (k + 1)).getD j 0 ↔ keyC rows out (clsR rows out k) i = keyC rows out (clsR rows out k) j := by
  have h1 := keysR_get rows out k hi
  have h2 := keysR_get rows out k hj
  have h3 := numb_eq_iff h1 h2
  rw [← h3, List.getD_eq_getElem?_getD, List.getD_eq_getElem?_getD]
  show ((numb (keysR rows out (k + 1)))[i]?).getD 0 = ((numb (keysR rows out (k + 1)))[j]?).getD 0 ↔ _
  rw [numb_get h1, numb_get h2]
  simp
theorem next_lt {rows : List (List Int)} {out : List Int} {n : Nat} (A : Auto rows out n) {i d : Nat} (hi : i < rows.length) (hd : d < n) : 0 ≤ (rows.getD i []).getD d 0 ∧ ((rows.getD i []).getD d 0).toNat < rows.length := by
  have h1 : rows.getD i [] ∈ rows := by
    rw [List.getD_eq_getElem?_getD, List.getElem?_eq_getElem hi]
    exact List.getElem_mem _
  have h2 := A.width _ h1
  have h3 : (rows.getD i []).getD d 0 ∈ rows.getD i [] := by
    rw [List.getD_eq_getElem?_getD (l := rows.getD i []), List.getElem?_eq_getElem (by omega)]
    exact List.getElem_mem _
  have := A.closed.2 _ h1 _ h3
  omega
/-- Each round divides the classes of the round before. -/
theorem refines {rows : List (List Int)} {out : List Int} {n : Nat} (A : Auto rows out n) : ∀ (k : Nat) {i j : Nat}, i < rows.length → j < rows.length → (clsR rows out (k + 1)).getD i 0 = (clsR rows out (k + 1)).getD j 0 → (clsR rows out k).getD i 0 = (clsR rows out k).getD j 0
  | 0, i, j, hi, hj, _ => by
    rw [clsR_zero]
    simp [List.getD_eq_getElem?_getD, hi, hj]
  | k + 1, i, j, hi, hj, h => by
    rw [cls_iff hi hj, keyC_iff A hi hj] at h ⊢
    exact ⟨h.1, fun d hd => refines A k (next_lt A hi hd).2 (next_lt A hj hd).2 (h.2 d hd)⟩
/-- As many classes as before: the same ones. -/
theorem stable {rows : List (List Int)} {out : List Int} {n : Nat} (A : Auto rows out n) {k : Nat} (h : cntR rows out (k + 1) = cntR rows out k) : clsR rows out (k + 1) = clsR rows out k := by
  have hpos : 0 < rows.length := A.closed.1
  -- the classes of round k as a function of those of round k + 1
  have hl1 := keysR_len rows out (k + 1)
  have hl0 := keysR_len rows out k
  let D1 := dist (keysR rows out (k + 1))
  let D0 := dist (keysR rows out k)
  let g : List Int → List Int := fun x => (keysR rows out k).getD (ix (keysR rows out (k + 1)) x) []
  have gk : ∀ i, i < rows.length → ∀ x, (keysR rows out (k + 1))[i]? = some x → (keysR rows out k)[i]? = some (g x) := fun i hi x hx => by
    have hm := List.mem_of_getElem? hx
    have hj := idxOf_lt hm
    rw [hl1] at hj
    have h1 : (clsR rows out (k + 1)).getD (ix (keysR rows out (k + 1)) x) 0 = (clsR rows out (k + 1)).getD i 0 := by
      rw [List.getD_eq_getElem?_getD, List.getD_eq_getElem?_getD]
      show ((numb _)[_]?).getD 0 = ((numb _)[_]?).getD 0
      rw [numb_get hx, numb_get (get_idxOf hm)]
    have h2 := refines A k hj hi h1
    obtain ⟨y, hy⟩ : ∃ y, (keysR rows out k)[i]? = some y := ⟨_, List.getElem?_eq_getElem (by omega)⟩
    obtain ⟨z, hz⟩ : ∃ z, (keysR rows out k)[ix (keysR rows out (k + 1)) x]? = some z := ⟨_, List.getElem?_eq_getElem (by omega)⟩
    have h3 : (numb (keysR rows out k))[ix (keysR rows out (k + 1)) x]? = (numb (keysR rows out k))[i]? := by
      rw [List.getD_eq_getElem?_getD, List.getD_eq_getElem?_getD] at h2
      rw [numb_get hz, numb_get hy]
      have h4 : ((numb (keysR rows out k))[ix (keysR rows out (k + 1)) x]?).getD 0 = ((numb (keysR rows out k))[i]?).getD 0 := h2
      rw [numb_get hz, numb_get hy] at h4
      exact congrArg some h4
    have h5 := (numb_eq_iff hz hy).1 h3
    show _ = some ((keysR rows out k).getD _ [])
    rw [List.getD_eq_getElem?_getD, hz, hy, h5]
    rfl
  have hsub : ∀ y ∈ D0, y ∈ D1.map g := fun y hy => by
    obtain ⟨i, hi⟩ := List.getElem?_of_mem (mem_dist.1 hy)
    have hi' : i < rows.length := by have := (List.getElem?_eq_some_iff.1 hi).1; omega
    obtain ⟨x, hx⟩ : ∃ x, (keysR rows out (k + 1))[i]? = some x := ⟨_, List.getElem?_eq_getElem (by omega)⟩
    have := gk i hi' x hx
    rw [hi] at this
    exact List.mem_map.2 ⟨x, mem_dist.2 (List.mem_of_getElem? hx), (Option.some.inj this).symm⟩
  have hnd : (D1.map g).Nodup := nodup_of_sub_len D0 _ (dist_nodup _) hsub (by
    have h1 : D1.length = D0.length := h
    rw [List.length_map]
    omega)
  have ginj : ∀ x ∈ D1, ∀ x' ∈ D1, g x = g x' → x = x' := fun x hx x' hx' e => by
    obtain ⟨i, hi⟩ := List.getElem?_of_mem hx
    obtain ⟨j, hj⟩ := List.getElem?_of_mem hx'
    have h1 : (D1.map g)[i]? = some (g x) := by rw [List.getElem?_map, hi]; rfl
    have h2 : (D1.map g)[j]? = some (g x) := by rw [List.getElem?_map, hj, e]; rfl
    have := (idxOf_get hnd h1).symm.trans (idxOf_get hnd h2)
    subst this
    rw [hi] at hj
    exact Option.some.inj hj
  refine numb_same _ _ (by omega) fun i j hi hj => ?_
  rw [hl1] at hi hj
  obtain ⟨x, hx⟩ : ∃ x, (keysR rows out (k + 1))[i]? = some x := ⟨_, List.getElem?_eq_getElem (by omega)⟩
  obtain ⟨y, hy⟩ : ∃ y, (keysR rows out (k + 1))[j]? = some y := ⟨_, List.getElem?_eq_getElem (by omega)⟩
  rw [hx, hy, gk i hi x hx, gk j hj y hy]
  constructor
  · intro e; rw [Option.some.inj e]
  · intro e
    rw [ginj x (mem_dist.2 (List.mem_of_getElem? hx)) y (mem_dist.2 (List.mem_of_getElem? hy)) (Option.some.inj e)]
theorem cnt_up {rows : List (List Int)} {out : List Int} {n : Nat} (A : Auto rows out n) (k : Nat) : cntR rows out k ≤ cntR rows out (k + 1) := by
  refine Nat.le_trans (nodup_sub_len (dist (keysR rows out k)) ((dist (keysR rows out (k + 1))).map fun x => (keysR rows out k).getD (ix (keysR rows out (k + 1)) x) []) (dist_nodup _) fun y hy => ?_) (by simp [cntR])
  have hl1 := keysR_len rows out (k + 1)
  have hl0 := keysR_len rows out k
  obtain ⟨i, hi⟩ := List.getElem?_of_mem (mem_dist.1 hy)
  have hi' : i < rows.length := by have := (List.getElem?_eq_some_iff.1 hi).1; omega
  obtain ⟨x, hx⟩ : ∃ x, (keysR rows out (k + 1))[i]? = some x := ⟨_, List.getElem?_eq_getElem (by omega)⟩
  have hm := List.mem_of_getElem? hx
  have hj := idxOf_lt hm
  rw [hl1] at hj
  have h1 : (clsR rows out (k + 1)).getD (ix (keysR rows out (k + 1)) x) 0 = (clsR rows out (k + 1)).getD i 0 := by
    rw [List.getD_eq_getElem?_getD, List.getD_eq_getElem?_getD]
    show ((numb _)[_]?).getD 0 = ((numb _)[_]?).getD 0
    rw [numb_get hx, numb_get (get_idxOf hm)]
  have h2 := refines A k hj hi' h1
  obtain ⟨z, hz⟩ : ∃ z, (keysR rows out k)[ix (keysR rows out (k + 1)) x]? = some z := ⟨_, List.getElem?_eq_getElem (by omega)⟩
  rw [List.getD_eq_getElem?_getD, List.getD_eq_getElem?_getD] at h2
  have h4 : ((numb (keysR rows out k))[ix (keysR rows out (k + 1)) x]?).getD 0 = ((numb (keysR rows out k))[i]?).getD 0 := h2
  rw [numb_get hz, numb_get hi] at h4
  have h5 := (numb_eq_iff hz hi).1 (by rw [numb_get hz, numb_get hi]; exact congrArg some h4)
  refine List.mem_map.2 ⟨x, mem_dist.2 hm, ?_⟩
  rw [List.getD_eq_getElem?_getD, hz, h5]
  rfl
theorem stable_on {rows : List (List Int)} {out : List Int} {k : Nat} (h : clsR rows out (k + 1) = clsR rows out k) : ∀ j, k ≤ j → clsR rows out j = clsR rows out k := by
  intro j hj
  obtain ⟨d, rfl⟩ := Nat.le.dest hj
  induction d with
  | zero => rfl
  | succ d ih =>
    have ih := ih (by omega)
    have e : keysR rows out (k + d + 1) = keysR rows out (k + 1) := by
      show keysOf rows out (clsR rows out (k + d)) = keysOf rows out (clsR rows out k)
      rw [ih]
    show numb (keysR rows out (k + d + 1)) = _
    rw [e]
    exact h
/-- The classes of the states. -/
def classes (rows : List (List Int)) (out : List Int) : List Int := clsR rows out (rows.length + 1)
theorem classes_at {rows : List (List Int)} {out : List Int} {n : Nat} (A : Auto rows out n) {k : Nat} (hk : k ≤ rows.length + 1) (h : cntR rows out (k + 1) = cntR rows out k) : clsR rows out (k + 1) = classes rows out ∧ clsR rows out k = classes rows out := by
  have h1 := stable A h
  have h2 := stable_on h1 (rows.length + 1) hk
  exact ⟨h1.trans h2.symm, h2.symm⟩
/-- The rounds come to an end. -/
theorem stops {rows : List (List Int)} {out : List Int} {n : Nat} (A : Auto rows out n) (k : Nat) (h : ∀ j < k, cntR rows out (j + 1) ≠ cntR rows out j) : k + 1 ≤ cntR rows out k := by
  induction k with
  | zero => rw [cntR_zero out A.closed.1]; omega
  | succ k ih =>
    have h1 := ih (fun j hj => h j (by omega))
    have h2 := cnt_up A (out := out) k
    have h3 := h k (by omega)
    omega
theorem stops_le {rows : List (List Int)} {out : List Int} {n : Nat} (A : Auto rows out n) (k : Nat) (h : ∀ j < k, cntR rows out (j + 1) ≠ cntR rows out j) : k < rows.length := by
  have := stops A k h
  have := cntR_le rows out k
  omega
theorem classes_fix {rows : List (List Int)} {out : List Int} {n : Nat} (A : Auto rows out n) : clsR rows out (rows.length + 2) = classes rows out ∧ clsR rows out rows.length = classes rows out := by
  have : ∃ j < rows.length, cntR rows out (j + 1) = cntR rows out j := by
    refine Classical.byContradiction fun hn => ?_
    have := stops_le A rows.length (fun j hj e => hn ⟨j, hj, e⟩)
    omega
  obtain ⟨j, hj, e⟩ := this
  have h1 := stable A e
  have h2 := stable_on h1
  refine ⟨(h2 _ (by omega)).trans (h2 (rows.length + 1) (by omega)).symm, (h2 _ (by omega)).trans (h2 (rows.length + 1) (by omega)).symm⟩
/-! ### the model's way to the classes -/
/-- The model's key: the state's class and those of its next states. -/
def keyM (rows : List (List Int)) (cls : List Int) (s : Nat) : List Int := cls.getD s 0 :: (rows.getD s []).map fun x => cls.getD x.toNat 0
def clsM (rows : List (List Int)) (out : List Int) : Nat → List Int
  | 0 => numb (out.map fun o => [o])
  | k + 1 => numb ((List.range rows.length).map (keyM rows (clsM rows out k)))
theorem clsM_eq {rows : List (List Int)} {out : List Int} {n : Nat} (A : Auto rows out n) : ∀ k, clsM rows out k = clsR rows out (k + 1)
  | 0 => by
    refine numb_same _ _ (by rw [List.length_map, keysR_len, A.terms]) fun i j hi hj => ?_
    rw [List.length_map, A.terms] at hi hj
    have z : ∀ x : Nat, (clsR rows out 0).getD x 0 = 0 := fun x => by
      rw [clsR_zero, List.getD_eq_getElem?_getD, List.getElem?_replicate]
      split <;> rfl
    have o : ∀ i < rows.length, (out.map fun o => [o])[i]? = some [out.getD i 0] := fun i hi => by
      rw [List.getElem?_map, List.getD_eq_getElem?_getD, List.getElem?_eq_getElem (by rw [A.terms]; exact hi)]
      rfl
    rw [o i hi, o j hj, keysR_get rows out 0 hi, keysR_get rows out 0 hj, Option.some.injEq, Option.some.injEq, keyC_iff A hi hj]
    simp only [z, List.cons.injEq, and_true, implies_true]
  | k + 1 => by
    have ih := clsM_eq A k
    rw [clsM, ih]
    refine numb_same _ _ (by rw [keysR_len]; simp) fun i j hi hj => ?_
    rw [List.length_map, List.length_range] at hi hj
    have o : ∀ i < rows.length, ((List.range rows.length).map (keyM rows (clsR rows out (k + 1))))[i]? = some (keyM rows (clsR rows out (k + 1)) i) := fun i hi => by simp [hi]
    rw [o i hi, o j hj, keysR_get rows out (k + 1) hi, keysR_get rows out (k + 1) hj, Option.some.injEq, Option.some.injEq, keyC_iff A hi hj]
    have A' : Auto rows (clsR rows out (k + 1)) n := ⟨A.closed, A.width, clsR_len _ _ _⟩
    have h0 : keyM rows (clsR rows out (k + 1)) i = keyM rows (clsR rows out (k + 1)) j ↔ _ := keyC_iff (cls := clsR rows out (k + 1)) A' hi hj
    rw [h0]
    refine and_congr_left fun h2 => ⟨fun h1 => ?_, fun h1 => ?_⟩
    · rw [cls_iff hi hj, keyC_iff A hi hj] at h1
      exact h1.1
    · rw [cls_iff hi hj, keyC_iff A hi hj]
      exact ⟨h1, fun d hd => refines A k (next_lt A hi hd).2 (next_lt A hj hd).2 (h2 d hd)⟩
theorem clsM_end {rows : List (List Int)} {out : List Int} {n : Nat} (A : Auto rows out n) : clsM rows out rows.length = classes rows out := clsM_eq A _
def classV (b : Int) (rows : List (List Int)) (out : List Int) : List Int := if seqB b rows out = true then classes rows out else []
/-! ### the merged sequence and the minimal form -/
/-- The keys of the classes, in the order of their numbers. -/
def keysQ (rows : List (List Int)) (out : List Int) : List (List Int) := dist (keysOf rows out (classes rows out))
def rowsQ (rows : List (List Int)) (out : List Int) : List (List Int) := (keysQ rows out).map List.tail
def outQ (rows : List (List Int)) (out : List Int) : List Int := (keysQ rows out).map fun k => k.headD 0
theorem keysR_fix {rows : List (List Int)} {out : List Int} {n : Nat} (A : Auto rows out n) : numb (keysOf rows out (classes rows out)) = classes rows out := (classes_fix A).1
theorem keysQ_at {rows : List (List Int)} {out : List Int} {n : Nat} (A : Auto rows out n) {k : Nat} (hk : k ≤ rows.length + 1) (h : cntR rows out (k + 1) = cntR rows out k) : dist (keysR rows out (k + 1)) = keysQ rows out := by
  show dist (keysOf rows out (clsR rows out k)) = _
  rw [(classes_at A hk h).2]
  rfl
theorem keysQ_len (rows : List (List Int)) (out : List Int) : (keysQ rows out).length ≤ rows.length := by
  have := dist_le (keysOf rows out (classes rows out))
  simpa [keysQ, keysOf] using this
theorem classes_len (rows : List (List Int)) (out : List Int) : (classes rows out).length = rows.length := clsR_len _ _ _
/-- A state's class is the place of its key. -/
theorem class_at {rows : List (List Int)} {out : List Int} {n : Nat} (A : Auto rows out n) {s : Nat} (hs : s < rows.length) :
    (classes rows out).getD s 0 = (ix (keysQ rows out) (keyC rows out (classes rows out) s) : Int) ∧ (keysQ rows out)[((classes rows out).getD s 0).toNat]? = some (keyC rows out (classes rows out) s) := by
  have h1 : (keysOf rows out (classes rows out))[s]? = some (keyC rows out (classes rows out) s) := by simp [keysOf, hs]
  have h2 := numb_get h1
  rw [keysR_fix A] at h2
  have h3 : (classes rows out).getD s 0 = (ix (keysQ rows out) (keyC rows out (classes rows out) s) : Int) := by
    rw [List.getD_eq_getElem?_getD, h2]
    rfl
  refine ⟨h3, ?_⟩
  rw [h3]
  exact get_idxOf (mem_dist.2 (List.mem_of_getElem? h1))
theorem class_lt {rows : List (List Int)} {out : List Int} {n : Nat} (A : Auto rows out n) {s : Nat} (hs : s < rows.length) : 0 ≤ (classes rows out).getD s 0 ∧ (classes rows out).getD s 0 < (rowsQ rows out).length := by
  have h := (class_at A hs).2
  have h1 := (List.getElem?_eq_some_iff.1 h).1
  have h2 := (class_at A hs).1
  simp only [rowsQ, List.length_map]
  omega
/-- The row and the term of a state's class. -/
theorem rowsQ_at {rows : List (List Int)} {out : List Int} {n : Nat} (A : Auto rows out n) {s : Nat} (hs : s < rows.length) :
    rowOf (rowsQ rows out) ((classes rows out).getD s 0) = (rows.getD s []).map (fun x => (classes rows out).getD x.toNat 0) ∧ (outQ rows out).getD ((classes rows out).getD s 0).toNat 0 = out.getD s 0 := by
  have h := (class_at A hs).2
  constructor
  · rw [rowOf, rowsQ, List.getD_eq_getElem?_getD, List.getElem?_map, h]
    rfl
  · rw [outQ, List.getD_eq_getElem?_getD (l := List.map _ _), List.getElem?_map, h]
    rfl
theorem keysQ_mem {rows : List (List Int)} {out k : List Int} (h : k ∈ keysQ rows out) : ∃ s < rows.length, k = keyC rows out (classes rows out) s := by
  have h1 := mem_dist.1 h
  simp only [keysOf, List.mem_map, List.mem_range] at h1
  obtain ⟨s, hs, rfl⟩ := h1
  exact ⟨s, hs, rfl⟩
theorem class_zero {rows : List (List Int)} {out : List Int} {n : Nat} (A : Auto rows out n) : (classes rows out).getD 0 0 = 0 := by
  have h := (class_at A A.closed.1).1
  rw [h]
  have h1 : (keysOf rows out (classes rows out))[0]? = some (keyC rows out (classes rows out) 0) := by simp [keysOf, A.closed.1]
  obtain ⟨t, ht⟩ : ∃ t, keysOf rows out (classes rows out) = [keyC rows out (classes rows out) 0] ++ t := by
    cases hk : keysOf rows out (classes rows out) with
    | nil => rw [hk] at h1; simp at h1
    | cons a l =>
      rw [hk] at h1
      simp at h1
      exact ⟨l, by rw [h1]; rfl⟩
  have h2 : ix (keysQ rows out) (keyC rows out (classes rows out) 0) = ix (dist [keyC rows out (classes rows out) 0]) (keyC rows out (classes rows out) 0) := by
    rw [keysQ, ht]
    exact idxOf_prefix (dist_prefix _ _) (mem_dist.2 (by simp))
  rw [h2]
  simp [dist, addAll, addTo, ix]
/-- The merged sequence. -/
theorem rowsQ_auto {rows : List (List Int)} {out : List Int} {n : Nat} (A : Auto rows out n) : Auto (rowsQ rows out) (outQ rows out) n := by
  have hrow : ∀ r ∈ rowsQ rows out, ∃ s < rows.length, r = (rows.getD s []).map fun x => (classes rows out).getD x.toNat 0 := fun r hr => by
    obtain ⟨k, hk, rfl⟩ := List.mem_map.1 hr
    obtain ⟨s, hs, rfl⟩ := keysQ_mem hk
    exact ⟨s, hs, rfl⟩
  have hget : ∀ s < rows.length, rows.getD s [] ∈ rows := fun s hs => by
    rw [List.getD_eq_getElem?_getD, List.getElem?_eq_getElem hs]
    exact List.getElem_mem _
  refine ⟨⟨?_, fun r hr x hx => ?_⟩, fun r hr => ?_, by simp [outQ, rowsQ]⟩
  · have := class_lt A A.closed.1
    omega
  · obtain ⟨s, hs, rfl⟩ := hrow r hr
    obtain ⟨y, hy, rfl⟩ := List.mem_map.1 hx
    have := A.closed.2 _ (hget s hs) y hy
    exact class_lt A (by omega)
  · obtain ⟨s, hs, rfl⟩ := hrow r hr
    rw [List.length_map]
    exact A.width _ (hget s hs)
/-- The states of the minimal form as classes; its rows; its terms. -/
def minS (rows : List (List Int)) (out : List Int) : List Int := reached (rowsQ rows out)
def minRow (Q : List (List Int)) (L : List Int) (s : Int) : List Int := (rowOf Q s).map fun x => (ix L x : Int)
def searchR (Q : List (List Int)) : List (List Int) := (reached Q).map (minRow Q (reached Q))
def searchO (Q : List (List Int)) (o : List Int) : List Int := (reached Q).map fun s => o.getD s.toNat 0
def minR (rows : List (List Int)) (out : List Int) : List (List Int) := searchR (rowsQ rows out)
def minO (rows : List (List Int)) (out : List Int) : List Int := searchO (rowsQ rows out) (outQ rows out)
theorem searchR_auto {Q : List (List Int)} {o : List Int} {n : Nat} (A : Auto Q o n) : Auto (searchR Q) (searchO Q o) n := by
  have hz := reached_zero Q
  have hm : ∀ r ∈ searchR Q, ∃ s ∈ reached Q, r = minRow Q (reached Q) s := fun r hr => by
    obtain ⟨s, hs, rfl⟩ := List.mem_map.1 hr
    exact ⟨s, hs, rfl⟩
  have hb : ∀ s ∈ reached Q, 0 ≤ s ∧ s < Q.length := (reachI_ok A.closed _).2
  refine ⟨⟨?_, fun r hr x hx => ?_⟩, fun r hr => ?_, by simp [searchO, searchR]⟩
  · rw [searchR, List.length_map]
    exact (List.getElem?_eq_some_iff.1 hz).1
  · obtain ⟨s, hs, rfl⟩ := hm r hr
    obtain ⟨y, hy, rfl⟩ := List.mem_map.1 hx
    have h1 := idxOf_lt (reached_next A.closed hs hy)
    rw [searchR, List.length_map]
    omega
  · obtain ⟨s, hs, rfl⟩ := hm r hr
    rw [minRow, List.length_map]
    exact A.width _ (rowOf_mem (hb s hs).1 (hb s hs).2)
theorem searchO_mem {Q : List (List Int)} {o : List Int} {n : Nat} (A : Auto Q o n) : ∀ x ∈ searchO Q o, x ∈ o := fun x hx => by
  obtain ⟨s, hs, rfl⟩ := List.mem_map.1 hx
  have hb := (reachI_ok A.closed _).2 s hs
  rw [List.getD_eq_getElem?_getD, List.getElem?_eq_getElem (show s.toNat < o.length by rw [A.terms]; omega)]
  exact List.getElem_mem _
theorem outQ_mem {rows : List (List Int)} {out : List Int} {n : Nat} (A : Auto rows out n) : ∀ x ∈ outQ rows out, x ∈ out := fun x hx => by
  obtain ⟨k, hk, rfl⟩ := List.mem_map.1 hx
  obtain ⟨s, hs, rfl⟩ := keysQ_mem hk
  show out.getD s 0 ∈ out
  rw [List.getD_eq_getElem?_getD, List.getElem?_eq_getElem (show s < out.length by rw [A.terms]; omega)]
  exact List.getElem_mem _
theorem rowsQ_len (rows : List (List Int)) (out : List Int) : (rowsQ rows out).length ≤ rows.length := by
  rw [rowsQ, List.length_map]
  exact keysQ_len rows out
theorem searchR_len {Q : List (List Int)} (hc : Closed Q) : (searchR Q).length ≤ Q.length := by
  rw [searchR, List.length_map]
  exact reached_len hc
theorem isSeq_of_auto {b : Int} {rows : List (List Int)} {out : List Int} {n : Nat} (A : Auto rows out n) (hn : (n : Int) = b) (h2 : 2 ≤ b) (h4 : b ≤ 4) (hl : rows.length ≤ 16) (ho : ∀ x ∈ out, 0 ≤ x ∧ x ≤ 3) : IsSeq b rows out :=
  ⟨h2, h4, A.closed.1, hl, A.terms, fun r hr => ⟨by rw [A.width r hr]; exact hn, A.closed.2 r hr⟩, ho⟩
theorem IsSeq.merged {b : Int} {rows : List (List Int)} {out : List Int} (h : IsSeq b rows out) : IsSeq b (rowsQ rows out) (outQ rows out) := by
  have A := h.auto
  refine isSeq_of_auto (rowsQ_auto A) ?_ h.1 h.2.1 (Nat.le_trans (rowsQ_len _ _) h.2.2.2.1) fun x hx => h.2.2.2.2.2.2 x (outQ_mem A x hx)
  have := h.1
  omega
theorem IsSeq.searched {b : Int} {rows : List (List Int)} {out : List Int} (h : IsSeq b rows out) : IsSeq b (searchR rows) (searchO rows out) := by
  have A := h.auto
  refine isSeq_of_auto (searchR_auto A) ?_ h.1 h.2.1 (Nat.le_trans (searchR_len A.closed) h.2.2.2.1) fun x hx => h.2.2.2.2.2.2 x (searchO_mem A x hx)
  have := h.1
  omega
theorem IsSeq.minimal {b : Int} {rows : List (List Int)} {out : List Int} (h : IsSeq b rows out) : IsSeq b (minR rows out) (minO rows out) := h.merged.searched
end Go.Proofs.Ytgbgcaaekpgapac.Plain
/- Contracts of EqualSequences, of the program and of the model, and of the comparisons of lists that they call. No conditions beyond those that each states. -/
namespace Go.Proofs.Ytgbgcaaekpgapac
open Go.ChangeShapes Go.WideShapes Go.ChangeAt Go.RowKit
open Go.PlainAid Plain
set_option linter.unusedVariables false
namespace Seqs
theorem list_ne {α : Type} {xs ys : List α} {k : Nat} {x y : α} (h1 : xs[k]? = some x) (h2 : ys[k]? = some y) (h : ¬ x = y) : ¬ xs = ys := fun e => by
  subst e
  exact h (Option.some.inj (h1.symm.trans h2))
theorem list_eq {α : Type} {xs ys : List α} (hl : xs.length = ys.length) (h : ∀ (k : Nat) (x y : α), k < xs.length → xs[k]? = some x → ys[k]? = some y → x = y) : xs = ys := by
  refine List.ext_getElem hl fun i h1 h2 => ?_
  exact h i _ _ h1 (List.getElem?_eq_getElem h1) (List.getElem?_eq_getElem h2)
theorem some_drew {w W' : World} (he : (∃ n, W' = w.drewN n) ∨ (∃ n m, W' = (w.drewN n).drewN m) := by first | exact .inl ⟨_, rfl⟩ | exact .inr ⟨_, _, rfl⟩) : ∃ n, W' = w.drewN n := by
  rcases he with ⟨n, rfl⟩ | ⟨n, m, rfl⟩
  · exact ⟨n, rfl⟩
  · exact ⟨n + m, by rw [World.drewN_drewN]⟩
theorem same_ints (u v : Value) (xs ys : List Int) (w : World) (h1 : Lies (Value.int .i64) w u xs) (h2 : Lies (Value.int .i64) w v ys) :
    Calls Try.prog 34 #[u, v] w fun e w' => e = .returned (.bool (decide (xs = ys))) ∧ ∃ n, w' = w.drewN n := by
  obtain ⟨hl, a, ca, rfl, _, hca⟩ := h1
  obtain ⟨hl2, b, cb, rfl, _, hcb⟩ := h2
  have HA := Lib.hid hca
  have HB := Lib.hid hcb
  clear hca hcb
  by_cases hlen : xs.length = ys.length
  · have HL := Lib.hid hlen
    have hd : ((xs.length : Int) != (ys.length : Int)) = false := by rw [hlen]; simp
    have hle : xs.length ≤ ys.length := by omega
    clear hlen
    go_enter Try.func34, Try.ntmps34
    go_wp2
    go_loopw [5] (fun i' wr => ∃ k : Nat, k ≤ xs.length ∧ i' = .int .i64 k ∧ Hid (∀ (j : Nat) (x y : Int), j < k → xs[j]? = some x → ys[j]? = some y → x = y) ∧ ∃ n, wr = w.drewN n) (fun i' _ => xs.length - (intOf i').toNat)
    case atStart => exact ⟨0, Nat.zero_le _, rfl, fun j x y h => by omega, 0, rfl⟩
    case round =>
      obtain ⟨k, hk, rfl, HI, n, rfl⟩ := hrel
      by_cases hlt : k < xs.length
      · obtain ⟨x, hx⟩ : ∃ x, xs[k]? = some x := ⟨_, List.getElem?_eq_getElem hlt⟩
        obtain ⟨y, hy⟩ : ∃ y, ys[k]? = some y := ⟨_, List.getElem?_eq_getElem (by omega)⟩
        obtain ⟨p, o, rfl, hc1⟩ := HA.out k x hx
        obtain ⟨q, r, rfl, hc2⟩ := HB.out k y hy
        have HX := Lib.hid hx
        have HY := Lib.hid hy
        clear hx hy
        by_cases he : x = y
        · have HN : Hid (∀ (j : Nat) (x y : Int), j < k + 1 → xs[j]? = some x → ys[j]? = some y → x = y) := fun j x' y' hj hx' hy' => by
            by_cases e : j = k
            · subst e
              obtain rfl := Option.some.inj (HX.out.symm.trans hx')
              obtain rfl := Option.some.inj (HY.out.symm.trans hy')
              exact he
            · exact HI.out j x' y' (by omega) hx' hy'
          have hd2 : (x != y) = false := by rw [he]; simp
          clear he
          go_wp2
          go_quiet (fail)
          go_wp2
          go_roundw
          case rel => exact ⟨k + 1, by omega, by go_num, HN, _, rfl⟩
          case measure => simp [intOf]; omega
        · have HE := Lib.hid (decide_eq_false (list_ne HX.out HY.out he))
          have hd2 : (x != y) = true := by simpa using he
          clear he
          go_wp2
          go_quiet (fail)
          go_wp2
          go_ret
          exact ⟨ret_b HE.out.symm, some_drew⟩
      · have HE := Lib.hid (decide_eq_true (list_eq HL.out fun j x y hj => HI.out j x y (by omega)))
        go_wp2
        go_ret
        exact ⟨ret_b HE.out.symm, n, rfl⟩
  · have HE := Lib.hid (decide_eq_false (fun e : xs = ys => hlen (by rw [e])))
    have hd : ((xs.length : Int) != (ys.length : Int)) = true := by simp; omega
    clear hlen
    go_enter Try.func34, Try.ntmps34
    go_wp2
    go_ret
    exact ⟨ret_b HE.out.symm, 0, rfl⟩
theorem equal_ints (u v : Value) (xs ys : List Int) (w : World) (h1 : Lies (Value.int .i64) w u xs) (h2 : Lies (Value.int .i64) w v ys) :
    Calls Try.prog 57 #[u, v] w fun e w' => e = .returned (.bool (decide (xs = ys))) ∧ ∃ n, w' = w.drewN n := by
  obtain ⟨hl, a, ca, rfl, _, hca⟩ := h1
  obtain ⟨hl2, b, cb, rfl, _, hcb⟩ := h2
  have HA := Lib.hid hca
  have HB := Lib.hid hcb
  clear hca hcb
  by_cases hlen : xs.length = ys.length
  · have HL := Lib.hid hlen
    have hd : ((xs.length : Int) != (ys.length : Int)) = false := by rw [hlen]; simp
    have hle : xs.length ≤ ys.length := by omega
    clear hlen
    go_enter Try.func57, Try.ntmps57
    go_wp2
    go_loopw [13] (fun i' wr => ∃ k : Nat, k ≤ xs.length ∧ i' = .int .i64 k ∧ Hid (∀ (j : Nat) (x y : Int), j < k → xs[j]? = some x → ys[j]? = some y → x = y) ∧ ∃ n, wr = w.drewN n) (fun i' _ => xs.length - (intOf i').toNat)
    case atStart => exact ⟨0, Nat.zero_le _, rfl, fun j x y h => by omega, 0, rfl⟩
    case round =>
      obtain ⟨k, hk, rfl, HI, n, rfl⟩ := hrel
      by_cases hlt : k < xs.length
      · obtain ⟨x, hx⟩ : ∃ x, xs[k]? = some x := ⟨_, List.getElem?_eq_getElem hlt⟩
        obtain ⟨y, hy⟩ : ∃ y, ys[k]? = some y := ⟨_, List.getElem?_eq_getElem (by omega)⟩
        obtain ⟨p, o, rfl, hc1⟩ := HA.out k x hx
        obtain ⟨q, r, rfl, hc2⟩ := HB.out k y hy
        have HX := Lib.hid hx
        have HY := Lib.hid hy
        clear hx hy
        by_cases he : x = y
        · have HN : Hid (∀ (j : Nat) (x y : Int), j < k + 1 → xs[j]? = some x → ys[j]? = some y → x = y) := fun j x' y' hj hx' hy' => by
            by_cases e : j = k
            · subst e
              obtain rfl := Option.some.inj (HX.out.symm.trans hx')
              obtain rfl := Option.some.inj (HY.out.symm.trans hy')
              exact he
            · exact HI.out j x' y' (by omega) hx' hy'
          have hd2 : (x != y) = false := by rw [he]; simp
          clear he
          go_wp2
          go_quiet (fail)
          go_wp2
          go_roundw
          case rel => exact ⟨k + 1, by omega, by go_num, HN, _, rfl⟩
          case measure => simp [intOf]; omega
        · have HE := Lib.hid (decide_eq_false (list_ne HX.out HY.out he))
          have hd2 : (x != y) = true := by simpa using he
          clear he
          go_wp2
          go_quiet (fail)
          go_wp2
          go_ret
          exact ⟨ret_b HE.out.symm, some_drew⟩
      · have HE := Lib.hid (decide_eq_true (list_eq HL.out fun j x y hj => HI.out j x y (by omega)))
        go_wp2
        go_ret
        exact ⟨ret_b HE.out.symm, n, rfl⟩
  · have HE := Lib.hid (decide_eq_false (fun e : xs = ys => hlen (by rw [e])))
    have hd : ((xs.length : Int) != (ys.length : Int)) = true := by simp; omega
    clear hlen
    go_enter Try.func57, Try.ntmps57
    go_wp2
    go_ret
    exact ⟨ret_b HE.out.symm, 0, rfl⟩
theorem same_true (u v : Value) (xs ys : List Int) (w : World) (h1 : Lies (Value.int .i64) w u xs) (h2 : Lies (Value.int .i64) w v ys) (he : xs = ys) :
    Calls Try.prog 34 #[u, v] w fun e w' => e = .returned (.bool true) ∧ ∃ n, w' = w.drewN n := by
  have := same_ints u v xs ys w h1 h2
  rwa [decide_eq_true he] at this
theorem same_false (u v : Value) (xs ys : List Int) (w : World) (h1 : Lies (Value.int .i64) w u xs) (h2 : Lies (Value.int .i64) w v ys) (he : ¬ xs = ys) :
    Calls Try.prog 34 #[u, v] w fun e w' => e = .returned (.bool false) ∧ ∃ n, w' = w.drewN n := by
  have := same_ints u v xs ys w h1 h2
  rwa [decide_eq_false he] at this
theorem LiesS.two {w : World} {b : Int} {rows : List (List Int)} {out : List Int} {vn vo : Value} (h : LiesS w (.agg #[.int .i64 b, vn, vo]) b rows out) : LiesR w vn rows ∧ Lies (Value.int .i64) w vo out := by
  obtain ⟨vn', vo', hv, h1, h2⟩ := h
  injection hv with hv
  simp only [Array.mk.injEq, List.cons.injEq, and_true, true_and] at hv
  obtain ⟨rfl, rfl⟩ := hv
  exact ⟨h1, h2⟩
theorem endsE {B : Nat} {w W W' : World} (h : ∀ n, Below B w (W.drewN n)) (he : (∃ n, W' = W.drewN n) ∨ (∃ n m, W' = (W.drewN n).drewN m) := by first | exact .inl ⟨_, rfl⟩ | exact .inr ⟨_, _, rfl⟩) : Below B w W' := by
  rcases he with ⟨n, rfl⟩ | ⟨n, m, rfl⟩
  · exact h n
  · rw [World.drewN_drewN]; exact h _
theorem equal_rows (u v : Value) (xs ys : List (List Int)) (w : World) (h1 : LiesR w u xs) (h2 : LiesR w v ys) :
    Calls Try.prog 56 #[u, v, .func (.func 57) #[] #[]] w fun e w' => e = .returned (.bool (decide (xs = ys))) ∧ ∃ n, w' = w.drewN n := by
  obtain ⟨a, ca, rfl, hl, hca⟩ := h1.row
  obtain ⟨b, cb, rfl, hl2, hcb⟩ := h2.row
  have HA := Lib.hid hca
  have HB := Lib.hid hcb
  clear hca hcb h1 h2
  by_cases hlen : xs.length = ys.length
  · have HL := Lib.hid hlen
    have hd : ((xs.length : Int) != (ys.length : Int)) = false := by rw [hlen]; simp
    have hle : xs.length ≤ ys.length := by omega
    clear hlen
    go_enter Try.func56, Try.ntmps56
    go_wp2
    go_loopw [17] (fun i' wr => ∃ k : Nat, k ≤ xs.length ∧ i' = .int .i64 k ∧ Hid (∀ (j : Nat) (x y : List Int), j < k → xs[j]? = some x → ys[j]? = some y → x = y) ∧ ∃ n, wr = w.drewN n) (fun i' _ => xs.length - (intOf i').toNat)
    case atStart => exact ⟨0, Nat.zero_le _, rfl, fun j x y h => by omega, 0, rfl⟩
    case round =>
      obtain ⟨k, hk, rfl, HI, n, rfl⟩ := hrel
      by_cases hlt : k < xs.length
      · obtain ⟨x, hx⟩ : ∃ x, xs[k]? = some x := ⟨_, List.getElem?_eq_getElem hlt⟩
        obtain ⟨y, hy⟩ : ∃ y, ys[k]? = some y := ⟨_, List.getElem?_eq_getElem (by omega)⟩
        obtain ⟨p, o, ux, rfl, hc1, lx⟩ := HA.out k x hx
        obtain ⟨q, r, uy, rfl, hc2, ly⟩ := HB.out k y hy
        have HX := Lib.hid hx
        have HY := Lib.hid hy
        have LX := Lib.hid lx
        have LY := Lib.hid ly
        clear hx hy lx ly
        by_cases he : x = y
        · have HN : Hid (∀ (j : Nat) (x y : List Int), j < k + 1 → xs[j]? = some x → ys[j]? = some y → x = y) := fun j x' y' hj hx' hy' => by
            by_cases e : j = k
            · subst e
              obtain rfl := Option.some.inj (HX.out.symm.trans hx')
              obtain rfl := Option.some.inj (HY.out.symm.trans hy')
              exact he
            · exact HI.out j x' y' (by omega) hx' hy'
          have HD := Lib.hid (decide_eq_true he)
          clear he
          go_wp2_with fail
          refine (equal_ints _ _ x y _ (Lies_drewN LX.out _) (Lies_drewN LY.out _)).mono ?_
          rintro e w' ⟨rfl, m, rfl⟩
          rw [HD.out]
          go_wp2
          go_roundw
          case rel => exact ⟨k + 1, by omega, by go_num, HN, _, rfl⟩
          case measure => simp [intOf]; omega
        · have HE := Lib.hid (decide_eq_false (list_ne HX.out HY.out he))
          have HD := Lib.hid (decide_eq_false he)
          clear he
          go_wp2_with fail
          refine (equal_ints _ _ x y _ (Lies_drewN LX.out _) (Lies_drewN LY.out _)).mono ?_
          rintro e w' ⟨rfl, m, rfl⟩
          rw [HD.out]
          go_wp2
          go_ret
          exact ⟨ret_b HE.out.symm, some_drew⟩
      · have HE := Lib.hid (decide_eq_true (list_eq HL.out fun j x y hj => HI.out j x y (by omega)))
        go_wp2
        go_ret
        exact ⟨ret_b HE.out.symm, n, rfl⟩
  · have HE := Lib.hid (decide_eq_false (fun e : xs = ys => hlen (by rw [e])))
    have hd : ((xs.length : Int) != (ys.length : Int)) = true := by simp; omega
    clear hlen
    go_enter Try.func56, Try.ntmps56
    go_wp2
    go_ret
    exact ⟨ret_b HE.out.symm, 0, rfl⟩
/-- Are the two sequences equal, in all their parts? -/
def sameB (b b' : Int) (rows rows' : List (List Int)) (out out' : List Int) : Bool := decide (b = b') && decide (rows = rows') && decide (out = out')
theorem impl_equal (u v : Value) (b b' : Int) (rows rows' : List (List Int)) (out out' : List Int) (w : World) (h1 : LiesS w u b rows out) (h2 : LiesS w v b' rows' out') :
    Calls Try.prog 46 #[u, v] w fun e w' => e = .returned (.bool (sameB b b' rows rows' out out')) ∧ Below w.heap.size w w' := by
  have HS := Lib.hid h1
  have HS' := Lib.hid h2
  obtain ⟨an, cn, ao, co, rfl⟩ := h1.form
  obtain ⟨an', cn', ao', co', rfl⟩ := h2.form
  clear h1 h2
  have hB : Below w.heap.size w ((w.alloc (Obj.cells #[Value.int .i64 b, Value.slice an rows.length cn, Value.slice ao out.length co] 30)).alloc (Obj.cells #[Value.int .i64 b', Value.slice an' rows'.length cn', Value.slice ao' out'.length co'] 30)) := ((Below.refl _ _).alloc (Nat.le_refl _) _).alloc (by simp) _
  have HB : Hid (∀ n, Below w.heap.size w (((w.alloc (Obj.cells #[Value.int .i64 b, Value.slice an rows.length cn, Value.slice ao out.length co] 30)).alloc (Obj.cells #[Value.int .i64 b', Value.slice an' rows'.length cn', Value.slice ao' out'.length co'] 30)).drewN n)) := fun n => below_drewN hB n
  have hC' := Cells3.new (w.alloc (Obj.cells #[Value.int .i64 b, Value.slice an rows.length cn, Value.slice ao out.length co] 30)) 30 (.int .i64 b') (.slice an' rows'.length cn') (.slice ao' out'.length co')
  rw [size_alloc'] at hC'
  have HC := Lib.hid ((Cells3.new w 30 (.int .i64 b) (.slice an rows.length cn) (.slice ao out.length co)).alloc (Obj.cells #[Value.int .i64 b', Value.slice an' rows'.length cn', Value.slice ao' out'.length co'] 30))
  have HC' := Lib.hid hC'
  have HL : Hid (LiesR ((w.alloc (Obj.cells #[Value.int .i64 b, Value.slice an rows.length cn, Value.slice ao out.length co] 30)).alloc (Obj.cells #[Value.int .i64 b', Value.slice an' rows'.length cn', Value.slice ao' out'.length co'] 30)) (.slice an rows.length cn) rows ∧ Lies (Value.int .i64) ((w.alloc (Obj.cells #[Value.int .i64 b, Value.slice an rows.length cn, Value.slice ao out.length co] 30)).alloc (Obj.cells #[Value.int .i64 b', Value.slice an' rows'.length cn', Value.slice ao' out'.length co'] 30)) (.slice ao out.length co) out) := LiesS.two (HS.out.below hB)
  have HL' : Hid (LiesR ((w.alloc (Obj.cells #[Value.int .i64 b, Value.slice an rows.length cn, Value.slice ao out.length co] 30)).alloc (Obj.cells #[Value.int .i64 b', Value.slice an' rows'.length cn', Value.slice ao' out'.length co'] 30)) (.slice an' rows'.length cn') rows' ∧ Lies (Value.int .i64) ((w.alloc (Obj.cells #[Value.int .i64 b, Value.slice an rows.length cn, Value.slice ao out.length co] 30)).alloc (Obj.cells #[Value.int .i64 b', Value.slice an' rows'.length cn', Value.slice ao' out'.length co'] 30)) (.slice ao' out'.length co') out') := LiesS.two (HS'.out.below hB)
  clear hB hC'
  by_cases hb : b = b'
  · have hd0 : (b == b') = true := by simpa using hb
    have HQ : Hid (sameB b b' rows rows' out out' = (decide (rows = rows') && decide (out = out'))) := by show _ = _; rw [sameB, decide_eq_true hb]; rfl
    clear hb
    cases hr : decide (rows = rows') with
    | true =>
      have HR := Lib.hid hr
      have HE : Hid (sameB b b' rows rows' out out' = decide (out = out')) := by show _ = _; rw [HQ.out, hr]; rfl
      clear hr HQ
      go_enter Try.func46, Try.ntmps46
      go_wp2_with fail
      refine (equal_rows _ _ rows rows' _ HL.out.1 HL'.out.1).mono ?_
      rintro e w' ⟨rfl, n, rfl⟩
      rw [HR.out]
      go_wp2_with fail
      refine (equal_ints _ _ out out' _ (Lies_drewN HL.out.2 _) (Lies_drewN HL'.out.2 _)).mono ?_
      rintro e w' ⟨rfl, m, rfl⟩
      rw [← HE.out]
      go_wp2
      go_ret
      exact ⟨rfl, HB.out _⟩
    | false =>
      have HR := Lib.hid hr
      have HE : Hid (sameB b b' rows rows' out out' = false) := by show _ = _; rw [HQ.out, hr]; rfl
      clear hr HQ
      go_enter Try.func46, Try.ntmps46
      go_wp2_with fail
      refine (equal_rows _ _ rows rows' _ HL.out.1 HL'.out.1).mono ?_
      rintro e w' ⟨rfl, n, rfl⟩
      rw [HR.out]
      go_wp2
      go_ret
      exact ⟨ret_b HE.out.symm, HB.out _⟩
  · have hd0 : (b == b') = false := by simpa using hb
    have HE : Hid (sameB b b' rows rows' out out' = false) := by show _ = _; rw [sameB, decide_eq_false hb]; rfl
    clear hb
    go_enter Try.func46, Try.ntmps46
    go_wp2
    go_ret
    exact ⟨ret_b HE.out.symm, HB.out 0⟩
set_option maxHeartbeats 1000000 in
theorem spec_equal (u v : Value) (b b' : Int) (rows rows' : List (List Int)) (out out' : List Int) (w : World) (h1 : LiesS w u b rows out) (h2 : LiesS w v b' rows' out') :
    Calls Try.prog 21 #[u, v] w fun e w' => e = .returned (.bool (sameB b b' rows rows' out out')) ∧ Below w.heap.size w w' := by
  have HS := Lib.hid h1
  have HS' := Lib.hid h2
  obtain ⟨an, cn, ao, co, rfl⟩ := h1.form
  obtain ⟨an', cn', ao', co', rfl⟩ := h2.form
  clear h1 h2
  have hB : Below w.heap.size w ((w.alloc (Obj.cells #[Value.int .i64 b, Value.slice an rows.length cn, Value.slice ao out.length co] 30)).alloc (Obj.cells #[Value.int .i64 b', Value.slice an' rows'.length cn', Value.slice ao' out'.length co'] 30)) := ((Below.refl _ _).alloc (Nat.le_refl _) _).alloc (by simp) _
  have HB : Hid (∀ n, Below w.heap.size w (((w.alloc (Obj.cells #[Value.int .i64 b, Value.slice an rows.length cn, Value.slice ao out.length co] 30)).alloc (Obj.cells #[Value.int .i64 b', Value.slice an' rows'.length cn', Value.slice ao' out'.length co'] 30)).drewN n)) := fun n => below_drewN hB n
  have hC' := Cells3.new (w.alloc (Obj.cells #[Value.int .i64 b, Value.slice an rows.length cn, Value.slice ao out.length co] 30)) 30 (.int .i64 b') (.slice an' rows'.length cn') (.slice ao' out'.length co')
  rw [size_alloc'] at hC'
  have HC := Lib.hid ((Cells3.new w 30 (.int .i64 b) (.slice an rows.length cn) (.slice ao out.length co)).alloc (Obj.cells #[Value.int .i64 b', Value.slice an' rows'.length cn', Value.slice ao' out'.length co'] 30))
  have HC' := Lib.hid hC'
  have HL : Hid (LiesR ((w.alloc (Obj.cells #[Value.int .i64 b, Value.slice an rows.length cn, Value.slice ao out.length co] 30)).alloc (Obj.cells #[Value.int .i64 b', Value.slice an' rows'.length cn', Value.slice ao' out'.length co'] 30)) (.slice an rows.length cn) rows ∧ Lies (Value.int .i64) ((w.alloc (Obj.cells #[Value.int .i64 b, Value.slice an rows.length cn, Value.slice ao out.length co] 30)).alloc (Obj.cells #[Value.int .i64 b', Value.slice an' rows'.length cn', Value.slice ao' out'.length co'] 30)) (.slice ao out.length co) out) := LiesS.two (HS.out.below hB)
  have HL' : Hid (LiesR ((w.alloc (Obj.cells #[Value.int .i64 b, Value.slice an rows.length cn, Value.slice ao out.length co] 30)).alloc (Obj.cells #[Value.int .i64 b', Value.slice an' rows'.length cn', Value.slice ao' out'.length co'] 30)) (.slice an' rows'.length cn') rows' ∧ Lies (Value.int .i64) ((w.alloc (Obj.cells #[Value.int .i64 b, Value.slice an rows.length cn, Value.slice ao out.length co] 30)).alloc (Obj.cells #[Value.int .i64 b', Value.slice an' rows'.length cn', Value.slice ao' out'.length co'] 30)) (.slice ao' out'.length co') out') := LiesS.two (HS'.out.below hB)
  clear hB hC'
  by_cases hb : b = b'
  · have hd0 : (b != b') = false := by simpa using hb
    have HQ : Hid (sameB b b' rows rows' out out' = (decide (rows = rows') && decide (out = out'))) := by show _ = _; rw [sameB, decide_eq_true hb]; rfl
    clear hb
    by_cases hlen : rows.length = rows'.length
    · have HLE := Lib.hid hlen
      have hd1 : ((rows.length : Int) != (rows'.length : Int)) = false := by rw [hlen]; simp
      have hle : rows.length ≤ rows'.length := by omega
      clear hlen
      cases ho : decide (out = out') with
      | true =>
        have HO := Lib.hid ho
        have HE : Hid (sameB b b' rows rows' out out' = decide (rows = rows')) := by show _ = _; rw [HQ.out, ho, Bool.and_true]
        clear ho HQ
        go_enter Try.func21, Try.ntmps21
        go_wp2_with fail
        refine (same_ints _ _ out out' _ HL.out.2 HL'.out.2).mono ?_
        rintro e w' ⟨rfl, n0, rfl⟩
        rw [HO.out]
        obtain ⟨W, hW⟩ : ∃ W, W = ((w.alloc (Obj.cells #[Value.int .i64 b, Value.slice an rows.length cn, Value.slice ao out.length co] 30)).alloc (Obj.cells #[Value.int .i64 b', Value.slice an' rows'.length cn', Value.slice ao' out'.length co'] 30)) := ⟨_, rfl⟩
        rw [← hW] at HL HL' HC HC' HB ⊢
        obtain ⟨_, _, hv, hl, hca⟩ := HL.out.1.row
        injection hv with hv1 _ _
        subst hv1
        obtain ⟨_, _, hv, hl', hcb⟩ := HL'.out.1.row
        injection hv with hv1 _ _
        subst hv1
        have HA := Lib.hid hca
        have HB2 := Lib.hid hcb
        clear hca hcb hW
        have k0 := HC.out.c0
        have k1 := HC.out.c1
        have k2 := HC.out.c2
        have m0 := HC'.out.c0
        have m1 := HC'.out.c1
        have m2 := HC'.out.c2
        go_wp2
        go_loopw [5] (fun i' wr => ∃ k : Nat, k ≤ rows.length ∧ i' = .int .i64 k ∧ Hid (∀ (j : Nat) (x y : List Int), j < k → rows[j]? = some x → rows'[j]? = some y → x = y) ∧ ∃ n, wr = W.drewN n) (fun i' _ => rows.length - (intOf i').toNat)
        case atStart => exact ⟨0, Nat.zero_le _, rfl, fun j x y h => by omega, _, rfl⟩
        case round =>
          obtain ⟨k, hk, rfl, HI, n, rfl⟩ := hrel
          by_cases hlt : k < rows.length
          · obtain ⟨x, hx⟩ : ∃ x, rows[k]? = some x := ⟨_, List.getElem?_eq_getElem hlt⟩
            obtain ⟨y, hy⟩ : ∃ y, rows'[k]? = some y := ⟨_, List.getElem?_eq_getElem (by omega)⟩
            obtain ⟨p, o, ux, rfl, hc1, lx⟩ := HA.out k x hx
            obtain ⟨q, r, uy, rfl, hc2, ly⟩ := HB2.out k y hy
            have HX := Lib.hid hx
            have HY := Lib.hid hy
            have LX := Lib.hid lx
            have LY := Lib.hid ly
            clear hx hy lx ly
            by_cases he : x = y
            · have HN : Hid (∀ (j : Nat) (x y : List Int), j < k + 1 → rows[j]? = some x → rows'[j]? = some y → x = y) := fun j x' y' hj hx' hy' => by
                by_cases e : j = k
                · subst e
                  obtain rfl := Option.some.inj (HX.out.symm.trans hx')
                  obtain rfl := Option.some.inj (HY.out.symm.trans hy')
                  exact he
                · exact HI.out j x' y' (by omega) hx' hy'
              have HD := Lib.hid (fun w l l' => same_true ux uy x y w l l' he)
              clear he
              go_wp2
              go_quiet ((go_at_call 34; exact quiet_more (HD.out _ (Lies_drewN LX.out _) (Lies_drewN LY.out _))))
              go_wp2
              go_roundw
              case rel => exact ⟨k + 1, by omega, by go_num, HN, _, rfl⟩
              case measure => simp [intOf]; omega
            · have HF : Hid (sameB b b' rows rows' out out' = false) := by show _ = _; rw [HE.out]; exact decide_eq_false (list_ne HX.out HY.out he)
              have HD := Lib.hid (fun w l l' => same_false ux uy x y w l l' he)
              clear he
              go_wp2
              go_quiet ((go_at_call 34; exact quiet_more (HD.out _ (Lies_drewN LX.out _) (Lies_drewN LY.out _))))
              go_wp2
              go_ret
              exact ⟨ret_b HF.out.symm, endsE HB.out⟩
          · have HF : Hid (sameB b b' rows rows' out out' = true) := by show _ = _; rw [HE.out]; exact decide_eq_true (list_eq HLE.out fun j x y hj => HI.out j x y (by omega))
            go_wp2
            go_ret
            exact ⟨ret_b HF.out.symm, HB.out _⟩
      | false =>
        have HO := Lib.hid ho
        have HE : Hid (sameB b b' rows rows' out out' = false) := by show _ = _; rw [HQ.out, ho, Bool.and_false]
        clear ho HQ
        go_enter Try.func21, Try.ntmps21
        go_wp2_with fail
        refine (same_ints _ _ out out' _ HL.out.2 HL'.out.2).mono ?_
        rintro e w' ⟨rfl, n0, rfl⟩
        rw [HO.out]
        go_wp2
        go_ret
        exact ⟨ret_b HE.out.symm, HB.out _⟩
    · have hd1 : ((rows.length : Int) != (rows'.length : Int)) = true := by simp; omega
      have HE : Hid (sameB b b' rows rows' out out' = false) := by show _ = _; rw [HQ.out, decide_eq_false (fun e : rows = rows' => hlen (by rw [e]))]; rfl
      clear hlen HQ
      go_enter Try.func21, Try.ntmps21
      go_wp2
      go_ret
      exact ⟨ret_b HE.out.symm, HB.out 0⟩
  · have hd0 : (b != b') = true := by simpa using hb
    have HE : Hid (sameB b b' rows rows' out out' = false) := by show _ = _; rw [sameB, decide_eq_false hb]; rfl
    clear hb
    go_enter Try.func21, Try.ntmps21
    go_wp2
    go_ret
    exact ⟨ret_b HE.out.symm, HB.out 0⟩
end Seqs
end Go.Proofs.Ytgbgcaaekpgapac
/- Contracts of the small tests on a width or a number: they answer whether the number lies in its range, and change nothing. No conditions beyond those that each states. -/
namespace Go.Proofs.Ytgbgcaaekpgapac
open Go.ChangeShapes Go.WideShapes Go.ChangeAt Go.RowKit
open Go.ChangeMaps (open_string shut_string)
open Go.PlainAid Plain
set_option linter.unusedVariables false

theorem l1In_yes (a l h : Int) (w : World) (h1 : l ≤ a) (h2 : a ≤ h) :
    Calls Try.prog 47 #[.int .i64 a, .int .i64 l, .int .i64 h] w fun e w' => e = .returned (.bool true) ∧ w = w' := by
  go_enter Try.func47, Try.ntmps47
  go_wp2
  go_ret
  exact ⟨rfl, rfl⟩
theorem l1In_no (a l h : Int) (w : World) (h1 : a < l ∨ h < a) :
    Calls Try.prog 47 #[.int .i64 a, .int .i64 l, .int .i64 h] w fun e w' => e = .returned (.bool false) ∧ w = w' := by
  by_cases h3 : l ≤ a
  · have h4 : h < a := by omega
    clear h1
    go_enter Try.func47, Try.ntmps47
    go_wp2
    go_ret
    exact ⟨by simp; omega, rfl⟩
  · clear h1
    go_enter Try.func47, Try.ntmps47
    go_wp2
    go_ret
    exact ⟨rfl, rfl⟩
end Go.Proofs.Ytgbgcaaekpgapac
/- Contracts of IsSequence, of the model. No conditions beyond those that each states. -/
namespace Go.Proofs.Ytgbgcaaekpgapac
open Go.ChangeShapes Go.WideShapes Go.ChangeAt Go.RowKit
open Go.PlainAid Plain
set_option linter.unusedVariables false
namespace Seqs
theorem ends {B : Nat} {w W W' : World} (h : ∀ n, Below B w (W.drewN n)) (he : (∃ n, W' = W.drewN n) ∨ (∃ n m, W' = (W.drewN n).drewN m) := by first | exact .inl ⟨_, rfl⟩ | exact .inr ⟨_, _, rfl⟩) : Below B w W' := by
  rcases he with ⟨n, rfl⟩ | ⟨n, m, rfl⟩
  · exact h n
  · rw [World.drewN_drewN]; exact h _
set_option maxHeartbeats 1000000 in
theorem spec_is (v : Value) (b : Int) (rows : List (List Int)) (out : List Int) (w : World) (h : LiesS w v b rows out) :
    Calls Try.prog 38 #[v] w fun e w' => e = .returned (.bool (seqB b rows out)) ∧ Below w.heap.size w w' := by
  obtain ⟨vn, vo, rfl, hn, ho⟩ := h
  have hB : Below w.heap.size w (w.alloc (Obj.cells #[Value.int .i64 b, vn, vo] 30)) := (Below.refl _ _).alloc (Nat.le_refl _) _
  have hC := Cells3.new w 30 (.int .i64 b) vn vo
  go_enter Try.func38, Try.ntmps38
  go_wp2_with fail
  obtain ⟨W, hW⟩ : ∃ W, W = w.alloc (Obj.cells #[Value.int .i64 b, vn, vo] 30) := ⟨_, rfl⟩
  rw [← hW] at hB hC ⊢
  obtain ⟨a, ca, rfl, hl, hc⟩ := (hn.below hB).row
  obtain ⟨hlo, ao, co, rfl, _, hco⟩ := ho.below hB
  have HC := Lib.hid hc
  have HO := Lib.hid hco
  have HB : Hid (∀ n, Below w.heap.size w (W.drewN n)) := fun n => below_drewN hB n
  have k0 := hC.c0
  have k1 := hC.c1
  have k2 := hC.c2
  clear hc hco hB hC hW hn ho
  obtain ⟨z, hz⟩ : ∃ z, z = w.heap.size := ⟨_, rfl⟩
  rw [← hz] at k0 k1 k2 ⊢
  have HZ := Lib.hid hz
  clear hz
  go_loopw [3] (fun i' wr => ∃ i : Nat, i ≤ rows.length ∧ i' = .int .i64 i ∧ Hid (∀ (j : Nat) (r : List Int), j < i → rows[j]? = some r → (r.length : Int) = b ∧ ∀ (k : Nat) (x : Int), r[k]? = some x → 0 ≤ x ∧ x < (rows.length : Int)) ∧ ∃ n, wr = W.drewN n) (fun i' _ => rows.length - (intOf i').toNat)
  case atStart => exact ⟨0, Nat.zero_le _, rfl, fun j r h => by omega, 0, rfl⟩
  case round =>
    obtain ⟨i, hi, rfl, HI, n, rfl⟩ := hrel
    by_cases hlt : i < rows.length
    · obtain ⟨r, hr⟩ : ∃ r, rows[i]? = some r := ⟨_, List.getElem?_eq_getElem hlt⟩
      obtain ⟨p, o, u, rfl, hx, hlx⟩ := HC.out i r hr
      obtain ⟨hrl, a', ca', rfl, _, hcr⟩ := hlx
      have HX := Lib.hid hcr
      have HR := Lib.hid hr
      clear hcr hr
      by_cases hb : (r.length : Int) = b
      · have HBE := Lib.hid hb
        have hd0 : ((r.length : Int) != b) = false := by rw [hb]; simp
        clear hb
        go_wp2
        go_quiet (fail)
        go_wp2
        go_loopw [4] (fun k' wr => ∃ k : Nat, k ≤ r.length ∧ k' = .int .i64 k ∧ Hid (∀ (j : Nat) (x : Int), j < k → r[j]? = some x → 0 ≤ x ∧ x < (rows.length : Int)) ∧ ∃ n, wr = W.drewN n) (fun k' _ => r.length - (intOf k').toNat)
        case atStart => exact ⟨0, Nat.zero_le _, rfl, fun j x h => by omega, _, World.drewN_drewN _ _ _⟩
        case round =>
          obtain ⟨k, hk, rfl, HK, m, rfl⟩ := hrel
          by_cases hlk : k < r.length
          · obtain ⟨x, hrx⟩ : ∃ x, r[k]? = some x := ⟨_, List.getElem?_eq_getElem hlk⟩
            obtain ⟨q, s, rfl, hcx⟩ := HX.out k x hrx
            have HXX := Lib.hid hrx
            clear hrx
            by_cases hx0 : x < 0
            · have hd := decide_eq_true hx0
              have HE := Lib.hid (not_seq_cell (b := b) (out := out) HR.out HXX.out (.inl hx0))
              go_wp2
              go_quiet (fail)
              go_wp2
              go_ret
              exact ⟨ret_b HE.out.symm, ends HB.out⟩
            · by_cases hx1 : (rows.length : Int) ≤ x
              · have hd := decide_eq_false hx0
                have hd1 := decide_eq_true hx1
                have HE := Lib.hid (not_seq_cell (b := b) (out := out) HR.out HXX.out (.inr hx1))
                go_wp2
                go_quiet (fail)
                go_wp2
                go_ret
                exact ⟨ret_b HE.out.symm, ends HB.out⟩
              · have hd := decide_eq_false hx0
                have hd1 := decide_eq_false hx1
                have HN : Hid (∀ (j : Nat) (x : Int), j < k + 1 → r[j]? = some x → 0 ≤ x ∧ x < (rows.length : Int)) := fun j y hj hy => by
                  by_cases e : j = k
                  · subst e
                    obtain rfl := Option.some.inj (HXX.out.symm.trans hy)
                    omega
                  · exact HK.out j y (by omega) hy
                go_wp2
                go_quiet (fail)
                go_wp2
                go_roundw
                case rel => exact ⟨k + 1, by omega, by go_num, HN, _, rfl⟩
                case measure => simp [intOf]; omega
          · have HN : Hid (∀ (j : Nat) (r : List Int), j < i + 1 → rows[j]? = some r → (r.length : Int) = b ∧ ∀ (k : Nat) (x : Int), r[k]? = some x → 0 ≤ x ∧ x < (rows.length : Int)) := fun j y hj hy => by
              by_cases e : j = i
              · subst e
                obtain rfl := Option.some.inj (HR.out.symm.trans hy)
                exact ⟨HBE.out, fun k' x hx => HK.out k' x (by have := (List.getElem?_eq_some_iff.1 hx).1; omega) hx⟩
              · exact HI.out j y (by omega) hy
            go_wp2
            go_roundw
            case rel => exact ⟨i + 1, by omega, by go_num, HN, _, rfl⟩
            case measure => simp [intOf]; omega
      · have HE := Lib.hid (not_seq_row (out := out) HR.out hb)
        have hd0 : ((r.length : Int) != b) = true := by simpa using hb
        clear hb
        go_wp2
        go_quiet (fail)
        go_wp2
        go_ret
        exact ⟨ret_b HE.out.symm, ends HB.out⟩
    · have HRR : Hid (∀ (j : Nat) (r : List Int), rows[j]? = some r → (r.length : Int) = b ∧ ∀ (k : Nat) (x : Int), r[k]? = some x → 0 ≤ x ∧ x < (rows.length : Int)) := fun j r hr => HI.out j r (by have := (List.getElem?_eq_some_iff.1 hr).1; omega) hr
      clear HI HC
      go_wp2
      go_loopw [5] (fun i' wr => ∃ i : Nat, i ≤ out.length ∧ i' = .int .i64 i ∧ Hid (∀ (j : Nat) (x : Int), j < i → out[j]? = some x → 0 ≤ x ∧ x ≤ 3) ∧ ∃ n, wr = W.drewN n) (fun i' _ => out.length - (intOf i').toNat)
      case atStart => exact ⟨0, Nat.zero_le _, rfl, fun j r h => by omega, _, rfl⟩
      case round =>
        obtain ⟨i, hi, rfl, HI, n, rfl⟩ := hrel
        by_cases hlt : i < out.length
        · obtain ⟨x, hox⟩ : ∃ x, out[i]? = some x := ⟨_, List.getElem?_eq_getElem hlt⟩
          obtain ⟨q, s, rfl, hcx⟩ := HO.out i x hox
          have HXX := Lib.hid hox
          clear hox
          by_cases hin : 0 ≤ x ∧ x ≤ 3
          · obtain ⟨hx0, hx3⟩ := hin
            have HN : Hid (∀ (j : Nat) (x : Int), j < i + 1 → out[j]? = some x → 0 ≤ x ∧ x ≤ 3) := fun j y hj hy => by
              by_cases e : j = i
              · subst e
                obtain rfl := Option.some.inj (HXX.out.symm.trans hy)
                omega
              · exact HI.out j y (by omega) hy
            go_wp2_with fail
            refine (l1In_yes _ _ _ _ hx0 hx3).mono ?_
            rintro e w' ⟨rfl, rfl⟩
            go_wp2
            go_roundw
            case rel => exact ⟨i + 1, by omega, by go_num, HN, _, rfl⟩
            case measure => simp [intOf]; omega
          · have hno : x < 0 ∨ 3 < x := by omega
            have HE := Lib.hid (not_seq_out (b := b) (rows := rows) HXX.out hno)
            have HNO := Lib.hid hno
            clear hin hno
            go_wp2_with fail
            refine (l1In_no _ _ _ _ HNO.out).mono ?_
            rintro e w' ⟨rfl, rfl⟩
            go_wp2
            go_ret
            exact ⟨ret_b HE.out.symm, ends HB.out⟩
        · have HOO : Hid (∀ (j : Nat) (x : Int), out[j]? = some x → 0 ≤ x ∧ x ≤ 3) := fun j r hr => HI.out j r (by have := (List.getElem?_eq_some_iff.1 hr).1; omega) hr
          clear HI HO
          by_cases hb : 2 ≤ b ∧ b ≤ 4
          · obtain ⟨hb1, hb2⟩ := hb
            by_cases hlen : 1 ≤ rows.length ∧ rows.length ≤ 16
            · obtain ⟨hl1, hl2⟩ := hlen
              by_cases heq : out.length = rows.length
              · have HE := Lib.hid (seqB_yes (isSeq_of hb1 hb2 hl1 hl2 heq HRR.out HOO.out))
                have hd : ((out.length : Int) == (rows.length : Int)) = true := by rw [heq]; simp
                clear heq
                go_wp2_with fail
                refine (l1In_yes _ _ _ _ hb1 hb2).mono ?_
                rintro e w' ⟨rfl, rfl⟩
                go_wp2_with fail
                refine (l1In_yes _ _ _ _ (by omega) (by omega)).mono ?_
                rintro e w' ⟨rfl, rfl⟩
                go_wp2
                go_ret
                exact ⟨ret_b HE.out.symm, ends HB.out⟩
              · have HE := Lib.hid (seqB_no (b := b) fun h => heq h.2.2.2.2.1)
                have hd : ((out.length : Int) == (rows.length : Int)) = false := by simp; omega
                clear heq
                go_wp2_with fail
                refine (l1In_yes _ _ _ _ hb1 hb2).mono ?_
                rintro e w' ⟨rfl, rfl⟩
                go_wp2_with fail
                refine (l1In_yes _ _ _ _ (by omega) (by omega)).mono ?_
                rintro e w' ⟨rfl, rfl⟩
                go_wp2
                go_ret
                exact ⟨ret_b HE.out.symm, ends HB.out⟩
            · have HE := Lib.hid (seqB_no (b := b) (out := out) fun h => hlen ⟨h.2.2.1, h.2.2.2.1⟩)
              have hno : (rows.length : Int) < 1 ∨ 16 < (rows.length : Int) := by omega
              have HNO := Lib.hid hno
              clear hlen hno
              go_wp2_with fail
              refine (l1In_yes _ _ _ _ hb1 hb2).mono ?_
              rintro e w' ⟨rfl, rfl⟩
              go_wp2_with fail
              refine (l1In_no _ _ _ _ HNO.out).mono ?_
              rintro e w' ⟨rfl, rfl⟩
              go_wp2
              go_ret
              exact ⟨ret_b HE.out.symm, ends HB.out⟩
          · have HE := Lib.hid (seqB_no (rows := rows) (out := out) fun h => hb ⟨h.1, h.2.1⟩)
            have hno : b < 2 ∨ 4 < b := by omega
            have HNO := Lib.hid hno
            clear hb hno
            go_wp2_with fail
            refine (l1In_no _ _ _ _ HNO.out).mono ?_
            rintro e w' ⟨rfl, rfl⟩
            go_wp2
            go_ret
            exact ⟨ret_b HE.out.symm, ends HB.out⟩
end Seqs
end Go.Proofs.Ytgbgcaaekpgapac
/- Contracts of library functions at this translation, each one application of a theorem of the library. Conditions: those that each states. -/
namespace Go.Proofs
open Go.Shelf
def Try.lays108_ren : Go.Shelf.Ren := ⟨fun | 108 => 55 | n => n, fun | 28 => 23 | 3 => 3 | 0 => 0 | 4 => 4 | n => n, fun | n => n⟩
theorem Try.lays108 : Go.Proofs.Lays.n108 Try.prog Try.lays108_ren := {
  mixed := by kernel_rfl
  f108 := Try.func55.trans (congrArg some (by kernel_rfl))
  t0 := Try.underlying0
  a0 := Try.isAgg0
  z0 := Try.sizeOf0
  v0 := Try.zeroValue0
  t3 := Try.underlying3
  a3 := Try.isAgg3
  z3 := Try.sizeOf3
  v3 := Try.zeroValue3
  t4 := Try.underlying4
  a4 := Try.isAgg4
  z4 := Try.sizeOf4
  v4 := Try.zeroValue4
  t28 := Try.underlying23
  a28 := Try.isAgg23
  z28 := Try.sizeOf23
  v28 := Try.zeroValue23 }
open Go.Lib in
theorem Try.slices_Index_int (b off n c : Nat) (zs : List Int) (x : Int) (w : World) (hz : n ≤ zs.length) (hbig : n ≤ 9223372036854775807) (hc : ∀ j, j < zs.length → w.cell? ⟨b, off + j, none⟩ = some (.int .i64 (zs.getD j 0))) :
    Calls Try.prog 55 #[.slice (some ⟨b, off, none⟩) n c, .int .i64 x] w fun e w' => e = .returned (.int .i64 (Lib.idxOf (zs.take n) x)) ∧ w' = w := Any.slices_Index_int Try.lays108 b off n c zs x w hz hbig hc
open Go.Lib in
theorem Try.slices_Index_int_empty (a : Option Addr) (c : Nat) (x : Int) (w : World) :
    Calls Try.prog 55 #[.slice a 0 c, .int .i64 x] w fun e w' => e = .returned (.int .i64 (Lib.idxOf [] x)) ∧ w' = w := Any.slices_Index_int_empty Try.lays108 a c x w
def Try.lays107_ren : Go.Shelf.Ren := ⟨fun | 107 => 61 | 108 => 55 | n => n, fun | 28 => 23 | 3 => 3 | 4 => 4 | 0 => 0 | n => n, fun | n => n⟩
theorem Try.lays107 : Go.Proofs.Lays.n107 Try.prog Try.lays107_ren := {
  mixed := by kernel_rfl
  f107 := Try.func61.trans (congrArg some (by kernel_rfl))
  f108 := Try.func55.trans (congrArg some (by kernel_rfl))
  t0 := Try.underlying0
  a0 := Try.isAgg0
  z0 := Try.sizeOf0
  v0 := Try.zeroValue0
  t3 := Try.underlying3
  a3 := Try.isAgg3
  z3 := Try.sizeOf3
  v3 := Try.zeroValue3
  t4 := Try.underlying4
  a4 := Try.isAgg4
  z4 := Try.sizeOf4
  v4 := Try.zeroValue4
  t28 := Try.underlying23
  a28 := Try.isAgg23
  z28 := Try.sizeOf23
  v28 := Try.zeroValue23 }
open Go.Lib in
theorem Try.slices_Contains_int (b off n c : Nat) (zs : List Int) (x : Int) (w : World) (hz : n ≤ zs.length) (hbig : n ≤ 9223372036854775807) (hc : ∀ j, j < zs.length → w.cell? ⟨b, off + j, none⟩ = some (.int .i64 (zs.getD j 0))) :
    Calls Try.prog 61 #[.slice (some ⟨b, off, none⟩) n c, .int .i64 x] w fun e w' => e = .returned (.bool ((zs.take n).contains x)) ∧ w' = w := Any.slices_Contains_int Try.lays107 b off n c zs x w hz hbig hc
open Go.Lib in
theorem Try.slices_Contains_int_empty (a : Option Addr) (c : Nat) (x : Int) (w : World) :
    Calls Try.prog 61 #[.slice a 0 c, .int .i64 x] w fun e w' => e = .returned (.bool false) ∧ w' = w := Any.slices_Contains_int_empty Try.lays107 a c x w
def Try.lays111_ren : Go.Shelf.Ren := ⟨fun | 111 => 57 | n => n, fun | 28 => 23 | 3 => 3 | 4 => 4 | 0 => 0 | n => n, fun | n => n⟩
theorem Try.lays111 : Go.Proofs.Lays.n111 Try.prog Try.lays111_ren := {
  mixed := by kernel_rfl
  f111 := Try.func57.trans (congrArg some (by kernel_rfl))
  t0 := Try.underlying0
  a0 := Try.isAgg0
  z0 := Try.sizeOf0
  v0 := Try.zeroValue0
  t3 := Try.underlying3
  a3 := Try.isAgg3
  z3 := Try.sizeOf3
  v3 := Try.zeroValue3
  t4 := Try.underlying4
  a4 := Try.isAgg4
  z4 := Try.sizeOf4
  v4 := Try.zeroValue4
  t28 := Try.underlying23
  a28 := Try.isAgg23
  z28 := Try.sizeOf23
  v28 := Try.zeroValue23 }
open Go.RowKit Go.Lib in
theorem Try.slices_Equal_int (b1 o1 n c b2 o2 m d : Nat) (xs ys : List Int) (w : World) (hx : n ≤ xs.length) (hy : m ≤ ys.length) (hbig : n ≤ 9223372036854775807) (hbig2 : m ≤ 9223372036854775807) (hc1 : ∀ j, j < xs.length → w.cell? ⟨b1, o1 + j, none⟩ = some (.int .i64 (xs.getD j 0))) (hc2 : ∀ j, j < ys.length → w.cell? ⟨b2, o2 + j, none⟩ = some (.int .i64 (ys.getD j 0))) :
    Calls Try.prog 57 #[.slice (some ⟨b1, o1, none⟩) n c, .slice (some ⟨b2, o2, none⟩) m d] w fun e w' => e = .returned (.bool (xs.take n == ys.take m)) ∧ ∃ q, w' = w.drewN q := Any.slices_Equal_int Try.lays111 b1 o1 n c b2 o2 m d xs ys w hx hy hbig hbig2 hc1 hc2
open Go.RowKit Go.Lib in
theorem Try.slices_Equal_int_empty (a1 a2 : Option Addr) (c m d : Nat) (w : World) (hbig2 : m ≤ 9223372036854775807) :
    Calls Try.prog 57 #[.slice a1 0 c, .slice a2 m d] w fun e w' => e = .returned (.bool (decide (m = 0))) ∧ w' = w := Any.slices_Equal_int_empty Try.lays111 a1 a2 c m d w hbig2
def Try.laysNm215_ren : Go.Shelf.Ren := ⟨fun | 15 => 53 | n => n, fun | 22 => 23 | 3 => 3 | 4 => 4 | n => n, fun | n => n⟩
theorem Try.laysNm215 : Go.Proofs.Lays2.n15 Try.prog Try.laysNm215_ren := {
  mixed := by kernel_rfl
  f15 := Try.func53.trans (congrArg some (by kernel_rfl))
  t3 := Try.underlying3
  a3 := Try.isAgg3
  z3 := Try.sizeOf3
  v3 := Try.zeroValue3
  t4 := Try.underlying4
  a4 := Try.isAgg4
  z4 := Try.sizeOf4
  v4 := Try.zeroValue4
  t22 := Try.underlying23
  a22 := Try.isAgg23
  z22 := Try.sizeOf23
  v22 := Try.zeroValue23
  i3 := by kernel_rfl }
open Go.RowKit Go.Lib in
theorem Try.slices_Clone_int (b off n c : Nat) (zs : List Int) (w : World) (hz : n ≤ zs.length) (hbig : n * 8 ≤ 140737488355328) (hc : ∀ j, j < zs.length → w.cell? ⟨b, off + j, none⟩ = some (.int .i64 (zs.getD j 0))) :
    Calls Try.prog 53 #[.slice (some ⟨b, off, none⟩) n c] w fun e w' => ∃ v', e = .returned v' ∧ w'.ownsRow w.heap.size 3 1 v' n ((zs.take n).map (Value.int .i64)) ∧ v' ≠ .slice none 0 0 ∧ Below w.heap.size w w' := Any.slices_Clone_int Try.laysNm215 b off n c zs w hz hbig hc
open Go.RowKit Go.Lib in
theorem Try.slices_Clone_int_nil (n c : Nat) (w : World) :
    Calls Try.prog 53 #[.slice none n c] w fun e w' => e = .returned (.slice none 0 0) ∧ w' = w := Any.slices_Clone_int_nil Try.laysNm215 n c w
open Go.RowKit Go.Lib in
theorem Try.slices_Clone_int_zero (a : Addr) (c : Nat) (w : World) :
    Calls Try.prog 53 #[.slice (some a) 0 c] w fun e w' => ∃ v', e = .returned v' ∧ w'.ownsRow w.heap.size 3 1 v' 0 [] ∧ v' ≠ .slice none 0 0 ∧ Below w.heap.size w w' := Any.slices_Clone_int_zero Try.laysNm215 a c w
open Go.RowKit Go.Lib in
theorem Try.slices_Equal_int_lens (a1 a2 : Option Addr) (n c m d : Nat) (w : World) (hnm : n ≠ m) :
    Calls Try.prog 57 #[.slice a1 n c, .slice a2 m d] w fun e w' => e = .returned (.bool false) ∧ w' = w := Any.slices_Equal_int_lens Try.lays111 a1 a2 n c m d w hnm
def Try.laysSlE041_f53_ren : Go.Shelf.Ren := ⟨fun | 41 => 53 | n => n, fun | 22 => 23 | 23 => 3 | 4 => 4 | n => n, fun | n => n⟩
theorem Try.laysSlE041_f53 : Go.Proofs.SlLaysE0.n41 Try.prog Try.laysSlE041_f53_ren := {
  mixed := by kernel_rfl
  f41 := ⟨Try.f53.name, by decide, Try.func53.trans (congrArg some (by kernel_rfl))⟩
  t4 := Try.underlying4
  a4 := Try.isAgg4
  z4 := Try.sizeOf4
  v4 := Try.zeroValue4
  t22 := Try.underlying23
  a22 := Try.isAgg23
  z22 := Try.sizeOf23
  v22 := Try.zeroValue23 }
open Go.RowKit Go.Lib in
theorem Try.slices_Clone (i0 : TypeInfo) (z : Value) (size bytes : Nat) (hi : Try.prog.info? 3 = some i0) (hz0 : i0.zero = some z) (hz1 : i0.size = size) (hz2 : i0.bytes = bytes) (hzs : z.cells.size = size) (hsz : 0 < size) (z23 : ∀ w, (Go.sizeOf 3).run Try.prog w = .ok size w) (b off n c : Nat) (news : List Value) (w : World) (hl : news.length = n * size) (hn : n ≤ maxLen) (hbig : n * bytes ≤ 140737488355328) (hc : ∀ j u, news[j]? = some u → w.cell? ⟨b, off + j, none⟩ = some u) (h1 : ∀ u ∈ news, u.oneCell' = true) :
    Calls Try.prog 53 #[.slice (some ⟨b, off, none⟩) n c] w fun e w' => ∃ v', e = .returned v' ∧ w'.ownsRow w.heap.size 3 size v' n news ∧ v' ≠ .slice none 0 0 ∧ Below w.heap.size w w' := AnyE.slices_Clone Try.laysSlE041_f53 i0 z size bytes hi hz0 hz1 hz2 hzs hsz z23 b off n c news w hl hn hbig hc h1
open Go.RowKit Go.Lib in
theorem Try.slices_Clone_nil (n c : Nat) (w : World) :
    Calls Try.prog 53 #[.slice none n c] w fun e w' => e = .returned (.slice none 0 0) ∧ w' = w := AnyE.slices_Clone_nil Try.laysSlE041_f53 n c w
end Go.Proofs
/- Contracts of the functions on digits, of the program and of the model. No conditions beyond those that each states. -/
namespace Go.Proofs.Ytgbgcaaekpgapac
open Go.ChangeShapes Go.WideShapes Go.ChangeAt Go.RowKit
open Go.PlainAid Plain
set_option linter.unusedVariables false
namespace Digits

theorem base_yes (b : Int) (w : World) (h1 : 2 ≤ b) (h2 : b ≤ 4) :
    Calls Try.prog 58 #[.int .i64 b] w fun e w' => e = .returned (.bool true) ∧ w = w' := by
  go_enter Try.func58, Try.ntmps58
  go_wp2
  go_ret
  exact ⟨rfl, rfl⟩
theorem base_no (b : Int) (w : World) (h1 : b < 2 ∨ 4 < b) :
    Calls Try.prog 58 #[.int .i64 b] w fun e w' => e = .returned (.bool false) ∧ w = w' := by
  by_cases h3 : 2 ≤ b
  · have h4 : 4 < b := by omega
    clear h1
    go_enter Try.func58, Try.ntmps58
    go_wp2
    go_ret
    exact ⟨by simp; omega, rfl⟩
  · clear h1
    go_enter Try.func58, Try.ntmps58
    go_wp2
    go_ret
    exact ⟨rfl, rfl⟩

theorem pow_next (b i : Nat) : ((b ^ i : Nat) : Int) * (b : Int) = ((b ^ (i + 1) : Nat) : Int) := by rw [Nat.pow_succ, Int.natCast_mul]
theorem ret_i {a b : Int} (h : a = b) : Ending.returned (.int .i64 a) = Ending.returned (.int .i64 b) := by rw [h]
/-- The power, 0 where base or exponent is out of range. -/
def powV (b k : Int) : Int := if 2 ≤ b ∧ b ≤ 4 ∧ 0 ≤ k ∧ k ≤ 16 then ((b.toNat ^ k.toNat : Nat) : Int) else 0
/-- slices.Clone of any slice. -/
theorem clone_lies (v : Value) (xs : List Int) (w : World) (h : Lies (Value.int .i64) w v xs) (hs : xs.length ≤ 1048576) :
    Calls Try.prog 53 #[v] w (Gives (Value.int .i64) 3 xs w) := by
  obtain ⟨hl, a, cap, rfl, hn, hc⟩ := h
  cases a with
  | none =>
    have hy : xs = [] := by
      cases xs with
      | nil => rfl
      | cons y l => obtain ⟨_, _, h', _⟩ := hc 0 y rfl; cases h'
    subst hy
    refine (Try.slices_Clone_int_nil _ _ w).mono ?_
    rintro e w' ⟨rfl, rfl⟩
    exact ⟨_, rfl, World.ownsRow_nil _ _ _ _, Below.refl _ _⟩
  | some ad =>
    cases hx : xs with
    | nil =>
      refine (Try.slices_Clone_int_zero ad cap w).mono ?_
      rintro e w' ⟨v', rfl, ho, _, hb⟩
      exact ⟨_, rfl, ho, hb⟩
    | cons y ys =>
      obtain ⟨b, off, he, _⟩ := hc 0 y (by rw [hx]; rfl)
      obtain rfl := Option.some.inj he
      rw [← hx]
      refine (Try.slices_Clone_int b off xs.length cap xs w (Nat.le_refl _) (by omega) ?_).mono ?_
      · intro j hj
        obtain ⟨b', off', he', hcell⟩ := hc j _ (List.getElem?_eq_getElem hj)
        injection he' with he'
        injection he' with e1 e2
        subst e1; subst e2
        rw [hcell]
        simp [List.getD, hj]
      · rintro e w' ⟨v', rfl, ho, _, hb⟩
        rw [List.take_length] at ho
        exact ⟨_, rfl, ho, hb⟩
end Digits
end Go.Proofs.Ytgbgcaaekpgapac
/- Contracts of IsSequence, of the program. No conditions beyond those that each states. -/
namespace Go.Proofs.Ytgbgcaaekpgapac
open Go.ChangeShapes Go.WideShapes Go.ChangeAt Go.RowKit
open Go.PlainAid Plain
set_option linter.unusedVariables false
namespace Seqs
theorem term_yes (x : Int) (w : World) (h1 : 0 ≤ x) (h2 : x ≤ 3) :
    Calls Try.prog 62 #[.int .i64 x] w fun e w' => e = .returned (.bool true) ∧ w = w' := by
  go_enter Try.func62, Try.ntmps62
  go_wp2
  go_ret
  exact ⟨rfl, rfl⟩
theorem term_no (x : Int) (w : World) (h : x < 0 ∨ 3 < x) :
    Calls Try.prog 62 #[.int .i64 x] w fun e w' => e = .returned (.bool false) ∧ w = w' := by
  by_cases h3 : 0 ≤ x
  · have h4 : decide (x ≤ 3) = false := decide_eq_false (by omega)
    clear h
    go_enter Try.func62, Try.ntmps62
    go_wp2
    go_ret
    exact ⟨rfl, rfl⟩
  · clear h
    go_enter Try.func62, Try.ntmps62
    go_wp2
    go_ret
    exact ⟨rfl, rfl⟩
theorem term_q {x : Int} {w : World} {n : Nat} {c : Bool} (hc : decide (0 ≤ x ∧ x ≤ 3) = c) :
    Calls Try.prog 62 #[.int .i64 x] (w.drewN n) fun e w' => e = .returned (.bool c) ∧ ∃ m, w' = w.drewN m := by
  cases c with
  | true =>
    have h := of_decide_eq_true hc
    exact (term_yes x _ h.1 h.2).mono fun _ _ ⟨he, hw⟩ => ⟨he, n, hw.symm⟩
  | false =>
    have h := of_decide_eq_false hc
    exact (term_no x _ (by omega)).mono fun _ _ ⟨he, hw⟩ => ⟨he, n, hw.symm⟩
set_option maxHeartbeats 1000000 in
theorem impl_row (v : Value) (b : Int) (rows : List (List Int)) (out : List Int) (w : World) (h : LiesS w v b rows out) (i : Nat) (r : List Int) (x : Int) (hr : rows[i]? = some r) (hx : out[i]? = some x) :
    Calls Try.prog 59 #[v, .int .i64 i] w fun e w' => e = .returned (.bool (rowB b rows.length r x)) ∧ Below w.heap.size w w' := by
  obtain ⟨vn, vo, rfl, hn, ho⟩ := h
  have hB : Below w.heap.size w (w.alloc (Obj.cells #[Value.int .i64 b, vn, vo] 30)) := (Below.refl _ _).alloc (Nat.le_refl _) _
  have hC := Cells3.new w 30 (.int .i64 b) vn vo
  have hir := (List.getElem?_eq_some_iff.1 hr).1
  have hio := (List.getElem?_eq_some_iff.1 hx).1
  go_enter Try.func59, Try.ntmps59
  go_wp2_with fail
  obtain ⟨W, hW⟩ : ∃ W, W = w.alloc (Obj.cells #[Value.int .i64 b, vn, vo] 30) := ⟨_, rfl⟩
  rw [← hW] at hB hC ⊢
  obtain ⟨a, ca, rfl, hl, hc⟩ := (hn.below hB).row
  obtain ⟨hlo, ao, co, rfl, _, hco⟩ := ho.below hB
  obtain ⟨p, o, u, rfl, hcu, hlu⟩ := hc i r hr
  obtain ⟨hrl, a', ca', rfl, _, hcr⟩ := hlu
  obtain ⟨q, s, rfl, hcx⟩ := hco i x hx
  have HX := Lib.hid hcr
  have HB : Hid (∀ n, Below w.heap.size w (W.drewN n)) := fun n => below_drewN hB n
  have k0 := hC.c0
  have k1 := hC.c1
  have k2 := hC.c2
  clear hc hco hB hC hW hn ho hcr hr hx
  obtain ⟨z, hz⟩ : ∃ z, z = w.heap.size := ⟨_, rfl⟩
  rw [← hz] at k0 k1 k2 ⊢
  clear hz
  by_cases hb : (r.length : Int) = b
  · have HBE := Lib.hid hb
    have hd0 : ((r.length : Int) != b) = false := by rw [hb]; simp
    clear hb
    by_cases hx03 : 0 ≤ x ∧ x ≤ 3
    case neg =>
      have HE := Lib.hid (rowB_out (b := b) (n := rows.length) (r := r) (o := x) (by omega))
      have HNO := Lib.hid (show decide (0 ≤ x ∧ x ≤ 3) = false from decide_eq_false hx03)
      clear hx03
      go_quiet ((go_at_call 62; exact term_q HNO.out))
      go_wp2
      go_ret
      exact ⟨ret_b HE.out.symm, ends HB.out⟩
    case pos =>
        have HYES := Lib.hid (show decide (0 ≤ x ∧ x ≤ 3) = true from decide_eq_true hx03)
        obtain ⟨hx0, hx3⟩ := hx03
        go_quiet ((go_at_call 62; exact term_q HYES.out))
        go_wp2
        go_loopw [31] (fun k' wr => ∃ k : Nat, k ≤ r.length ∧ k' = .int .i64 k ∧ Hid (∀ (j : Nat) (x : Int), j < k → r[j]? = some x → 0 ≤ x ∧ x < (rows.length : Int)) ∧ ∃ n, wr = W.drewN n) (fun k' _ => r.length - (intOf k').toNat)
        case atStart => exact ⟨0, Nat.zero_le _, rfl, fun j x h => by omega, _, rfl⟩
        case round =>
          obtain ⟨k, hk, rfl, HK, m, rfl⟩ := hrel
          by_cases hlk : k < r.length
          · obtain ⟨y, hry⟩ : ∃ x, r[k]? = some x := ⟨_, List.getElem?_eq_getElem hlk⟩
            obtain ⟨g, t, rfl, hcy⟩ := HX.out k y hry
            have HY := Lib.hid hry
            clear hry
            by_cases hy0 : y < 0
            · have hd3 := decide_eq_true hy0
              have HE := Lib.hid (rowB_cell (b := b) (n := rows.length) (o := x) HY.out (.inl hy0))
              go_wp2
              go_ret
              exact ⟨ret_b HE.out.symm, ends HB.out⟩
            · by_cases hy1 : (rows.length : Int) ≤ y
              · have hd3 := decide_eq_false hy0
                have hd4 := decide_eq_true hy1
                have HE := Lib.hid (rowB_cell (b := b) (n := rows.length) (o := x) HY.out (.inr hy1))
                go_wp2
                go_ret
                exact ⟨ret_b HE.out.symm, ends HB.out⟩
              · have hd3 := decide_eq_false hy0
                have hd4 := decide_eq_false hy1
                have HN : Hid (∀ (j : Nat) (x : Int), j < k + 1 → r[j]? = some x → 0 ≤ x ∧ x < (rows.length : Int)) := fun j z hj hz => by
                  by_cases e : j = k
                  · subst e
                    obtain rfl := Option.some.inj (HY.out.symm.trans hz)
                    omega
                  · exact HK.out j z (by omega) hz
                go_wp2
                go_roundw
                case rel => exact ⟨k + 1, by omega, by go_num, HN, _, rfl⟩
                case measure => simp [intOf]; omega
          · have HE := Lib.hid (rowB_yes (n := rows.length) HBE.out (fun k' x hx => HK.out k' x (by have := (List.getElem?_eq_some_iff.1 hx).1; omega) hx) (show 0 ≤ x by omega) (by omega))
            go_wp2
            go_ret
            exact ⟨ret_b HE.out.symm, ends HB.out⟩
  · have HE := Lib.hid (rowB_len (n := rows.length) (o := x) hb)
    have hd0 : ((r.length : Int) != b) = true := by simpa using hb
    clear hb
    go_quiet (fail)
    go_wp2
    go_ret
    exact ⟨ret_b HE.out.symm, ends HB.out⟩
theorem impl_is_no (v : Value) (b : Int) (rows : List (List Int)) (out : List Int) (w : World) (h : LiesS w v b rows out) (hno : ¬ (2 ≤ b ∧ b ≤ 4 ∧ 1 ≤ rows.length ∧ rows.length ≤ 16 ∧ out.length = rows.length)) :
    Calls Try.prog 50 #[v] w fun e w' => e = .returned (.bool false) ∧ Below w.heap.size w w' := by
  obtain ⟨vn, vo, rfl, hn, ho⟩ := h
  obtain ⟨a, ca, rfl, hl, hc⟩ := hn.row
  obtain ⟨hlo, ao, co, rfl, _, hco⟩ := ho
  clear hc hco hn
  by_cases hb : 2 ≤ b ∧ b ≤ 4
  · obtain ⟨hb1, hb2⟩ := hb
    by_cases h1 : 1 ≤ rows.length
    · have hd1 := decide_eq_false (show ¬ (rows.length : Int) < 1 by omega)
      by_cases h2 : rows.length ≤ 16
      · have hd2 := decide_eq_false (show ¬ (rows.length : Int) > 16 by omega)
        have hd3 : ((out.length : Int) != (rows.length : Int)) = true := by simp; omega
        clear hno
        go_enter Try.func50, Try.ntmps50
        go_wp2_with fail
        refine (Digits.base_yes _ _ hb1 hb2).mono ?_
        rintro e w' ⟨rfl, rfl⟩
        go_wp2
        go_ret
        exact ⟨rfl, (Below.refl _ _).alloc (Nat.le_refl _) _⟩
      · have hd2 := decide_eq_true (show (rows.length : Int) > 16 by omega)
        clear hno
        go_enter Try.func50, Try.ntmps50
        go_wp2_with fail
        refine (Digits.base_yes _ _ hb1 hb2).mono ?_
        rintro e w' ⟨rfl, rfl⟩
        go_wp2
        go_ret
        exact ⟨rfl, (Below.refl _ _).alloc (Nat.le_refl _) _⟩
    · have hd1 := decide_eq_true (show (rows.length : Int) < 1 by omega)
      clear hno
      go_enter Try.func50, Try.ntmps50
      go_wp2_with fail
      refine (Digits.base_yes _ _ hb1 hb2).mono ?_
      rintro e w' ⟨rfl, rfl⟩
      go_wp2
      go_ret
      exact ⟨rfl, (Below.refl _ _).alloc (Nat.le_refl _) _⟩
  · have hno' : b < 2 ∨ 4 < b := by omega
    clear hno hb
    have HNO := Lib.hid hno'
    clear hno'
    go_enter Try.func50, Try.ntmps50
    go_wp2_with fail
    refine (Digits.base_no _ _ HNO.out).mono ?_
    rintro e w' ⟨rfl, rfl⟩
    go_wp2
    go_ret
    exact ⟨rfl, (Below.refl _ _).alloc (Nat.le_refl _) _⟩
set_option maxHeartbeats 1000000 in
theorem impl_is (v : Value) (b : Int) (rows : List (List Int)) (out : List Int) (w : World) (h : LiesS w v b rows out) :
    Calls Try.prog 50 #[v] w fun e w' => e = .returned (.bool (seqB b rows out)) ∧ Below w.heap.size w w' := by
  by_cases hp : 2 ≤ b ∧ b ≤ 4 ∧ 1 ≤ rows.length ∧ rows.length ≤ 16 ∧ out.length = rows.length
  · obtain ⟨hb1, hb2, h1, h2, h3⟩ := hp
    have HS := Lib.hid h
    obtain ⟨vn, vo, rfl, hn, ho⟩ := h
    have hB : Below w.heap.size w (w.alloc (Obj.cells #[Value.int .i64 b, vn, vo] 30)) := (Below.refl _ _).alloc (Nat.le_refl _) _
    have hC := Cells3.new w 30 (.int .i64 b) vn vo
    obtain ⟨a, ca, rfl, hl, hc⟩ := hn.row
    obtain ⟨hlo, ao, co, rfl, _, hco⟩ := ho
    have hd1 := decide_eq_false (show ¬ (rows.length : Int) < 1 by omega)
    have hd2 := decide_eq_false (show ¬ (rows.length : Int) > 16 by omega)
    have hd3 : ((out.length : Int) != (rows.length : Int)) = false := by rw [h3]; simp
    have H3 := Lib.hid h3
    have HB := Lib.hid hB
    have HC := Lib.hid hC
    clear hc hco hn h3 hB hC
    go_enter Try.func50, Try.ntmps50
    go_wp2_with fail
    refine (Digits.base_yes _ _ hb1 hb2).mono ?_
    rintro e w' ⟨rfl, rfl⟩
    go_wp2_with fail
    obtain ⟨z, hz⟩ : ∃ z, z = w.heap.size := ⟨_, rfl⟩
    rw [← hz] at HC ⊢
    have HZ := Lib.hid hz
    clear hz
    go_loopw [28] (fun i' wr => ∃ i : Nat, i ≤ rows.length ∧ i' = .int .i64 i ∧ Hid (∀ (j : Nat) (r : List Int) (o : Int), j < i → rows[j]? = some r → out[j]? = some o → rowB b rows.length r o = true) ∧ Hid (Cells3 wr z 30 (.int .i64 b) (.slice a rows.length ca) (.slice ao out.length co)) ∧ Hid (Below w.heap.size w wr)) (fun i' _ => rows.length - (intOf i').toNat)
    case atStart => exact ⟨0, Nat.zero_le _, rfl, fun j r o h => by omega, HC, HB⟩
    case round =>
      obtain ⟨i, hi, rfl, HI, HCi, HBi⟩ := hrel
      by_cases hlt : i < rows.length
      · obtain ⟨r, hr⟩ : ∃ r, rows[i]? = some r := ⟨_, List.getElem?_eq_getElem hlt⟩
        obtain ⟨x, hx⟩ : ∃ x, out[i]? = some x := ⟨_, List.getElem?_eq_getElem (by have := H3.out; omega)⟩
        have k0 := HCi.out.c0
        have k1 := HCi.out.c1
        have k2 := HCi.out.c2
        have HR := Lib.hid hr
        have HX := Lib.hid hx
        clear hr hx
        cases hrb : rowB b rows.length r x with
        | false =>
          have HF := Lib.hid (rowB_seq HR.out HX.out hrb)
          have HRB := Lib.hid hrb
          clear hrb
          go_wp2_with fail
          refine (impl_row _ b rows out _ (HS.out.below HBi.out) i r x HR.out HX.out).mono ?_
          rintro e W1 ⟨rfl, hb⟩
          have HB1 := Lib.hid (HBi.out.trans (hb.mono HBi.out.size))
          rw [HRB.out]
          clear hb
          go_wp2
          go_ret
          exact ⟨ret_b HF.out.symm, HB1.out⟩
        | true =>
          have HRB := Lib.hid hrb
          have HN : Hid (∀ (j : Nat) (r : List Int) (o : Int), j < i + 1 → rows[j]? = some r → out[j]? = some o → rowB b rows.length r o = true) := fun j r' o' hj hr' ho' => by
            by_cases e : j = i
            · subst e
              obtain rfl := Option.some.inj (HR.out.symm.trans hr')
              obtain rfl := Option.some.inj (HX.out.symm.trans ho')
              exact HRB.out
            · exact HI.out j r' o' (by omega) hr' ho'
          clear hrb
          go_wp2_with fail
          refine (impl_row _ b rows out _ (HS.out.below HBi.out) i r x HR.out HX.out).mono ?_
          rintro e W1 ⟨rfl, hb⟩
          have HB1 := Lib.hid (HBi.out.trans (hb.mono HBi.out.size))
          have HC1 := Lib.hid (HCi.out.below hb)
          rw [HRB.out]
          clear hb k0 k1 k2
          go_wp2
          go_roundw
          case rel => exact ⟨i + 1, by omega, by go_num, HN, HC1, HB1⟩
          case measure => simp [intOf]; omega
      · have HE := Lib.hid (seq_rows hb1 hb2 h1 h2 H3.out (fun j r o hr ho => HI.out j r o (by have := (List.getElem?_eq_some_iff.1 hr).1; omega) hr ho))
        go_wp2
        go_ret
        exact ⟨ret_b HE.out.symm, HBi.out⟩
  · rw [seqB_no fun hs => hp ⟨hs.1, hs.2.1, hs.2.2.1, hs.2.2.2.1, hs.2.2.2.2.1⟩]
    exact impl_is_no v b rows out w h hp
end Seqs
end Go.Proofs.Ytgbgcaaekpgapac
/- Append and slice literals inside a statement whose order is drawn, told of slices as lists. No conditions beyond those that each fact states. -/
namespace Go.Proofs.Ytgbgcaaekpgapac.Plain
open Go.RowKit
section
variable {α : Type} {enc : α → Value} {e : TypeId}
/-- Append inside a drawn region: onto a slice of the call's own, of any slice that reads as a list. -/
theorem step_append_list {P : Program} {ops : Array Oper} {o : Oper} {a : Act} {wx : World} {K : Act → World → Prop} {Q : Exit → Act → World → Prop} {E : Prop}
    (hgd : o.guard = none) (s x : Operand) (t : TypeId) (hop : o.op = Op.call { callee := Callee.builtin Builtin.append, args := #[s, x], argTypes := #[t, t] })
    (base : Nat) (i : TypeInfo) (z : Value) (bytes : Nat) (ht : P.underlying t = some (.slice e)) (hi : P.info? e = some i) (hz : i.zero = some z)
    (hsize : i.size = 1) (hby : i.bytes = bytes) (hzs : z.cells.size = 1)
    (v : Value) (xs : List α) (hs : a.eval s = v) (hown : Has enc e wx base v xs) (u : Value) (ys : List α) (hx : a.eval x = u) (hu : Lies enc wx u ys)
    (h1 : ∀ y ∈ ys, (enc y).oneCell' = true) (hbytes : (xs.length + ys.length) * bytes ≤ 140737488355328) (h63 : xs.length + ys.length ≤ 9223372036854775807) (hb2 : base ≤ wx.heap.size)
    (hK : ∀ v' w', Has enc e w' base v' (xs ++ ys) → wx.grownBy w' v.ownBlock → K (a.put o.dst v') w') :
    if Region.wanted o (yielded ops a.tmps) = true then Oper.wp P o a wx K Q else E := by
  have hw : Region.wanted o (yielded ops a.tmps) = true := by simp [Region.wanted, hgd]
  rw [if_pos hw]
  obtain ⟨hl, A, cap, rfl, hnone, hc⟩ := hu
  have hh : ∀ v' w', w'.ownsRow base e 1 v' (xs.length + ys.length) (xs.map enc ++ ys.map enc) → wx.grownBy w' v.ownBlock → K (a.put o.dst v') w' := by
    intro v' w' ho' hg'
    refine hK v' w' ?_ hg'
    show w'.ownsRow base e 1 v' _ _
    rw [List.length_append, List.map_append]
    exact ho'
  cases A with
  | none =>
    obtain rfl := hnone rfl
    have hy : ys = [] := by
      cases ys with
      | nil => rfl
      | cons y l => obtain ⟨_, _, h', _⟩ := hc 0 y rfl; cases h'
    subst hy
    have hrun := run_append_owned_none (P := P) (w := wx) base t o.type e i 1 ht hi v xs.length (xs.map enc) hown
    unfold Oper.wp
    simp only [List.length_nil] at hx
    simp [execOp, hop, resolve, invoke, builtin, hs, hx, hrun, Result.andThen]
    exact hh v wx (by simpa [Has] using hown) (World.grownBy.refl wx _)
  | some ad =>
    refine wp_append_own _ s x t hop base e i z 1 bytes ht hi hz hsize hby hzs (by decide) v xs.length (xs.map enc) hs hown ad ys.length cap (ys.map enc) hx (by simp) ?_ ?_ (by unfold maxLen; omega) hbytes hb2 (fun v' w' h1 h2 _ => hh v' w' h1 h2)
    · intro j y hj
      rw [List.getElem?_map, Option.map_eq_some_iff] at hj
      obtain ⟨x', hx', rfl⟩ := hj
      obtain ⟨b, off, he, hcell⟩ := hc j x' hx'
      obtain rfl := Option.some.inj he
      rw [addr_plus]
      exact hcell
    · intro y hy
      obtain ⟨x', hx', rfl⟩ := List.mem_map.1 hy
      exact h1 x' hx'
end
end Go.Proofs.Ytgbgcaaekpgapac.Plain
/- What stays of slices, rows and structs behind a draw, a new block, a write elsewhere; rows and a slice in intervals that do not meet. No conditions beyond those that each fact states. -/
namespace Go.Proofs.Ytgbgcaaekpgapac.Plain
open Go.RowKit
theorem with_fact {T G : Prop} (h : T) (k : T → G) : G := k h
section
variable {α : Type} {enc : α → Value} {e : TypeId} {w w1 : World} {v : Value} {xs : List α} {base : Nat}
theorem lies_drew (h : Lies enc w v xs) : Lies enc w.drew v xs := h.below (below_drew' w)
theorem lies_alloc (h : Lies enc w v xs) (o : Obj) : Lies enc (w.alloc o) v xs := h.below ((Below.refl _ _).alloc (Nat.le_refl _) _)
theorem has_drew (h : Has enc e w base v xs) : Has enc e w.drew base v xs := h.below (below_drew' w)
theorem has_alloc (h : Has enc e w base v xs) (o : Obj) : Has enc e (w.alloc o) base v xs := h.below ((Below.refl _ _).alloc (Nat.le_refl _) _)
/-- An empty slice literal that has just been laid, a literal of one element. -/
theorem has_lit0 {g : Nat} (hg : g = w.heap.size) (hb : base ≤ g) : Has enc e (w.alloc (.cells #[] e)) base (.slice (some ⟨g, 0, none⟩) 0 0) [] := by
  subst hg
  exact Has.lit (enc := enc) (e := e) w [] hb (by simp)
theorem lies_lit1 {g : Nat} (x : α) (hg : g = w.heap.size) : Lies enc (w.alloc (.cells #[enc x] e)) (.slice (some ⟨g, 0, none⟩) 1 1) [x] := by
  subst hg
  exact (Has.lit (enc := enc) (e := e) (base := w.heap.size) w [x] (Nat.le_refl _) (by simp)).lies
theorem has_lit1 {g : Nat} (x : α) (hg : g = w.heap.size) (hb : base ≤ g) : Has enc e (w.alloc (.cells #[enc x] e)) base (.slice (some ⟨g, 0, none⟩) 1 1) [x] := by
  subst hg
  exact Has.lit (enc := enc) (e := e) w [x] hb (by simp)
theorem lies_lit1v {w : World} {e : TypeId} {g : Nat} (x : Value) (hg : g = w.heap.size) : Lies id (w.alloc (.cells #[x] e)) (.slice (some ⟨g, 0, none⟩) 1 1) [x] := lies_lit1 (enc := id) x hg
theorem c3_of_below {w w' : World} {B b : Nat} {t : TypeId} {x y z : Value} (h : Below B w w') (hc : Cells3 w b t x y z) (hb : b < B) : Cells3 w' b t x y z := ⟨(h.block b hb).trans hc.row⟩
end
section
variable {w w1 : World} {b : Nat} {t : TypeId} {x y z : Value}
theorem c3_new' (h : b = w.heap.size) : Cells3 (w.alloc (.cells #[x, y, z] t)) b t x y z := by
  subst h
  exact Cells3.new w t x y z
theorem c3_drew (h : Cells3 w b t x y z) : Cells3 w.drew b t x y z := ⟨h.row⟩
theorem c3_all (h : Cells3 w b t x y z) : w.cell? ⟨b, 0, none⟩ = some x ∧ w.cell? ⟨b, 1, none⟩ = some y ∧ w.cell? ⟨b, 2, none⟩ = some z := ⟨h.c0, h.c1, h.c2⟩
/-- A slice's block and a struct's block are two, where their types are. -/
theorem has_ne_c3 {α : Type} {enc : α → Value} {e : TypeId} {v : Value} {xs : List α} {base : Nat} (h : Has enc e w base v xs) (hc : Cells3 w b t x y z) (hne : e ≠ t) : v.ownBlock ≠ some b := by
  rcases h.2 with ⟨rfl, _⟩ | ⟨g, cap, cur, rfl, _, hg, _⟩
  · intro h; cases h
  · intro h
    have e1 : g = b := by simpa [Value.ownBlock] using h
    subst e1
    rw [hc.row] at hg
    simp at hg
    exact hne hg.2.symm
end
theorem grown_alloc {w w1 : World} {o : Obj} {r : Option Nat} (h : (w.alloc o).grownBy w1 r) : w.grownBy w1 r := grown_trans' (World.grownBy_alloc w o r) h
theorem grown_drew {w w1 : World} {r : Option Nat} (h : w.drew.grownBy w1 r) : w.grownBy w1 r := ⟨h.os, h.tape, h.output, h.size, h.block⟩
theorem OwnI.grown {w w' : World} {lo hi : Nat} {v : Value} {xs : List Int} {r : Option Nat} (h : OwnI w lo hi v xs) (hg : w.grownBy w' r) (hr : ∀ k, r = some k → k < lo ∨ hi ≤ k) : OwnI w' lo hi v xs :=
  ⟨h.has.of_same fun k hk => hg.block k (h.has.lt k hk).2 (fun e => by have := h.range k hk; have := hr k e.symm; omega), h.lt, Nat.le_trans h.le hg.size⟩
/-- A write into a block that is not the slice's. -/
theorem OwnI.set {w : World} {lo hi : Nat} {v : Value} {xs : List Int} (h : OwnI w lo hi v xs) {a : Addr} (ha : v.ownBlock ≠ some a.block) (u : Value) : OwnI (w.setCell a u) lo hi v xs :=
  ⟨h.has.of_same fun k hk => by
    have : a.block ≠ k := fun e => ha (by rw [hk, e])
    simp [World.setCell, Array.getElem?_modify, this], h.lt, by simpa [World.setCell] using h.le⟩
theorem OwnRows.set {w : World} {lo hi : Nat} {us : List Value} {rows : List (List Int)} (h : OwnRows w lo hi us rows) {a : Addr} (ha : ∀ u ∈ us, u.ownBlock ≠ some a.block) (x : Value) : OwnRows (w.setCell a x) lo hi us rows :=
  ⟨h.len, fun i u r hu hr => (h.row i u r hu hr).set (ha u (List.mem_of_getElem? hu)) x, h.apart⟩
theorem Has.set {α : Type} {enc : α → Value} {e : TypeId} {w : World} {base : Nat} {v : Value} {xs : List α} (h : Has enc e w base v xs) {a : Addr} (ha : v.ownBlock ≠ some a.block) (u : Value) : Has enc e (w.setCell a u) base v xs :=
  h.of_same fun k hk => by
    have : a.block ≠ k := fun e => ha (by rw [hk, e])
    simp [World.setCell, Array.getElem?_modify, this]
/-- No row lies in a struct's block. -/
theorem OwnRows.ne_c3 {w : World} {lo hi : Nat} {us : List Value} {rows : List (List Int)} (h : OwnRows w lo hi us rows) {b : Nat} {t : TypeId} {x y z : Value} (hc : Cells3 w b t x y z) (hne : (3 : Nat) ≠ t) : ∀ u ∈ us, u.ownBlock ≠ some b := fun u hu => by
  obtain ⟨i, hi⟩ := List.getElem?_of_mem hu
  obtain ⟨r, hr⟩ : ∃ r, rows[i]? = some r := ⟨_, List.getElem?_eq_getElem (by rw [← h.len]; exact (List.getElem?_eq_some_iff.1 hi).1)⟩
  exact has_ne_c3 (h.row i u r hi hr).has hc hne
/-- A slice beside rows, in an interval that does not meet theirs. -/
theorem OwnRows.snoc_apart {w : World} {lo hi lo' hi' L H : Nat} {us : List Value} {rows : List (List Int)} {u : Value} {r : List Int} (h : OwnRows w lo hi us rows) (hu : OwnI w lo' hi' u r) (hd : hi ≤ lo' ∨ hi' ≤ lo) (h1 : L ≤ lo) (h2 : L ≤ lo') (h3 : hi ≤ H) (h4 : hi' ≤ H) (h5 : H ≤ w.heap.size) : OwnRows w L H (us ++ [u]) (rows ++ [r]) := by
  refine ⟨by simp [h.len], fun i x y hx hy => ?_, fun i j x x' hx hx' hij => ?_⟩
  · by_cases hi' : i < us.length
    · rw [List.getElem?_append_left hi'] at hx
      rw [List.getElem?_append_left (by rw [← h.len]; exact hi')] at hy
      exact (h.row i x y hx hy).mono h1 h3 h5
    · have e1 : i = us.length := by have := (List.getElem?_eq_some_iff.1 hx).1; simp at this; omega
      subst e1
      rw [List.getElem?_append_right (Nat.le_refl _)] at hx
      rw [h.len, List.getElem?_append_right (Nat.le_refl _)] at hy
      simp at hx hy
      subst hx; subst hy
      exact hu.mono h2 h4 h5
  · have old : ∀ (i : Nat) (x : Value), us[i]? = some x → ∀ k, x.ownBlock = some k → lo ≤ k ∧ k < hi := fun i x hx k hk => by
      obtain ⟨r', hr'⟩ : ∃ r', rows[i]? = some r' := ⟨_, List.getElem?_eq_getElem (by rw [← h.len]; exact (List.getElem?_eq_some_iff.1 hx).1)⟩
      exact (h.row i x r' hx hr').range k hk
    have new : ∀ k, u.ownBlock = some k → lo' ≤ k ∧ k < hi' := fun k hk => hu.range k hk
    have at_ : ∀ (i : Nat) (x : Value), (us ++ [u])[i]? = some x → (i < us.length ∧ us[i]? = some x) ∨ (i = us.length ∧ x = u) := fun i x hx => by
      by_cases hi' : i < us.length
      · rw [List.getElem?_append_left hi'] at hx
        exact .inl ⟨hi', hx⟩
      · have e1 : i = us.length := by have := (List.getElem?_eq_some_iff.1 hx).1; simp at this; omega
        subst e1
        rw [List.getElem?_append_right (Nat.le_refl _)] at hx
        simp at hx
        exact .inr ⟨rfl, hx.symm⟩
    rcases at_ i x hx with ⟨h1, h2⟩ | ⟨h1, rfl⟩ <;> rcases at_ j x' hx' with ⟨h3, h4⟩ | ⟨h3, rfl⟩
    · exact h.apart i j x x' h2 h4 hij
    · cases hb : x.ownBlock with
      | none => exact .inl rfl
      | some k =>
        refine .inr fun e => ?_
        have := old i x h2 k hb
        have := new k e.symm
        omega
    · cases hb : x.ownBlock with
      | none => exact .inl rfl
      | some k =>
        refine .inr fun e => ?_
        have := old j x' h4 k e.symm
        have := new k hb
        omega
    · omega
/-- A sequence whose terms were laid ahead of its rows. -/
theorem OwnS.make_out {w : World} {base lo mid hi : Nat} {vn vo : Value} {us : List Value} {b : Int} {rows : List (List Int)} {out : List Int} (ho : OwnI w lo mid vo out) (h : OwnR w mid hi vn us rows) (h0 : base ≤ lo) (h1 : lo ≤ mid) (h2 : mid ≤ hi) :
    OwnS w base hi (.agg #[.int .i64 b, vn, vo]) b rows out :=
  ⟨vn, vo, us, rfl, ⟨h.top.mono (Nat.le_trans h0 h1), h.lt, h.le, h.rows.lower (Nat.le_trans h0 h1)⟩, h.rows.snoc_apart ho (.inr (Nat.le_refl _)) (Nat.le_trans h0 h1) h0 (Nat.le_refl _) h2 h.le⟩
end Go.Proofs.Ytgbgcaaekpgapac.Plain
/- Append told with the block that the result lies in; the terms of a sequence kept ahead of its rows while both grow. No conditions beyond those that each fact states. -/
namespace Go.Proofs.Ytgbgcaaekpgapac.Plain
open Go.RowKit
/-- The result of an append lies where the slice lay, or in a new block. -/
theorem append_block {P : Program} {w : World} {base : Nat} {t ty e : TypeId} {i : TypeInfo} {z : Value} {bytes : Nat} (ht : P.underlying t = some (.slice e)) (hi : P.info? e = some i) (hz : i.zero = some z)
    (hsize : i.size = 1) (hby : i.bytes = bytes) (hzs : z.cells.size = 1) {v : Value} {n : Nat} {xs : List Value} (hown : w.ownsRow base e 1 v n xs)
    {a : Addr} {m c : Nat} {news : List Value} (hl : news.length = m * 1) (hnews : ∀ j u, news[j]? = some u → w.cell? (a.add j) = some u) (h1 : ∀ u ∈ news, u.oneCell' = true)
    (h63 : n + m ≤ maxLen) (hbytes : (n + m) * bytes ≤ 140737488355328) {v' : Value} {w' : World} (hr : (Builtin.append_ #[t, t] ty #[v, .slice (some a) m c]).run P w = .ok v' w') :
    ∀ k, v'.ownBlock = some k → v.ownBlock = some k ∨ w.heap.size ≤ k := by
  intro k hk
  rcases hown.2 with ⟨rfl, rfl⟩ | ⟨g, cap, cur, rfl, hbg, hg, hnc, hcm, hcs, htake⟩
  · obtain ⟨v1, w1, hr1, ho1, _⟩ := run_append_own (P := P) w w.heap.size t ty e i z 1 bytes ht hi hz hsize hby hzs (by decide) (.slice none 0 0) 0 [] (World.ownsRow_nil w w.heap.size e 1) a m c news hl hnews h1 h63 hbytes (Nat.le_refl _)
    rw [hr] at hr1
    injection hr1 with e1 e2
    subst e1; subst e2
    exact .inr (World.ownsRow.lt ho1 k hk).1
  · by_cases hroom : n + m ≤ cap
    · have hfit : n * i.size + news.length ≤ cur.size := by rw [hl, hcs, hsize]; omega
      have hr2 := run_append_room (P := P) w t ty e i ht hi g n cap cur hg a m c news (by rw [hsize]; exact hl) hnews h1 hroom hfit
      rw [hr] at hr2
      injection hr2 with e1 e2
      subst e1
      exact .inl hk
    · have holds : ∀ j u, xs[j]? = some u → w.cell? ((⟨g, 0, none⟩ : Addr).add j) = some u := hown.cells (g := g) rfl
      have hr2 := run_append_grow (P := P) w t ty e i z ht hi hz ⟨g, 0, none⟩ n cap xs (by rw [hsize]; exact hown.1) holds a m c news (by rw [hsize]; exact hl) hnews (by omega) (by unfold maxLen at h63; omega) (growslice_fits (by omega) (by rw [hby]; exact hbytes))
      rw [hr] at hr2
      injection hr2 with e1 e2
      subst e1
      exact .inr (by have e2 : w.heap.size = k := Option.some.inj hk
                     omega)
section
variable {α : Type} {enc : α → Value} {e : TypeId}
/-- step_append_list, told also where the result lies. -/
theorem step_append_at_list {P : Program} {ops : Array Oper} {o : Oper} {a : Act} {wx : World} {K : Act → World → Prop} {Q : Exit → Act → World → Prop} {E : Prop}
    (hgd : o.guard = none) (s x : Operand) (t : TypeId) (hop : o.op = Op.call { callee := Callee.builtin Builtin.append, args := #[s, x], argTypes := #[t, t] })
    (base : Nat) (i : TypeInfo) (z : Value) (bytes : Nat) (ht : P.underlying t = some (.slice e)) (hi : P.info? e = some i) (hz : i.zero = some z)
    (hsize : i.size = 1) (hby : i.bytes = bytes) (hzs : z.cells.size = 1)
    (v : Value) (xs : List α) (hs : a.eval s = v) (hown : Has enc e wx base v xs) (u : Value) (ys : List α) (hx : a.eval x = u) (hu : Lies enc wx u ys)
    (h1 : ∀ y ∈ ys, (enc y).oneCell' = true) (hbytes : (xs.length + ys.length) * bytes ≤ 140737488355328) (h63 : xs.length + ys.length ≤ 9223372036854775807) (hb2 : base ≤ wx.heap.size)
    (hK : ∀ v' w', Has enc e w' base v' (xs ++ ys) → wx.grownBy w' v.ownBlock → (∀ k, v'.ownBlock = some k → v.ownBlock = some k ∨ wx.heap.size ≤ k) → K (a.put o.dst v') w') :
    if Region.wanted o (yielded ops a.tmps) = true then Oper.wp P o a wx K Q else E := by
  have hw : Region.wanted o (yielded ops a.tmps) = true := by simp [Region.wanted, hgd]
  rw [if_pos hw]
  obtain ⟨hl, A, cap, rfl, hnone, hc⟩ := hu
  have hh : ∀ v' w', w'.ownsRow base e 1 v' (xs.length + ys.length) (xs.map enc ++ ys.map enc) → wx.grownBy w' v.ownBlock → (∀ k, v'.ownBlock = some k → v.ownBlock = some k ∨ wx.heap.size ≤ k) → K (a.put o.dst v') w' := by
    intro v' w' ho' hg' hb'
    refine hK v' w' ?_ hg' hb'
    show w'.ownsRow base e 1 v' _ _
    rw [List.length_append, List.map_append]
    exact ho'
  cases A with
  | none =>
    obtain rfl := hnone rfl
    have hy : ys = [] := by
      cases ys with
      | nil => rfl
      | cons y l => obtain ⟨_, _, h', _⟩ := hc 0 y rfl; cases h'
    subst hy
    have hrun := run_append_owned_none (P := P) (w := wx) base t o.type e i 1 ht hi v xs.length (xs.map enc) hown
    unfold Oper.wp
    simp only [List.length_nil] at hx
    simp [execOp, hop, resolve, invoke, builtin, hs, hx, hrun, Result.andThen]
    exact hh v wx (by simpa [Has] using hown) (World.grownBy.refl wx _) (fun k hk => .inl hk)
  | some ad =>
    have hnews : ∀ j u, (ys.map enc)[j]? = some u → wx.cell? (ad.add j) = some u := by
      intro j y hj
      rw [List.getElem?_map, Option.map_eq_some_iff] at hj
      obtain ⟨x', hx', rfl⟩ := hj
      obtain ⟨b, off, he, hcell⟩ := hc j x' hx'
      obtain rfl := Option.some.inj he
      rw [addr_plus]
      exact hcell
    have hone : ∀ u ∈ ys.map enc, u.oneCell' = true := by
      intro y hy
      obtain ⟨x', hx', rfl⟩ := List.mem_map.1 hy
      exact h1 x' hx'
    obtain ⟨v', w', hr, h2, h3, _⟩ := run_append_own (P := P) wx base t o.type e i z 1 bytes ht hi hz hsize hby hzs (by decide) v xs.length (xs.map enc) hown ad ys.length cap (ys.map enc) (by simp) hnews hone (by unfold maxLen; omega) hbytes hb2
    have hblk := append_block ht hi hz hsize hby hzs hown (by simp) hnews hone (by unfold maxLen; omega) hbytes hr
    unfold Oper.wp execOp
    simp only [hop, resolve, invoke, builtin, Sem.run_bind, Sem.run_pure, Result.andThen_ok, List.map_toArray, List.map_cons, List.map_nil, hs, hx, hr]
    exact hh v' w' h2 h3 hblk
end
section
variable {α : Type} {enc : α → Value} {e : TypeId}
/-- Append as a statement in a fixed order. -/
theorem wpList_append_list {P : Program} {w : World} {ops : Array Oper} {rest : List Oper} {o : Oper} {a : Act} {Q : Exit → Act → World → Prop} (hgd : o.guard = none) (s x : Operand) (t : TypeId)
    (ho : o.op = .call { callee := .builtin .append, args := #[s, x], argTypes := #[t, t] })
    (base : Nat) (i : TypeInfo) (z : Value) (bytes : Nat) (ht : P.underlying t = some (.slice e)) (hi : P.info? e = some i) (hz : i.zero = some z)
    (hsize : i.size = 1) (hby : i.bytes = bytes) (hzs : z.cells.size = 1)
    (v : Value) (xs : List α) (hs : a.eval s = v) (hown : Has enc e w base v xs) (u : Value) (ys : List α) (hx : a.eval x = u) (hu : Lies enc w u ys)
    (h1 : ∀ y ∈ ys, (enc y).oneCell' = true) (hbytes : (xs.length + ys.length) * bytes ≤ 140737488355328) (h63 : xs.length + ys.length ≤ 9223372036854775807) (hb2 : base ≤ w.heap.size)
    (h : ∀ v' w', Has enc e w' base v' (xs ++ ys) → w.grownBy w' v.ownBlock → (∀ k, v'.ownBlock = some k → v.ownBlock = some k ∨ w.heap.size ≤ k) → wpList P ops Q rest (a.put o.dst v') w') :
    wpList P ops Q (o :: rest) a w :=
  wpList_plain hgd fun K hK => by
    have hh := step_append_at_list (ops := ops) (E := True) (K := K) (Q := Q) hgd s x t ho base i z bytes ht hi hz hsize hby hzs v xs hs hown u ys hx hu h1 hbytes h63 hb2 (fun v' w' k1 k2 k3 => hK _ _ (h v' w' k1 k2 k3))
    rw [if_pos (by simp [Region.wanted, hgd])] at hh
    exact hh
end
/-- The head's slice has grown: it lies where it lay, or in a new block. -/
theorem OwnRows.head_grown {w w' : World} {lo hi base : Nat} {vo vo' : Value} {us : List Value} {out out' : List Int} {rows : List (List Int)} (h : OwnRows w lo hi (vo :: us) (out :: rows)) (ho : Has (Value.int .i64) 3 w' base vo' out') (hlo : lo ≤ base) (hle : hi ≤ w.heap.size)
    (hg : w.grownBy w' vo.ownBlock) (hb : ∀ k, vo'.ownBlock = some k → vo.ownBlock = some k ∨ w.heap.size ≤ k) : OwnRows w' lo w'.heap.size (vo' :: us) (out' :: rows) := by
  have hlen := h.len
  have hold : ∀ (i : Nat) (u : Value), us[i]? = some u → ∃ r, rows[i]? = some r ∧ OwnI w lo hi u r := fun i u hu => by
    obtain ⟨r, hr⟩ : ∃ r, rows[i]? = some r := ⟨_, List.getElem?_eq_getElem (by simp at hlen; rw [← hlen]; exact (List.getElem?_eq_some_iff.1 hu).1)⟩
    exact ⟨r, hr, h.row (i + 1) u r (by simpa using hu) (by simpa using hr)⟩
  have hne : ∀ (i : Nat) (u : Value), us[i]? = some u → u.ownBlock = none ∨ u.ownBlock ≠ vo.ownBlock := fun i u hu => h.apart (i + 1) 0 u vo (by simpa using hu) rfl (by omega)
  have hnew : ∀ (i : Nat) (u : Value), us[i]? = some u → ∀ k, u.ownBlock = some k → vo'.ownBlock ≠ some k := fun i u hu k hk e => by
    obtain ⟨r, _, hI⟩ := hold i u hu
    have h1 := hI.lt k hk
    rcases hb k e with h2 | h2
    · rcases hne i u hu with h3 | h3
      · rw [hk] at h3; cases h3
      · exact h3 (by rw [hk, h2])
    · omega
  refine ⟨by simpa using hlen, fun i u r hu hr => ?_, fun i j u u' hu hu' hij => ?_⟩
  · cases i with
    | zero =>
      simp at hu hr
      subst hu; subst hr
      exact ⟨ho.mono hlo, fun k hk => (ho.lt k hk).2, Nat.le_refl _⟩
    | succ i =>
      simp at hu hr
      have hI := h.row (i + 1) u r (by simpa using hu) (by simpa using hr)
      exact ⟨hI.has.of_same fun k hk => hg.block k (hI.has.lt k hk).2 (fun e => by
        rcases hne i u hu with h3 | h3
        · rw [hk] at h3; cases h3
        · exact h3 (by rw [hk, e])), fun k hk => Nat.lt_of_lt_of_le (hI.lt k hk) (Nat.le_trans hle hg.size), Nat.le_refl _⟩
  · cases i with
    | zero =>
      cases j with
      | zero => omega
      | succ j =>
        simp at hu hu'
        subst hu
        cases hk : vo'.ownBlock with
        | none => exact .inl rfl
        | some k => exact .inr fun e => hnew j u' hu' k e.symm hk
    | succ i =>
      cases j with
      | zero =>
        simp at hu hu'
        subst hu'
        cases hk : u.ownBlock with
        | none => exact .inl rfl
        | some k => exact .inr fun e => hnew i u hu k hk e.symm
      | succ j =>
        simp at hu hu'
        exact h.apart (i + 1) (j + 1) u u' (by simpa using hu) (by simpa using hu') (by omega)
/-- The head goes to the end. -/
theorem OwnRows.rotate {w : World} {lo hi : Nat} {vo : Value} {us : List Value} {out : List Int} {rows : List (List Int)} (h : OwnRows w lo hi (vo :: us) (out :: rows)) : OwnRows w lo hi (us ++ [vo]) (rows ++ [out]) := by
  have hlen : us.length = rows.length := by simpa using h.len
  have key : ∀ (i : Nat) (x : Value), (us ++ [vo])[i]? = some x → ∃ j, (vo :: us)[j]? = some x ∧ (i < us.length ∧ j = i + 1 ∨ i = us.length ∧ j = 0) := fun i x hx => by
    by_cases hi' : i < us.length
    · rw [List.getElem?_append_left hi'] at hx
      exact ⟨i + 1, by simpa using hx, .inl ⟨hi', rfl⟩⟩
    · have e1 : i = us.length := by have := (List.getElem?_eq_some_iff.1 hx).1; simp at this; omega
      subst e1
      rw [List.getElem?_append_right (Nat.le_refl _)] at hx
      exact ⟨0, by simpa using hx, .inr ⟨rfl, rfl⟩⟩
  refine ⟨by simp [hlen], fun i u r hu hr => ?_, fun i j u u' hu hu' hij => ?_⟩
  · obtain ⟨j, hj, ⟨h1, rfl⟩ | ⟨rfl, rfl⟩⟩ := key i u hu
    · rw [List.getElem?_append_left (by omega)] at hr
      exact h.row (i + 1) u r hj (by simpa using hr)
    · rw [hlen, List.getElem?_append_right (Nat.le_refl _)] at hr
      exact h.row 0 u r hj (by simpa using hr)
  · obtain ⟨i1, hi1, c1⟩ := key i u hu
    obtain ⟨j1, hj1, c2⟩ := key j u' hu'
    exact h.apart i1 j1 u u' hi1 hj1 (by omega)
/-- A sequence out of its rows and its terms, the terms told first. -/
theorem OwnS.make_head {w : World} {base : Nat} {vn vo : Value} {us : List Value} {b : Int} {rows : List (List Int)} {out : List Int} (ht : Has id 23 w base vn us) (h : OwnRows w base w.heap.size (vo :: us) (out :: rows)) :
    OwnS w base w.heap.size (.agg #[.int .i64 b, vn, vo]) b rows out := by
  refine ⟨vn, vo, us, rfl, ⟨ht, fun k hk => (ht.lt k hk).2, Nat.le_refl _, ⟨by simpa using h.len, fun i u r hu hr => h.row (i + 1) u r (by simpa using hu) (by simpa using hr), fun i j u u' hu hu' hij => h.apart (i + 1) (j + 1) u u' (by simpa using hu) (by simpa using hu') (by omega)⟩⟩, h.rotate⟩
theorem OwnRows.one {w : World} {lo hi : Nat} {v : Value} {xs : List Int} (h : OwnI w lo hi v xs) : OwnRows w lo hi [v] [xs] :=
  ⟨rfl, fun i u r hu hr => by
    cases i with
    | zero => simp at hu hr; subst hu; subst hr; exact h
    | succ i => simp at hu, fun i j u u' hu hu' hij => by
    cases i with
    | zero => cases j with
      | zero => omega
      | succ j => simp at hu'
    | succ i => simp at hu⟩
theorem own_of_has {w : World} {base : Nat} {v : Value} {xs : List Int} (h : Has (Value.int .i64) 3 w base v xs) : OwnI w base w.heap.size v xs := ⟨h, fun k hk => (h.lt k hk).2, Nat.le_refl _⟩
theorem own_pair {w : World} {lo mid : Nat} {v vo : Value} {xs ys : List Int} (h1 : OwnI w lo mid v xs) (h2 : OwnI w mid w.heap.size vo ys) (h3 : lo ≤ mid) (h4 : mid ≤ w.heap.size) : OwnRows w lo w.heap.size [vo, v] [ys, xs] :=
  ((OwnRows.one h1).snoc h2 h3 h4).rotate
theorem has_lit1v {w : World} {e : TypeId} {base g : Nat} (x : Value) (hg : g = w.heap.size) (hb : base ≤ g) : Has id e (w.alloc (.cells #[x] e)) base (.slice (some ⟨g, 0, none⟩) 1 1) [x] := has_lit1 (enc := id) x hg hb
theorem below_allocs {a w : World} {o : Obj} (h : Below a.heap.size a w) : Below a.heap.size a (w.alloc o) := h.alloc h.size o
theorem grown_below2 {w w1 : World} {B : Nat} (h : w.grownBy w1 (some w.heap.size) ∨ w.grownBy w1 (some (w.heap.size + 1))) (hB : B ≤ w.heap.size) : Below B w w1 := by
  rcases h with h | h
  · exact (Below.refl B w).grown h hB (fun k hk => by cases hk; exact hB)
  · exact (Below.refl B w).grown h hB (fun k hk => by cases hk; omega)
/-- A row that is not empty: its slice's cell and its own cells. -/
theorem row_at {w : World} {pa off n cn : Nat} {rows : List (List Int)} (h : LiesR w (.slice (some ⟨pa, off, none⟩) n cn) rows) {i : Nat} {r : List Int} (hr : rows[i]? = some r) (hne : 0 < r.length) :
    ∃ q s c, w.cell? ⟨pa, off + i, none⟩ = some (.slice (some ⟨q, s, none⟩) r.length c) ∧ (∀ (k : Nat) (x : Int), r[k]? = some x → w.cell? ⟨q, s + k, none⟩ = some (.int .i64 x)) ∧ pa < w.heap.size ∧ q < w.heap.size := by
  obtain ⟨a, cap, hv, _, hc⟩ := h.row
  obtain ⟨b, o, u, h1, h2, _, a', c', rfl, _, h3⟩ := hc i r hr
  injection hv with e1 e2 e3
  rw [← e1] at h1
  injection h1 with h1
  injection h1 with h1 h4
  subst h1; subst h4
  obtain ⟨q, s, rfl, h5⟩ := h3 0 _ (List.getElem?_eq_getElem hne)
  refine ⟨q, s, c', h2, fun k x hx => ?_, World.block_lt_of_cell? w _ h2, World.block_lt_of_cell? w _ h5⟩
  obtain ⟨q', s', h6, h7⟩ := h3 k x hx
  injection h6 with h6
  injection h6 with h6 h8
  subst h6; subst h8
  exact h7
theorem Touch.of_grown_none {w w1 : World} (h : w.grownBy w1 none) : Plain.Touch 0 0 w w1 := ⟨h.os, h.tape, h.output, h.size, fun k hk _ => h.block k hk (by simp)⟩
end Go.Proofs.Ytgbgcaaekpgapac.Plain
