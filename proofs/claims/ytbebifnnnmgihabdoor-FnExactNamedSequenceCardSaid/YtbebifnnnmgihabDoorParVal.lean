/- The text of a sequence read back, as the model and as the program read it. No conditions beyond those that each fact states. -/
import Derived.Test.YtbebifnnnmgihabDoorFmtVal
import Derived.Test.YtbebifnnnmgihabDoorTextVal
import Derived.Test.YtbebifnnnmgihabDoorParseVal
import Derived.Lib.SplitLaws
namespace Go.Proofs.YtbebifnnnmgihabDoor.Plain
open Go.PlainAid
/-- One byte more is read: a piece ends, or grows. -/
def stepC (c : UInt8) (st : List (List UInt8) × List UInt8) (x : UInt8) : List (List UInt8) × List UInt8 := if x = c then (st.1 ++ [st.2], []) else (st.1, st.2 ++ [x])
def cutF (c : UInt8) (l : List UInt8) : List (List UInt8) × List UInt8 := l.foldl (stepC c) ([], [])
/-- The pieces of a text between the bytes c. -/
def cutP (c : UInt8) (l : List UInt8) : List (List UInt8) := (cutF c l).1 ++ [(cutF c l).2]
theorem stepC_hit (c : UInt8) (st : List (List UInt8) × List UInt8) : stepC c st c = (st.1 ++ [st.2], []) := if_pos rfl
theorem stepC_miss {c x : UInt8} (h : ¬ x = c) (st : List (List UInt8) × List UInt8) : stepC c st x = (st.1, st.2 ++ [x]) := if_neg h
theorem fold_free {c : UInt8} : ∀ (a : List UInt8), c ∉ a → ∀ d p, a.foldl (stepC c) (d, p) = (d, p ++ a)
  | [], _, d, p => by simp
  | x :: a, h, d, p => by
    have hx : ¬ x = c := fun e => h (by simp [e])
    rw [List.foldl_cons, stepC_miss hx, fold_free a (fun e => h (List.mem_cons_of_mem _ e)), List.append_assoc]
    rfl
theorem fold_front (c : UInt8) : ∀ (l : List UInt8) (d : List (List UInt8)) (p : List UInt8), l.foldl (stepC c) (d, p) = (d ++ (l.foldl (stepC c) ([], p)).1, (l.foldl (stepC c) ([], p)).2)
  | [], d, p => by simp
  | x :: l, d, p => by
    by_cases e : x = c
    · subst e
      rw [List.foldl_cons, List.foldl_cons, stepC_hit, stepC_hit, fold_front x l (d ++ [p]) [], fold_front x l ([] ++ [p]) []]
      simp
    · rw [List.foldl_cons, List.foldl_cons, stepC_miss e, stepC_miss e]
      exact fold_front c l d (p ++ [x])
theorem cutP_free {c : UInt8} {a : List UInt8} (h : c ∉ a) : cutP c a = [a] := by
  unfold cutP cutF
  rw [fold_free a h]
  simp
theorem cutP_hit {c : UInt8} {a : List UInt8} (h : c ∉ a) (l : List UInt8) : cutP c (a ++ c :: l) = a :: cutP c l := by
  unfold cutP cutF
  rw [List.foldl_append, fold_free a h, List.foldl_cons, stepC_hit, fold_front c l ([] ++ [[] ++ a]) []]
  simp
theorem cutF_snoc (c : UInt8) (l : List UInt8) (x : UInt8) : cutF c (l ++ [x]) = stepC c (cutF c l) x := by simp [cutF, List.foldl_append]
theorem cutP_ne (c : UInt8) (l : List UInt8) : 1 ≤ (cutP c l).length := by simp [cutP]
theorem cutF_size (c : UInt8) (l : List UInt8) : (cutF c l).1.length ≤ l.length ∧ (cutF c l).2.length ≤ l.length := by
  have key : ∀ (l : List UInt8) (d : List (List UInt8)) (p : List UInt8), (l.foldl (stepC c) (d, p)).1.length ≤ d.length + l.length ∧ (l.foldl (stepC c) (d, p)).2.length ≤ p.length + l.length := by
    intro l
    induction l with
    | nil => intro d p; simp
    | cons x l ih =>
      intro d p
      rw [List.foldl_cons]
      by_cases e : x = c
      · subst e
        rw [stepC_hit]
        have := ih (d ++ [p]) []
        simp only [List.length_append, List.length_cons, List.length_nil] at this ⊢
        omega
      · rw [stepC_miss e]
        have := ih d (p ++ [x])
        simp only [List.length_append, List.length_cons, List.length_nil] at this ⊢
        omega
  have := key l [] []
  simpa [cutF] using this
/-- Each piece is no longer than the text. -/
theorem cutP_piece (c : UInt8) (l : List UInt8) : ∀ p ∈ cutP c l, p.length ≤ l.length := by
  have key : ∀ (l : List UInt8) (d : List (List UInt8)) (p : List UInt8) (n : Nat), (∀ q ∈ d, q.length ≤ n) → p.length + l.length ≤ n → (∀ q ∈ (l.foldl (stepC c) (d, p)).1, q.length ≤ n) ∧ (l.foldl (stepC c) (d, p)).2.length ≤ n := by
    intro l
    induction l with
    | nil => intro d p n h1 h2; exact ⟨h1, by simpa using h2⟩
    | cons x l ih =>
      intro d p n h1 h2
      rw [List.length_cons] at h2
      rw [List.foldl_cons]
      by_cases e : x = c
      · subst e
        rw [stepC_hit]
        refine ih _ _ n (fun q hq => ?_) (by show ([] : List UInt8).length + l.length ≤ n; simp only [List.length_nil]; omega)
        rcases List.mem_append.1 hq with h | h
        · exact h1 q h
        · rw [List.mem_singleton.1 h]; show p.length ≤ n; omega
      · rw [stepC_miss e]
        exact ih _ _ n h1 (by simp; omega)
  intro p hp
  have := key l [] [] l.length (fun q hq => (by cases hq)) (by simp)
  rcases List.mem_append.1 hp with h | h
  · exact this.1 p h
  · rw [List.mem_singleton.1 h]; exact this.2
theorem index_at {c : UInt8} : ∀ (a : List UInt8), c ∉ a → ∀ l, Lib.index (a ++ c :: l) [c] = (a.length : Int)
  | [], _, l => by simp [Lib.index, List.isPrefixOf]
  | x :: a, h, l => by
    have hx : ¬ c = x := fun e => h (by simp [e])
    have hp : ([c] : List UInt8).isPrefixOf (x :: (a ++ c :: l)) = false := by simp [List.isPrefixOf, hx]
    have ih := index_at a (fun e => h (List.mem_cons_of_mem _ e)) l
    rw [List.cons_append, Lib.index, hp, ih]
    have : ¬ ((a.length : Int) == -1) = true := by simp
    simp [this]
theorem index_free {c : UInt8} : ∀ (a : List UInt8), c ∉ a → Lib.index a [c] = -1
  | [], _ => by simp [Lib.index]
  | x :: a, h => by
    have hx : ¬ c = x := fun e => h (by simp [e])
    have hp : ([c] : List UInt8).isPrefixOf (x :: a) = false := by simp [List.isPrefixOf, hx]
    rw [Lib.index, hp, index_free a (fun e => h (List.mem_cons_of_mem _ e))]
    simp
theorem cut_at {c : UInt8} {a : List UInt8} (h : c ∉ a) (l : List UInt8) : Lib.cut (a ++ c :: l) [c] = (a, l, true) := by
  unfold Lib.cut
  rw [index_at a h l, if_pos (by omega)]
  simp
/-- What the library splits a text into are its pieces. -/
theorem split_cut (c : UInt8) : ∀ (n : Nat) (l : List UInt8), l.length ≤ n → Lib.splitK [c] 0 (Lib.count l [c]) l = cutP c l := by
  intro n
  induction n with
  | zero =>
    intro l hl
    obtain rfl : l = [] := List.eq_nil_of_length_eq_zero (by omega)
    rw [Lib.count_miss (index_free [] (by simp)), cutP_free (by simp)]
    rfl
  | succ n ih =>
    intro l hl
    by_cases h : c ∈ l
    · obtain ⟨a, r, rfl, ha⟩ := List.eq_append_cons_of_mem h
      rw [Lib.count_hit (by simp) (index_at a ha r), Nat.add_comm 1]
      have hm : ¬ ((a.length : Int) == -1) = true := by simp
      have hd : (a ++ c :: r).drop (a.length + 1) = r := by simp
      rw [Lib.splitK, index_at a ha r, if_neg hm, Int.toNat_natCast, List.length_singleton, hd, cutP_hit ha, ih r (by simp at hl; omega)]
      simp
    · rw [Lib.count_miss (index_free l h), cutP_free h]
      rfl
/-- A state and its term. -/
def pieceT (r : List Int) (o : Int) : List UInt8 := r.map hexU ++ 47 :: (itoaS o).data.toList
def lettersL (l : List UInt8) : List Int := l.map fun x => hexv (x.toNat : Int)
theorem hexU_all : ∀ n : Fin 16, hexU (n.val : Int) ≠ 32 ∧ hexU (n.val : Int) ≠ 47 ∧ hexv ((hexU (n.val : Int)).toNat : Int) = n.val := by decide +kernel
theorem digit_all : ∀ n : Fin 10, UInt8.ofNat (48 + n.val) ≠ 32 ∧ UInt8.ofNat (48 + n.val) ≠ 47 ∧ UInt8.ofNat (48 + n.val) ≠ 58 ∧ hexv ((UInt8.ofNat (48 + n.val)).toNat : Int) = n.val := by decide +kernel
theorem hexU_facts {x : Int} (h : 0 ≤ x ∧ x < 16) : hexU x ≠ 32 ∧ hexU x ≠ 47 ∧ hexv ((hexU x).toNat : Int) = x := by
  obtain ⟨n, rfl⟩ := Int.eq_ofNat_of_zero_le h.1
  exact hexU_all ⟨n, by have := h.2; omega⟩
theorem itoa_data (n : Nat) (h : n < 10) : (itoaS (n : Int)).data.toList = [UInt8.ofNat (48 + n)] := by
  rw [itoaS_nonneg, ds_small n h]
  have : (48 + (n : Int)).toNat = 48 + n := by omega
  simp [strOfNums, this]
theorem hex_free {r : List Int} (h : ∀ x ∈ r, 0 ≤ x ∧ x < 16) : (32 : UInt8) ∉ r.map hexU ∧ (47 : UInt8) ∉ r.map hexU := by
  refine ⟨fun e => ?_, fun e => ?_⟩
  · obtain ⟨x, hx, he⟩ := List.mem_map.1 e
    exact (hexU_facts (h x hx)).1 he
  · obtain ⟨x, hx, he⟩ := List.mem_map.1 e
    exact (hexU_facts (h x hx)).2.1 he
theorem letters_hex : ∀ {r : List Int}, (∀ x ∈ r, 0 ≤ x ∧ x < 16) → lettersL (r.map hexU) = r
  | [], _ => rfl
  | x :: r, h => by
    have h1 := (hexU_facts (h x (List.mem_cons_self ..))).2.2
    have ih := letters_hex fun y hy => h y (List.mem_cons_of_mem _ hy)
    show hexv ((hexU x).toNat : Int) :: lettersL (r.map hexU) = _
    rw [h1, ih]
theorem piece_free {r : List Int} {o : Int} (h : ∀ x ∈ r, 0 ≤ x ∧ x < 16) (ho : 0 ≤ o ∧ o < 10) : (32 : UInt8) ∉ pieceT r o := by
  obtain ⟨n, rfl⟩ := Int.eq_ofNat_of_zero_le ho.1
  have hn : n < 10 := by have := ho.2; omega
  unfold pieceT
  rw [itoa_data n hn]
  have h1 := digit_all ⟨n, hn⟩
  simp only [List.mem_append, List.mem_cons, List.not_mem_nil, or_false, not_or]
  exact ⟨(hex_free h).1, by decide, fun e => h1.1 e.symm⟩
theorem piece_cut {r : List Int} {o : Int} (h : ∀ x ∈ r, 0 ≤ x ∧ x < 16) (ho : 0 ≤ o ∧ o < 10) : cutP 47 (pieceT r o) = [r.map hexU, (itoaS o).data.toList] := by
  obtain ⟨n, rfl⟩ := Int.eq_ofNat_of_zero_le ho.1
  have hn : n < 10 := by have := ho.2; omega
  have h1 := digit_all ⟨n, hn⟩
  unfold pieceT
  rw [cutP_hit (hex_free h).2, itoa_data n hn, cutP_free (by rw [List.mem_singleton]; exact fun e => h1.2.1 e.symm)]
/-- What the model reads in a piece, and in a text. -/
def rowP (p : List UInt8) : List Int := lettersL ((cutP 47 p).getD 0 [])
def outP (p : List UInt8) : Int := hexv ((((cutP 47 p).getD 1 []).getD 0 0).toNat : Int)
def okP (p : List UInt8) : Prop := (cutP 47 p).length = 2 ∧ ((cutP 47 p).getD 1 []).length = 1
def parB (l : List UInt8) : Int := hexv ((((cutP 32 l).getD 0 []).getD 0 0).toNat : Int)
def parR (l : List UInt8) : List (List Int) := (cutP 32 l).tail.map rowP
def parO (l : List UInt8) : List Int := (cutP 32 l).tail.map outP
def okL (l : List UInt8) : Prop := ((cutP 32 l).getD 0 []).length = 2 ∧ ∀ p ∈ (cutP 32 l).tail, okP p
/-- Whether the text is that of a sequence. -/
def parK (l : List UInt8) : Bool := decide (l ≠ [] ∧ fmtV (parB l) (parR l) (parO l) = ⟨l.toArray⟩)
theorem cut_body : ∀ (ps : List (List Int × Int)) (hd : List UInt8), (32 : UInt8) ∉ hd → (∀ p ∈ ps, (32 : UInt8) ∉ pieceT p.1 p.2) → cutP 32 (hd ++ ps.flatMap fun p => rowT p.1 p.2) = hd :: ps.map fun p => pieceT p.1 p.2
  | [], hd, h, _ => by simp [cutP_free h]
  | p :: ps, hd, h, hp => by
    have e : (hd ++ (p :: ps).flatMap fun p => rowT p.1 p.2) = hd ++ 32 :: (pieceT p.1 p.2 ++ ps.flatMap fun p => rowT p.1 p.2) := by simp [rowT, pieceT]
    rw [e, cutP_hit h, cut_body ps _ (hp p (List.mem_cons_self ..)) fun q hq => hp q (List.mem_cons_of_mem _ hq)]
    rfl
theorem zip_rows {b : Int} {rows : List (List Int)} {out : List Int} (h : IsSeq b rows out) : ∀ p ∈ rows.zip out, (∀ x ∈ p.1, 0 ≤ x ∧ x < 16) ∧ 0 ≤ p.2 ∧ p.2 < 10 := by
  intro p hp
  obtain ⟨i, hi⟩ := List.mem_iff_getElem?.1 hp
  obtain ⟨h1, h2⟩ := List.getElem?_zip_eq_some.1 hi
  have h3 := h.rowOK h1 h2
  have h4 := h.2.2.2.1
  refine ⟨fun x hx => ?_, h3.2.2.1, by have := h3.2.2.2; omega⟩
  have := h3.2.1 x hx
  omega
theorem zip_maps : ∀ (rows : List (List Int)) (out : List Int), rows.length = out.length → (rows.zip out).map (·.1) = rows ∧ (rows.zip out).map (·.2) = out
  | [], [], _ => ⟨rfl, rfl⟩
  | [], _ :: _, h => by simp at h
  | _ :: _, [], h => by simp at h
  | r :: rows, o :: out, h => by
    have ih := zip_maps rows out (by simpa using h)
    exact ⟨by simp [ih.1], by simp [ih.2]⟩
theorem body_all (rows : List (List Int)) (out : List Int) : bodyT rows out rows.length = (rows.zip out).flatMap fun p => rowT p.1 p.2 := by
  unfold bodyT
  rw [List.take_of_length_le (by rw [List.length_zip]; omega)]
/-- The text of a sequence, taken apart. -/
theorem fmt_cut {b : Int} {rows : List (List Int)} {out : List Int} (h : IsSeq b rows out) : cutP 32 (fmtT b rows out rows.length) = ((itoaS b).data.toList ++ [58]) :: (rows.zip out).map fun p => pieceT p.1 p.2 := by
  have h1 := h.1
  have h2 := h.2.1
  obtain ⟨n, rfl⟩ := Int.eq_ofNat_of_zero_le (show 0 ≤ b by omega)
  have hn : n < 10 := by omega
  have hd := digit_all ⟨n, hn⟩
  rw [← cut_body _ ((itoaS (n : Int)).data.toList ++ [58]) (by
    rw [itoa_data n hn]
    simp only [List.mem_append, List.mem_cons, List.not_mem_nil, or_false, not_or]
    exact ⟨fun e => hd.1 e.symm, by decide⟩) fun p hp => piece_free (zip_rows h p hp).1 (zip_rows h p hp).2, fmtT, body_all]
  simp
theorem row_piece {r : List Int} {o : Int} (h : ∀ x ∈ r, 0 ≤ x ∧ x < 16) (ho : 0 ≤ o ∧ o < 10) : rowP (pieceT r o) = r ∧ outP (pieceT r o) = o ∧ okP (pieceT r o) := by
  obtain ⟨n, rfl⟩ := Int.eq_ofNat_of_zero_le ho.1
  have hn : n < 10 := by have := ho.2; omega
  have hd := digit_all ⟨n, hn⟩
  unfold rowP outP okP
  rw [piece_cut h ho, itoa_data n hn]
  exact ⟨letters_hex h, hd.2.2.2, rfl, rfl⟩
/-- The text of a sequence gives it back. -/
theorem par_fmt {b : Int} {rows : List (List Int)} {out : List Int} (h : seqB b rows out = true) {l : List UInt8} (hl : l = fmtT b rows out rows.length) : okL l ∧ parB l = b ∧ parR l = rows ∧ parO l = out := by
  have hs := seqB_out h
  have h1 := hs.1
  have h2 := hs.2.1
  obtain ⟨n, rfl⟩ := Int.eq_ofNat_of_zero_le (show 0 ≤ b by omega)
  have hn : n < 10 := by omega
  have hd := digit_all ⟨n, hn⟩
  have hz := zip_rows hs
  have hm := zip_maps rows out (by have := hs.2.2.2.2.1; omega)
  unfold okL parB parR parO
  rw [hl, fmt_cut hs, itoa_data n hn]
  refine ⟨⟨rfl, fun p hp => ?_⟩, hd.2.2.2, ?_, ?_⟩
  · obtain ⟨q, hq, rfl⟩ := List.mem_map.1 hp
    exact (row_piece (hz q hq).1 (hz q hq).2).2.2
  · rw [List.tail_cons, List.map_map]
    conv => rhs; rw [← hm.1]
    exact List.map_congr_left fun q hq => (row_piece (hz q hq).1 (hz q hq).2).1
  · rw [List.tail_cons, List.map_map]
    conv => rhs; rw [← hm.2]
    exact List.map_congr_left fun q hq => (row_piece (hz q hq).1 (hz q hq).2).2.1
theorem fmt_ne (b : Int) (rows : List (List Int)) (out : List Int) (n : Nat) : fmtT b rows out n ≠ [] := by simp [fmtT]
/-- Where what was read has the text itself as its text, it is a sequence with that text. -/
theorem fmtV_back {b : Int} {rows : List (List Int)} {out : List Int} {l : List UInt8} (h0 : l ≠ []) (h : fmtV b rows out = ⟨l.toArray⟩) : seqB b rows out = true ∧ l = fmtT b rows out rows.length := by
  unfold fmtV at h
  by_cases hq : seqB b rows out = true
  · rw [if_pos hq] at h
    refine ⟨hq, ?_⟩
    have := congrArg (fun s : ByteArray => s.data.toList) h
    simpa using this.symm
  · rw [if_neg hq] at h
    have := congrArg (fun s : ByteArray => s.data.toList) h
    simp at this
    exact absurd this h0
theorem parK_yes {b : Int} {rows : List (List Int)} {out : List Int} {l : List UInt8} (h0 : l ≠ []) (h : fmtV b rows out = ⟨l.toArray⟩) : parK l = true ∧ parB l = b ∧ parR l = rows ∧ parO l = out := by
  obtain ⟨h1, h2⟩ := fmtV_back h0 h
  obtain ⟨_, h3, h4, h5⟩ := par_fmt h1 h2
  exact ⟨decide_eq_true ⟨h0, by rw [h3, h4, h5]; exact h⟩, h3, h4, h5⟩
theorem parK_fmt {l : List UInt8} (h : parK l = true) : l ≠ [] ∧ ∃ b rows out, seqB b rows out = true ∧ l = fmtT b rows out rows.length ∧ parB l = b ∧ parR l = rows ∧ parO l = out := by
  obtain ⟨h0, h1⟩ := of_decide_eq_true h
  obtain ⟨h2, h3⟩ := fmtV_back h0 h1
  exact ⟨h0, _, _, _, h2, h3, rfl, rfl, rfl⟩
/-- A text that cannot be taken apart is none of a sequence. -/
theorem parK_no {l : List UInt8} (h : ¬ okL l) : parK l = false := by
  cases hk : parK l with
  | false => rfl
  | true =>
    obtain ⟨_, b, rows, out, h1, h2, _⟩ := parK_fmt hk
    exact absurd (par_fmt h1 h2).1 h
def parVB (l : List UInt8) : Int := if parK l = true then parB l else 0
def parVR (l : List UInt8) : List (List Int) := if parK l = true then parR l else []
def parVO (l : List UInt8) : List Int := if parK l = true then parO l else []
theorem par_yes {l : List UInt8} (h : parK l = true) : parVB l = parB l ∧ parVR l = parR l ∧ parVO l = parO l := ⟨if_pos h, if_pos h, if_pos h⟩
theorem par_no {l : List UInt8} (h : parK l = false) : parVB l = 0 ∧ parVR l = [] ∧ parVO l = [] := by simp [parVB, parVR, parVO, h]
/-- A text of a sequence is short. -/
theorem parK_len {l : List UInt8} (h : parK l = true) : l.length ≤ 114 := by
  obtain ⟨_, b, rows, out, h1, h2, _⟩ := parK_fmt h
  have hs := seqB_out h1
  have key : ∀ i : Nat, i ≤ rows.length → (fmtT b rows out i).length ≤ 2 + 7 * i := by
    intro i
    induction i with
    | zero =>
      intro _
      rw [fmtT_zero, List.length_append, itoa_one b (by have := hs.1; omega) (by have := hs.2.1; omega)]
      simp
    | succ i ih =>
      intro hi
      have ih := ih (by omega)
      obtain ⟨r, hr⟩ : ∃ r, rows[i]? = some r := ⟨_, List.getElem?_eq_getElem (by omega)⟩
      obtain ⟨o, ho⟩ : ∃ o, out[i]? = some o := ⟨_, List.getElem?_eq_getElem (by have := hs.2.2.2.2.1; omega)⟩
      have hrow := hs.rowOK hr ho
      have h1 := hrow.1
      have h2 := itoa_one o hrow.2.2.1 (by have := hrow.2.2.2; omega)
      have h3 := hs.2.1
      rw [fmtT_succ b rows out i r o hr ho, List.length_append, rowT, List.length_cons, List.length_append, List.length_cons, List.length_map, h2]
      omega
  have := key rows.length (Nat.le_refl _)
  have := hs.2.2.2.1
  rw [h2]
  omega
/-- The program's way: the text cut at the colon. -/
theorem fmt_head {b : Int} {rows : List (List Int)} {out : List Int} (h : IsSeq b rows out) : ∃ rest, Lib.cut (fmtT b rows out rows.length) [58, 32] = ((itoaS b).data.toList, rest, true) ∧ cutP 32 rest = (rows.zip out).map fun p => pieceT p.1 p.2 := by
  have h1 := h.1
  have h2 := h.2.1
  have h3 := h.2.2.1
  have h5 := h.2.2.2.2.1
  obtain ⟨n, rfl⟩ := Int.eq_ofNat_of_zero_le (show 0 ≤ b by omega)
  have hn : n < 10 := by omega
  have hz := zip_rows h
  rw [fmtT, body_all]
  cases hzz : rows.zip out with
  | nil =>
    have h6 := congrArg List.length hzz
    rw [List.length_zip, List.length_nil] at h6
    omega
  | cons p ps =>
    rw [hzz] at hz
    refine ⟨pieceT p.1 p.2 ++ ps.flatMap fun p => rowT p.1 p.2, ?_, ?_⟩
    · have e : ((itoaS (n : Int)).data.toList ++ 58 :: (p :: ps).flatMap fun p => rowT p.1 p.2) = UInt8.ofNat (48 + n) :: 58 :: 32 :: (pieceT p.1 p.2 ++ ps.flatMap fun p => rowT p.1 p.2) := by
        rw [itoa_data n hn]
        simp [rowT, pieceT]
      have hi : Lib.index (UInt8.ofNat (48 + n) :: 58 :: 32 :: (pieceT p.1 p.2 ++ ps.flatMap fun p => rowT p.1 p.2)) [58, 32] = 1 := by
        rw [Lib.index, show List.isPrefixOf [58, 32] (UInt8.ofNat (48 + n) :: 58 :: 32 :: (pieceT p.1 p.2 ++ ps.flatMap fun p => rowT p.1 p.2)) = false by simp [List.isPrefixOf]]
        rw [Lib.index, show List.isPrefixOf [58, 32] (58 :: 32 :: (pieceT p.1 p.2 ++ ps.flatMap fun p => rowT p.1 p.2)) = true by simp [List.isPrefixOf]]
        rfl
      rw [e]
      unfold Lib.cut
      rw [hi, if_pos (by omega), itoa_data n hn]
      simp
    · rw [cut_body ps _ (piece_free (hz p (List.mem_cons_self ..)).1 (hz p (List.mem_cons_self ..)).2) fun q hq => piece_free (hz q (List.mem_cons_of_mem _ hq)).1 (hz q (List.mem_cons_of_mem _ hq)).2]
      rfl
theorem piece_head {r : List Int} {o : Int} (h : ∀ x ∈ r, 0 ≤ x ∧ x < 16) : Lib.cut (pieceT r o) [47] = (r.map hexU, (itoaS o).data.toList, true) := cut_at (hex_free h).2 _
end Go.Proofs.YtbebifnnnmgihabDoor.Plain
