/- Plain facts on the reading of a decimal numeral: the number that the digits of a text make, read byte by byte or rune by rune, and when a text is the numeral of a number of at most nine digits. No conditions beyond those that each fact states. -/
import Derived.Test.YtbebifnnnmgihabDoorIntVal
import Derived.Lib.DecodeN
import Derived.Lib.TrimU
import Derived.Laws.RangeString
namespace Go.Proofs.YtbebifnnnmgihabDoor.Plain
open Go.PlainAid

def isDig (b : Int) : Prop := 48 ≤ b ∧ b ≤ 57
instance (b : Int) : Decidable (isDig b) := by unfold isDig; infer_instance
/-- The number that a list of digits makes; the same where other letters are passed over; how many digits there are. -/
def lv (l : List Int) : Int := l.foldl (fun a b => a * 10 + (b - 48)) 0
def pnl (l : List Int) : Int := l.foldl (fun a b => if isDig b then a * 10 + (b - 48) else a) 0
def pkl (l : List Int) : Nat := l.foldl (fun a b => if isDig b then a + 1 else a) 0
theorem lv_snoc (l : List Int) (x : Int) : lv (l ++ [x]) = lv l * 10 + (x - 48) := by simp [lv]
theorem pnl_snoc (l : List Int) (x : Int) : pnl (l ++ [x]) = if isDig x then pnl l * 10 + (x - 48) else pnl l := by simp [pnl]
theorem pkl_snoc (l : List Int) (x : Int) : pkl (l ++ [x]) = if isDig x then pkl l + 1 else pkl l := by simp [pkl]
theorem pnl_yes {l : List Int} {x : Int} (h : isDig x) : pnl (l ++ [x]) = pnl l * 10 + (x - 48) := by rw [pnl_snoc, if_pos h]
theorem pnl_no {l : List Int} {x : Int} (h : ¬ isDig x) : pnl (l ++ [x]) = pnl l := by rw [pnl_snoc, if_neg h]
theorem pkl_yes {l : List Int} {x : Int} (h : isDig x) : pkl (l ++ [x]) = pkl l + 1 := by rw [pkl_snoc, if_pos h]
theorem pkl_no {l : List Int} {x : Int} (h : ¬ isDig x) : pkl (l ++ [x]) = pkl l := by rw [pkl_snoc, if_neg h]
def AllDig (l : List Int) : Prop := ∀ x ∈ l, isDig x
theorem pnl_dig (l : List Int) (h : AllDig l) : pnl l = lv l := by
  have key : ∀ (l : List Int) (a : Int), AllDig l → l.foldl (fun a b => if isDig b then a * 10 + (b - 48) else a) a = l.foldl (fun a b => a * 10 + (b - 48)) a := by
    intro l
    induction l with
    | nil => intro a _; rfl
    | cons x l ih =>
      intro a h
      simp only [List.foldl_cons]
      rw [if_pos (h x (by simp))]
      exact ih _ (fun y hy => h y (by simp [hy]))
  exact key l 0 h
theorem pkl_dig (l : List Int) (h : AllDig l) : pkl l = l.length := by
  have key : ∀ (l : List Int) (a : Nat), AllDig l → l.foldl (fun a b => if isDig b then a + 1 else a) a = a + l.length := by
    intro l
    induction l with
    | nil => intro a _; rfl
    | cons x l ih =>
      intro a h
      simp only [List.foldl_cons]
      rw [if_pos (h x (by simp)), ih _ (fun y hy => h y (by simp [hy]))]
      simp; omega
  have := key l 0 h
  simpa [pkl] using this
theorem pnl_minus (l : List Int) : pnl (45 :: l) = pnl l := by
  unfold pnl; rw [List.foldl_cons, if_neg (by unfold isDig; omega)]
theorem pkl_minus (l : List Int) : pkl (45 :: l) = pkl l := by
  unfold pkl; rw [List.foldl_cons, if_neg (by unfold isDig; omega)]
theorem ds_dig : ∀ (k u : Nat), u ≤ k → AllDig (ds u)
  | k, u, hk => by
    by_cases h : u < 10
    · rw [ds_small u h]
      intro x hx
      simp at hx
      unfold isDig
      omega
    · rw [ds_big u h]
      intro x hx
      simp only [List.mem_append, List.mem_singleton] at hx
      rcases hx with hx | hx
      · match k, hk with
        | k + 1, hk => exact ds_dig k (u / 10) (by omega) x hx
        | 0, hk => omega
      · unfold isDig; omega
theorem lv_ds : ∀ (k u : Nat), u ≤ k → lv (ds u) = u
  | k, u, hk => by
    by_cases h : u < 10
    · rw [ds_small u h]; simp [lv]; omega
    · rw [ds_big u h, lv_snoc]
      match k, hk with
      | k + 1, hk => rw [lv_ds k (u / 10) (by omega)]; omega
      | 0, hk => omega
theorem ds_len_ge : ∀ (k u : Nat), 10 ^ k ≤ u → k + 1 ≤ (ds u).length
  | 0, u, _ => by
    by_cases h : u < 10
    · rw [ds_small u h]; simp
    · rw [ds_big u h]; simp
  | k + 1, u, h => by
    have hp : 1 ≤ 10 ^ k := Nat.one_le_pow _ _ (by decide)
    rw [Nat.pow_succ] at h
    rw [ds_big u (by omega)]
    have := ds_len_ge k (u / 10) (by omega)
    simp
    omega
theorem ds_nine {u : Nat} (h : (ds u).length ≤ 9) : u ≤ 999999999 := by
  rcases Nat.lt_or_ge u (10 ^ 9) with h1 | h1
  · have : (10 : Nat) ^ 9 = 1000000000 := by decide
    omega
  · have := ds_len_ge 9 u h1
    omega
theorem ds_len9 (u : Nat) (h : u ≤ 999999999) : 1 ≤ (ds u).length ∧ (ds u).length ≤ 9 :=
  ds_length 8 u (by have : (10 : Nat) ^ (8 + 1) = 1000000000 := by decide
                    omega)
theorem dig_bytes {l : List Int} (h : AllDig l) : AreBytes l := fun x hx => by have := h x hx; unfold isDig at this; omega
theorem pow10_le (k : Nat) (h : k ≤ 11) : (10 : Int) ^ k ≤ 100000000000 := by
  have h1 : (10 : Nat) ^ k ≤ 10 ^ 11 := Nat.pow_le_pow_right (by decide) h
  have h2 : ((10 ^ k : Nat) : Int) = (10 : Int) ^ k := by simp
  omega
theorem pnl_bd : ∀ (l : List Int) (k : Nat), l.length = k → 0 ≤ pnl l ∧ pnl l < 10 ^ k ∧ pkl l ≤ k := by
  intro l k
  induction k generalizing l with
  | zero => intro h; rw [List.eq_nil_of_length_eq_zero h]; simp [pnl, pkl]
  | succ k ih =>
    intro h
    obtain ⟨l', x, rfl⟩ : ∃ l' x, l = l' ++ [x] := ⟨l.dropLast, l.getLast (by intro e; rw [e] at h; simp at h), (List.dropLast_concat_getLast _).symm⟩
    have := ih l' (by simpa using h)
    rw [pnl_snoc, pkl_snoc, Int.pow_succ]
    by_cases hd : isDig x
    · rw [if_pos hd, if_pos hd]; unfold isDig at hd; omega
    · rw [if_neg hd, if_neg hd]; omega

/-- The bytes of a string made of a list of bytes. -/
theorem seg_of (L : List Int) (h : AreBytes L) : bseg (strOfNums L) 0 (strOfNums L).size = L := by
  have := seg_all (strOfNums L)
  refine bytesOf_inj _ _ (bseg_bytes _ _ _) h ?_
  have e : (strOfNums (bseg (strOfNums L) 0 (strOfNums L).size)).data.toList = (strOfNums L).data.toList := by rw [← this]
  exact e
theorem seg_head (s : ByteArray) (k : Nat) : bseg s 0 (k + 1) = bt s 0 :: bseg s 1 k := rfl

/-- What the model reads: the number, its sign, how many digits. -/
def sn (s : ByteArray) : Int := if 0 < s.size ∧ bt s 0 = 45 then -pnl (bseg s 0 (min s.size 11)) else pnl (bseg s 0 (min s.size 11))
def sk (s : ByteArray) : Nat := pkl (bseg s 0 (min s.size 11))
def SpecGood (s : ByteArray) : Prop := sk s ≤ 9 ∧ s.size ≤ 10 ∧ itoaS (sn s) = s
/-- What the program reads: the text behind a minus sign, its runes. -/
def body (s : ByteArray) : ByteArray := if 0 < s.size ∧ bt s 0 = 45 then s.extract 1 s.size else s
def rv (d : ByteArray) : Nat → Nat → Int → Int
  | 0, _, acc => acc
  | f + 1, pos, acc => if pos < d.size then rv d f (pos + (Utf8.decode d pos).2) (acc * 10 + (((Utf8.decode d pos).1 : Int) - 48)) else acc
def vn (s : ByteArray) : Int := if 0 < s.size ∧ bt s 0 = 45 then -rv (body s) (body s).size 0 0 else rv (body s) (body s).size 0 0
def ImplGood (s : ByteArray) : Prop := (body s).size ≤ 9 ∧ itoaS (vn s) = s
/-- s is the numeral of n, which has at most nine digits. -/
def IsNum (s : ByteArray) (n : Int) : Prop := -999999999 ≤ n ∧ n ≤ 999999999 ∧ s = itoaS n

theorem rv_dig (d : ByteArray) : ∀ (k pos : Nat) (acc : Int), pos + k = d.size → AllDig (bseg d pos k) → rv d k pos acc = (bseg d pos k).foldl (fun a b => a * 10 + (b - 48)) acc
  | 0, _, _, _, _ => rfl
  | k + 1, pos, acc, h, hd => by
    have hb : isDig (bt d pos) := hd _ (by simp [bseg])
    have hlt : pos < d.size := by omega
    have e : bt d pos = ((d[pos]'hlt).toNat : Int) := by unfold bt; rw [dif_pos hlt]
    have hdec : Utf8.decode d pos = ((d[pos]'hlt).toNat, 1) := decode_ascii d pos hlt (by unfold isDig at hb; omega)
    rw [rv, if_pos hlt, hdec]
    simp only [bseg, List.foldl_cons]
    rw [rv_dig d k (pos + 1) _ (by omega) (fun x hx => hd x (by simp [bseg, hx])), e]
theorem size_nums (L : List Int) : (strOfNums L).size = L.length := strOfNums_size L
theorem bt_head (x : Int) (L : List Int) (h : AreBytes (x :: L)) : bt (strOfNums (x :: L)) 0 = x := by
  have := seg_of (x :: L) h
  rw [size_nums] at this
  simp only [List.length_cons, bseg, List.cons.injEq] at this
  exact this.1
theorem tail_nums (x : Int) (L : List Int) (h : AreBytes (x :: L)) : (strOfNums (x :: L)).extract 1 (strOfNums (x :: L)).size = strOfNums L := by
  have e := seg_of (x :: L) h
  rw [size_nums] at e
  simp only [List.length_cons, bseg, List.cons.injEq] at e
  have := seg_extract (strOfNums (x :: L)) 1 L.length (by rw [size_nums]; simp; omega)
  rw [size_nums, List.length_cons, Nat.add_comm L.length 1, this, show 1 = 0 + 1 from rfl, e.2]
theorem isNum_pos (u : Nat) (h : u ≤ 999999999) : SpecGood (strOfNums (ds u)) ∧ sn (strOfNums (ds u)) = u ∧ ImplGood (strOfNums (ds u)) ∧ vn (strOfNums (ds u)) = u := by
  have hd := ds_dig u u (Nat.le_refl _)
  have hl := ds_len9 u h
  have hb := dig_bytes hd
  have hseg := seg_of (ds u) hb
  have hne : ¬ (0 < (strOfNums (ds u)).size ∧ bt (strOfNums (ds u)) 0 = 45) := by
    rintro ⟨h1, h2⟩
    obtain ⟨x, L, e⟩ : ∃ x L, ds u = x :: L := List.exists_cons_of_length_pos (by omega)
    have h3 := hd x (by rw [e]; simp)
    rw [e] at h2 hb
    rw [bt_head x L hb] at h2
    unfold isDig at h3
    omega
  have hm : min (strOfNums (ds u)).size 11 = (strOfNums (ds u)).size := by rw [size_nums]; omega
  have hbody : body (strOfNums (ds u)) = strOfNums (ds u) := by unfold body; rw [if_neg hne]
  have hsn : sn (strOfNums (ds u)) = u := by unfold sn; rw [if_neg hne, hm, hseg, pnl_dig _ hd, lv_ds u u (Nat.le_refl _)]
  have hsk : sk (strOfNums (ds u)) = (ds u).length := by unfold sk; rw [hm, hseg, pkl_dig _ hd]
  have hvn : vn (strOfNums (ds u)) = u := by
    unfold vn
    rw [if_neg hne, hbody, rv_dig _ _ 0 0 (by omega) (by rw [hseg]; exact hd), hseg]
    exact lv_ds u u (Nat.le_refl _)
  exact ⟨⟨by omega, by rw [size_nums]; omega, by rw [hsn, itoaS_nonneg]⟩, hsn, ⟨by rw [hbody, size_nums]; omega, by rw [hvn, itoaS_nonneg]⟩, hvn⟩
theorem isNum_neg (u : Nat) (h0 : 1 ≤ u) (h : u ≤ 999999999) : SpecGood (strOfNums (45 :: ds u)) ∧ sn (strOfNums (45 :: ds u)) = -(u : Int) ∧ ImplGood (strOfNums (45 :: ds u)) ∧ vn (strOfNums (45 :: ds u)) = -(u : Int) := by
  have hd := ds_dig u u (Nat.le_refl _)
  have hl := ds_len9 u h
  have hb := dig_bytes hd
  have hb2 : AreBytes (45 :: ds u) := fun x hx => by
    simp only [List.mem_cons] at hx
    rcases hx with rfl | hx
    · omega
    · exact hb x hx
  have hseg := seg_of (ds u) hb
  have hseg2 := seg_of (45 :: ds u) hb2
  have hsz : (strOfNums (45 :: ds u)).size = (ds u).length + 1 := by rw [size_nums]; simp
  have hyes : 0 < (strOfNums (45 :: ds u)).size ∧ bt (strOfNums (45 :: ds u)) 0 = 45 := ⟨by omega, bt_head _ _ hb2⟩
  have hm : min (strOfNums (45 :: ds u)).size 11 = (strOfNums (45 :: ds u)).size := by omega
  have hbody : body (strOfNums (45 :: ds u)) = strOfNums (ds u) := by unfold body; rw [if_pos hyes, tail_nums _ _ hb2]
  have hsn : sn (strOfNums (45 :: ds u)) = -(u : Int) := by unfold sn; rw [if_pos hyes, hm, hseg2, pnl_minus, pnl_dig _ hd, lv_ds u u (Nat.le_refl _)]
  have hsk : sk (strOfNums (45 :: ds u)) = (ds u).length := by unfold sk; rw [hm, hseg2, pkl_minus, pkl_dig _ hd]
  have hvn : vn (strOfNums (45 :: ds u)) = -(u : Int) := by
    unfold vn
    rw [if_pos hyes, hbody, rv_dig _ _ 0 0 (by omega) (by rw [hseg]; exact hd), hseg]
    exact congrArg Neg.neg (lv_ds u u (Nat.le_refl _))
  exact ⟨⟨by omega, by omega, by rw [hsn, itoaS_neg u h0]⟩, hsn, ⟨by rw [hbody, size_nums]; omega, by rw [hvn, itoaS_neg u h0]⟩, hvn⟩
theorem isNum_all {s : ByteArray} {n : Int} (h : IsNum s n) : SpecGood s ∧ sn s = n ∧ ImplGood s ∧ vn s = n := by
  obtain ⟨h0, h1, rfl⟩ := h
  by_cases hn : 0 ≤ n
  · obtain ⟨u, rfl⟩ := Int.eq_ofNat_of_zero_le hn
    rw [itoaS_nonneg]
    exact isNum_pos u (by omega)
  · obtain ⟨u, rfl⟩ : ∃ u : Nat, n = -(u : Int) := ⟨n.natAbs, by omega⟩
    rw [itoaS_neg u (by omega)]
    exact isNum_neg u (by omega) (by omega)
theorem good_isNum (s : ByteArray) (n : Int) (e : itoaS n = s) (h : (sk s ≤ 9 ∧ s.size ≤ 10) ∨ (body s).size ≤ 9) : IsNum s n := by
  by_cases hn : 0 ≤ n
  · obtain ⟨u, rfl⟩ := Int.eq_ofNat_of_zero_le hn
    rw [itoaS_nonneg] at e
    have hd := ds_dig u u (Nat.le_refl _)
    have hb := dig_bytes hd
    have hl : (ds u).length ≤ 9 := by
      rw [← e] at h
      rcases h with ⟨h1, h2⟩ | h1
      · rw [size_nums] at h2
        unfold sk at h1
        rw [show min (strOfNums (ds u)).size 11 = (strOfNums (ds u)).size from by rw [size_nums]; omega, seg_of _ hb, pkl_dig _ hd] at h1
        exact h1
      · unfold body at h1
        split at h1
        · rename_i hc
          obtain ⟨hc1, hc2⟩ := hc
          rw [size_nums] at hc1
          obtain ⟨x, L, ex⟩ : ∃ x L, ds u = x :: L := List.exists_cons_of_length_pos hc1
          have h3 := hd x (by rw [ex]; simp)
          rw [ex] at hc2 hb
          rw [bt_head x L hb] at hc2
          unfold isDig at h3
          omega
        · rwa [size_nums] at h1
    have := ds_nine hl
    exact ⟨by omega, by omega, by rw [itoaS_nonneg]; exact e.symm⟩
  · obtain ⟨u, rfl⟩ : ∃ u : Nat, n = -(u : Int) := ⟨n.natAbs, by omega⟩
    rw [itoaS_neg u (by omega)] at e
    have hd := ds_dig u u (Nat.le_refl _)
    have hb := dig_bytes hd
    have hb2 : AreBytes (45 :: ds u) := fun x hx => by
      simp only [List.mem_cons] at hx
      rcases hx with rfl | hx
      · omega
      · exact hb x hx
    have hsz : (strOfNums (45 :: ds u)).size = (ds u).length + 1 := by rw [size_nums]; simp
    have hl : (ds u).length ≤ 9 := by
      rw [← e] at h
      rcases h with ⟨h1, h2⟩ | h1
      · unfold sk at h1
        rw [show min (strOfNums (45 :: ds u)).size 11 = (strOfNums (45 :: ds u)).size from by omega, seg_of _ hb2, pkl_minus, pkl_dig _ hd] at h1
        exact h1
      · unfold body at h1
        rw [if_pos ⟨by omega, bt_head _ _ hb2⟩, tail_nums _ _ hb2, size_nums] at h1
        exact h1
    have := ds_nine hl
    exact ⟨by omega, by omega, by rw [itoaS_neg u (by omega)]; exact e.symm⟩
theorem spec_impl (s : ByteArray) : (SpecGood s ↔ ImplGood s) ∧ (SpecGood s → vn s = sn s) := by
  refine ⟨⟨fun h => ?_, fun h => ?_⟩, fun h => ?_⟩
  · exact (isNum_all (good_isNum s (sn s) h.2.2 (.inl ⟨h.1, h.2.1⟩))).2.2.1
  · exact (isNum_all (good_isNum s (vn s) h.2 (.inr h.1))).1
  · exact (isNum_all (good_isNum s (sn s) h.2.2 (.inl ⟨h.1, h.2.1⟩))).2.2.2

/-- TrimPrefix(s, "-"). -/
theorem trim_body (s : ByteArray) : (⟨(Lib.trimPrefix s.data.toList [45]).toArray⟩ : ByteArray) = body s := by
  have e45 : (⟨#[45]⟩ : ByteArray) = strOfNums [45] := rfl
  have hb45 : AreBytes [45] := fun x hx => by simp at hx; omega
  by_cases h0 : 0 < s.size
  · have hseg := seg_take s 1 (by omega)
    have hcmp : ((s.extract 0 1).toList == (⟨#[45]⟩ : ByteArray).toList) = decide (bt s 0 = 45) := by
      rw [hseg, e45, nums_beq _ _ (bseg_bytes s 1 0) hb45]
      simp [bseg]
    by_cases h1 : bt s 0 = 45
    · have := Lib.trimPrefix_hit s ⟨#[45]⟩ (show 1 ≤ s.size by omega) (by show ((s.extract 0 1).toList == _) = true; rw [hcmp]; simp [h1])
      unfold body
      rw [if_pos ⟨h0, h1⟩]
      exact this
    · have := Lib.trimPrefix_miss s ⟨#[45]⟩ (by show (decide (1 ≤ s.size) && ((s.extract 0 1).toList == _)) = false; rw [hcmp]; simp [h1])
      unfold body
      rw [if_neg (fun h => h1 h.2)]
      exact this
  · have := Lib.trimPrefix_miss s ⟨#[45]⟩ (by show (decide (1 ≤ s.size) && _) = false; rw [decide_eq_false (by omega)]; rfl)
    unfold body
    rw [if_neg (fun h => h0 h.1)]
    exact this
theorem body_size (s : ByteArray) : (body s).size = if 0 < s.size ∧ bt s 0 = 45 then s.size - 1 else s.size := by
  unfold body
  split
  · rw [Lib.size_eq, Lib.extract_data, List.length_take, List.length_drop, ← Lib.size_eq]; omega
  · rfl
/-- How far the reading of the runes has come: pos bytes are read, acc is made of at most nine runes. -/
def RunesAt (d : ByteArray) (pos : Nat) (acc : Int) : Prop := (∃ f : Nat, d.size ≤ f + pos ∧ rv d f pos acc = rv d d.size 0 0) ∧ ∃ k : Nat, k ≤ pos ∧ k ≤ 9 ∧ -(200000 * 10 ^ k - 200000) ≤ acc ∧ acc ≤ 200000 * 10 ^ k - 200000
theorem runes_start (d : ByteArray) : RunesAt d 0 0 := ⟨⟨d.size, by omega, rfl⟩, 0, by omega, by omega, by simp, by simp⟩
theorem runes_bd {d : ByteArray} {pos : Nat} {acc : Int} (h : RunesAt d pos acc) : -200000000000000 ≤ acc ∧ acc ≤ 200000000000000 := by
  obtain ⟨_, k, _, h2, h3, h4⟩ := h
  have h1 : (10 : Nat) ^ k ≤ 10 ^ 9 := Nat.pow_le_pow_right (by decide) h2
  have h5 : ((10 ^ k : Nat) : Int) = (10 : Int) ^ k := by simp
  have h6 : (10 : Nat) ^ 9 = 1000000000 := by decide
  omega
theorem runes_step {d : ByteArray} {pos : Nat} {acc : Int} (h : RunesAt d pos acc) (hlt : pos < d.size) (h9 : d.size ≤ 9) : RunesAt d (pos + (Utf8.decode d pos).2) (acc * 10 + (((Utf8.decode d pos).1 : Int) - 48)) := by
  obtain ⟨⟨f, hf, he⟩, k, h1, h2, h3, h4⟩ := h
  have hw := Lib.width_pos d pos
  have hr := Lib.rune_le d pos
  refine ⟨?_, k + 1, by omega, by omega, ?_, ?_⟩
  · obtain ⟨f', rfl⟩ : ∃ f', f = f' + 1 := ⟨f - 1, by omega⟩
    refine ⟨f', by omega, ?_⟩
    rw [← he, rv, if_pos hlt]
  · rw [Int.pow_succ]; omega
  · rw [Int.pow_succ]; omega
theorem runes_end {d : ByteArray} {pos : Nat} {acc : Int} (h : RunesAt d pos acc) (hge : ¬ pos < d.size) : acc = rv d d.size 0 0 := by
  obtain ⟨⟨f, _, he⟩, _⟩ := h
  rw [← he]
  cases f with
  | zero => rfl
  | succ f => rw [rv, if_neg hge]
end Go.Proofs.YtbebifnnnmgihabDoor.Plain
