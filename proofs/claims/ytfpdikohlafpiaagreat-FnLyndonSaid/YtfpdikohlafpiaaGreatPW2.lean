/- Several texts of this proof, one behind the other: each says ahead of it what it shows and under which conditions. -/
import Derived.Test.YtfpdikohlafpiaaGreatPW1
import Derived.Test.YtfpdikohlafpiaaGreatSeqEq
import Derived.Deep.RegionHeld3
import Derived.Test.YtfpdikohlafpiaaGreatDrawW
import Derived.WalkKit
import Derived.Lib.Hide
/- Contracts of StateAfter, of the program and of the model. No conditions beyond those that each states. -/
namespace Go.Proofs.YtfpdikohlafpiaaGreat
open Go.ChangeShapes Go.WideShapes Go.ChangeAt Go.RowKit
open Go.PlainAid Plain
set_option linter.unusedVariables false
namespace Seqs
theorem spec_after_no (v : Value) (b : Int) (rows : List (List Int)) (out : List Int) (w : World) (h : LiesS w v b rows out) (u : Value) (ds : List Int) (hu : Lies (Value.int .i64) w u ds) (hno : seqB b rows out = false ∨ areD b ds = false) :
    Calls Tryz.prog 93 #[v, u] w fun e w' => e = .returned (.int .i64 (-1)) ∧ Below w.heap.size w w' := by
  have HS := Lib.hid h
  obtain ⟨an, cn, ao, co, rfl⟩ := h.form
  clear h
  have hB : Below w.heap.size w (w.alloc (Obj.cells #[Value.int .i64 b, Value.slice an rows.length cn, Value.slice ao out.length co] 69)) := (Below.refl _ _).alloc (Nat.le_refl _) _
  have HC := Lib.hid (Cells3.new w 69 (.int .i64 b) (.slice an rows.length cn) (.slice ao out.length co))
  have HB := Lib.hid hB
  clear hB
  have HU := Lib.hid hu
  obtain ⟨_, au, cu, rfl, _, _⟩ := hu
  cases hs : seqB b rows out with
  | false =>
    have HQ := Lib.hid hs
    clear hs hno
    go_enter Tryz.func93, Tryz.ntmps93
    go_wp2_with fail
    refine (spec_is _ b rows out _ (HS.out.below HB.out)).mono ?_
    rintro e W1 ⟨rfl, b1⟩
    have HB1 := Lib.hid (HB.out.trans (b1.mono HB.out.size))
    rw [HQ.out]
    clear b1
    go_wp2
    go_ret
    exact ⟨rfl, HB1.out⟩
  | true =>
    have HQ := Lib.hid hs
    have HA : Hid (areD b ds = false) := by
      rcases hno with h1 | h1
      · rw [hs] at h1; cases h1
      · exact h1
    clear hs hno
    go_enter Tryz.func93, Tryz.ntmps93
    go_wp2_with fail
    refine (spec_is _ b rows out _ (HS.out.below HB.out)).mono ?_
    rintro e W1 ⟨rfl, b1⟩
    have HB1 := Lib.hid (HB.out.trans (b1.mono HB.out.size))
    have HC1 := Lib.hid (HC.out.below b1)
    rw [HQ.out]
    clear b1
    have k0 := HC1.out.c0
    have k1 := HC1.out.c1
    have k2 := HC1.out.c2
    go_wp2_with fail
    refine (Digits.spec_are _ ds b _ (HU.out.below HB1.out)).mono ?_
    rintro e w' ⟨rfl, rfl⟩
    rw [HA.out]
    go_wp2
    go_ret
    exact ⟨rfl, HB1.out⟩
theorem spec_after_yes (v : Value) (b : Int) (rows : List (List Int)) (out : List Int) (w : World) (h : LiesS w v b rows out) (u : Value) (ds : List Int) (hu : Lies (Value.int .i64) w u ds) (hs : seqB b rows out = true) (ha : areD b ds = true) :
    Calls Tryz.prog 93 #[v, u] w fun e w' => e = .returned (.int .i64 (afterS rows ds)) ∧ Below w.heap.size w w' := by
  have HS := Lib.hid h
  obtain ⟨an, cn, ao, co, rfl⟩ := h.form
  clear h
  have hB : Below w.heap.size w (w.alloc (Obj.cells #[Value.int .i64 b, Value.slice an rows.length cn, Value.slice ao out.length co] 69)) := (Below.refl _ _).alloc (Nat.le_refl _) _
  have HC := Lib.hid (Cells3.new w 69 (.int .i64 b) (.slice an rows.length cn) (.slice ao out.length co))
  have HB := Lib.hid hB
  clear hB
  have HU := Lib.hid hu
  obtain ⟨hul, au, cu, rfl, _, _⟩ := hu
  have HQ := Lib.hid hs
  have HA := Lib.hid ha
  have HV := Lib.hid (seqB_out hs)
  have HD := Lib.hid (areD_out ha).2.2.2
  have HN0 := Lib.hid (seqB_out hs).2.2.1
  clear hs ha
  go_enter Tryz.func93, Tryz.ntmps93
  go_wp2_with fail
  refine (spec_is _ b rows out _ (HS.out.below HB.out)).mono ?_
  rintro e W1 ⟨rfl, b1⟩
  have HB1 := Lib.hid (HB.out.trans (b1.mono HB.out.size))
  have HC1 := Lib.hid (HC.out.below b1)
  rw [HQ.out]
  clear b1
  have k0 := HC1.out.c0
  have k1 := HC1.out.c1
  have k2 := HC1.out.c2
  go_wp2_with fail
  refine (Digits.spec_are _ ds b _ (HU.out.below HB1.out)).mono ?_
  rintro e w' ⟨rfl, rfl⟩
  rw [HA.out]
  obtain ⟨hN, _⟩ := (HS.out.below HB1.out).cells
  obtain ⟨_, au', cu', hua, _, huc⟩ := HU.out.below HB1.out
  injection hua with hua1 _ _
  subst hua1
  have HN := Lib.hid hN
  have HUC := Lib.hid huc
  have HBn : Hid (∀ n, Below w.heap.size w (W1.drewN n)) := fun n => below_drewN HB1.out n
  clear hN huc
  go_wp2
  go_loopw [5, 6] (fun s' i' wr => ∃ i sn : Nat, i ≤ ds.length ∧ i' = .int .i64 i ∧ s' = .int .i64 sn ∧ Hid ((sn : Int) = afterS rows (ds.take i)) ∧ ∃ n, wr = W1.drewN n) (fun _ i' _ => ds.length - (intOf i').toNat)
  case atStart => exact ⟨0, 0, Nat.zero_le _, rfl, rfl, rfl, 0, rfl⟩
  case round =>
    obtain ⟨i, sn, hi, rfl, rfl, HI, n, rfl⟩ := hrel
    by_cases hlt : i < ds.length
    · obtain ⟨dn, yn, hd, hsn, hyn, hy, r, hr, hry⟩ := HV.out.after_step HD.out hlt HI.out
      obtain ⟨g, t, rfl, hcd⟩ := HUC.out i _ hd
      obtain ⟨p, o, a', c', rfl, hcell, hrow⟩ := HN.out sn r hr
      obtain ⟨q, s, rfl, hcy⟩ := hrow dn _ hry
      have hdn := (List.getElem?_eq_some_iff.1 hry).1
      have HY := Lib.hid hy
      clear hd hy hr hry hrow
      go_wp2
      go_quiet (fail)
      go_wp2
      go_roundw
      case rel => exact ⟨i + 1, yn, by omega, by go_num, rfl, HY.out, _, rfl⟩
      case measure => simp [intOf]; omega
    · have HE : Hid ((sn : Int) = afterS rows ds) := by
        have := HI.out
        rw [List.take_of_length_le (by omega)] at this
        exact this
      go_wp2
      go_ret
      exact ⟨ret_i HE.out, HBn.out _⟩
theorem spec_after (v : Value) (b : Int) (rows : List (List Int)) (out : List Int) (w : World) (h : LiesS w v b rows out) (u : Value) (ds : List Int) (hu : Lies (Value.int .i64) w u ds) :
    Calls Tryz.prog 93 #[v, u] w fun e w' => e = .returned (.int .i64 (afterV b rows out (areD b ds) ds)) ∧ Below w.heap.size w w' := by
  cases hs : seqB b rows out with
  | false => rw [afterV, if_neg (by simp [hs])]; exact spec_after_no v b rows out w h u ds hu (.inl hs)
  | true =>
    cases ha : areD b ds with
    | false => rw [afterV, if_neg (by simp)]; exact spec_after_no v b rows out w h u ds hu (.inr ha)
    | true => rw [afterV, if_pos ⟨hs, rfl⟩]; exact spec_after_yes v b rows out w h u ds hu hs ha
end Seqs
end Go.Proofs.YtfpdikohlafpiaaGreat
/- Contracts of TermAt, of the program and of the model. No conditions beyond those that each states. -/
namespace Go.Proofs.YtfpdikohlafpiaaGreat
open Go.ChangeShapes Go.WideShapes Go.ChangeAt Go.RowKit
open Go.PlainAid Plain
set_option linter.unusedVariables false
namespace Seqs
theorem cell_below {w w' : World} {p : Addr} {x : Value} (h : w.cell? p = some x) (hb : Below w.heap.size w w') : w'.cell? p = some x := (hb.cell (World.block_lt_of_cell? w p h)).trans h
open Digits
/-- May the term be asked for? -/
def askB (b : Int) (rows : List (List Int)) (out : List Int) (n : Int) : Bool := seqB b rows out && decide (0 ≤ n) && decide (n < powV b 16)
/-- The term n, -1 where it may not be asked for. -/
def termV (b : Int) (rows : List (List Int)) (out : List Int) (n : Int) : Int := if askB b rows out n = true then out.getD (afterS rows (digV n b)).toNat 0 else -1
theorem dig_ok {b : Int} {rows : List (List Int)} {out : List Int} (h : IsSeq b rows out) (n : Int) : (∀ d ∈ digV n b, 0 ≤ d ∧ d < b) ∧ areD b (digV n b) = true := by
  have hm : ∀ d ∈ digV n b, 0 ≤ d ∧ d < b := by
    intro d hd
    unfold digV at hd
    split at hd
    · have := digs_mem n.toNat b.toNat (by have := h.1; omega) d hd
      have := h.1
      omega
    · cases hd
  exact ⟨hm, areD_yes h.1 h.2.1 (digV_len n b) hm⟩
set_option maxHeartbeats 1000000 in
theorem spec_term_yes (v : Value) (b : Int) (rows : List (List Int)) (out : List Int) (w : World) (h : LiesS w v b rows out) (n : Int) (hq : seqB b rows out = true) (h0 : 0 ≤ n) (h1 : n < powV b 16) :
    Calls Tryz.prog 78 #[v, .int .i64 n] w fun e w' => e = .returned (.int .i64 (out.getD (afterS rows (digV n b)).toNat 0)) ∧ Below w.heap.size w w' := by
  have HS := Lib.hid h
  obtain ⟨an, cn, ao, co, rfl⟩ := h.form
  clear h
  have hB : Below w.heap.size w (w.alloc (Obj.cells #[Value.int .i64 b, Value.slice an rows.length cn, Value.slice ao out.length co] 69)) := (Below.refl _ _).alloc (Nat.le_refl _) _
  have HC := Lib.hid (Cells3.new w 69 (.int .i64 b) (.slice an rows.length cn) (.slice ao out.length co))
  have HB := Lib.hid hB
  clear hB
  have hv := seqB_out hq
  obtain ⟨hdm, hda⟩ := dig_ok hv n
  obtain ⟨sn, hsn, hsl, hso⟩ := hv.term_at hdm
  obtain ⟨t, ht⟩ : ∃ t, t = out.getD (afterS rows (digV n b)).toNat 0 := ⟨_, rfl⟩
  rw [← ht] at hso ⊢
  have HSN := Lib.hid hsn
  have HQ := Lib.hid hq
  have HDA := Lib.hid hda
  have HSO := Lib.hid hso
  have HP := Lib.hid (fun w => spec_pow_any b 16 w)
  obtain ⟨p, hp⟩ : ∃ p, p = powV b 16 := ⟨_, rfl⟩
  rw [← hp] at HP h1
  clear hv hda hsn ht hdm hq hso hp
  have hd0 := decide_eq_false (show ¬ n < 0 by omega)
  have hd1 := decide_eq_false (show ¬ p ≤ n by omega)
  go_enter Tryz.func78, Tryz.ntmps78
  go_wp2_with fail
  refine (spec_is _ b rows out _ (HS.out.below HB.out)).mono ?_
  rintro e W1 ⟨rfl, b1⟩
  have HB1 := Lib.hid (HB.out.trans (b1.mono HB.out.size))
  have HC1 := Lib.hid (HC.out.below b1)
  rw [HQ.out]
  clear b1 HB HC
  have k0 := HC1.out.c0
  have k1 := HC1.out.c1
  have k2 := HC1.out.c2
  go_wp2_with fail
  refine (HP.out _).mono ?_
  rintro e w' ⟨rfl, rfl⟩
  go_wp2_with fail
  obtain ⟨_, hO⟩ := (HS.out.below HB1.out).cells
  obtain ⟨q, s, rfl, hct⟩ := hO sn t HSO.out
  clear hO k0 k1 k2
  have hs0 : (0 : Int) ≤ (sn : Int) := Int.natCast_nonneg _
  have hs1 : (sn : Int) < (out.length : Int) := by omega
  have bd := below_drew' W1
  have HCd := Lib.hid (HC1.out.below bd)
  have HBd := Lib.hid (HB1.out.trans (bd.mono HB1.out.size))
  have hcd := Lib.hid (cell_below hct bd)
  obtain ⟨Wd, hWd⟩ : ∃ W, W = W1.drew := ⟨_, rfl⟩
  rw [← hWd] at HCd HBd hcd
  clear bd hct
  go_region_held3 (fun w' => w'.cell? ⟨w.heap.size, 0, none⟩ = some (.int .i64 b) ∧ w'.cell? ⟨w.heap.size, 1, none⟩ = some (.slice an rows.length cn) ∧ w'.cell? ⟨w.heap.size, 2, none⟩ = some (.slice (some ⟨q, s, none⟩) out.length co) ∧ w'.cell? ⟨q, s + sn, none⟩ = some (.int .i64 t))
    (first | (rw [← hWd]; exact ⟨HCd.out.c0, HCd.out.c1, HCd.out.c2, hcd.out⟩) | exact ⟨(HCd.out.below bt).c0, (HCd.out.below bt).c1, (HCd.out.below bt).c2, cell_below hcd.out bt⟩ | exact ⟨((HCd.out.below bt).below bu).c0, ((HCd.out.below bt).below bu).c1, ((HCd.out.below bt).below bu).c2, cell_below (cell_below hcd.out bt) bu⟩)
    (first | (go_at_call 94; rw [← hWd]; refine (spec_digits_any n b _).mono ?_; rintro e Wt ⟨vt, rfl, ht, bt⟩) | (go_at_call 93; refine (spec_after_yes _ b rows out _ (HS.out.below (HBd.out.trans (bt.mono HBd.out.size))) _ (digV n b) ht.lies HQ.out HDA.out).mono ?_; rintro e Wu ⟨rfl, bu⟩; rw [← HSN.out]))
  have HBe := Lib.hid ((HBd.out.trans (bt.mono HBd.out.size)).trans (bu.mono (HBd.out.trans (bt.mono HBd.out.size)).size))
  clear bt bu ht hWd HBd HCd hcd
  go_wp2
  go_ret
  exact ⟨rfl, HBe.out⟩
theorem spec_term_no (v : Value) (b : Int) (rows : List (List Int)) (out : List Int) (w : World) (h : LiesS w v b rows out) (n : Int) (hno : askB b rows out n = false) :
    Calls Tryz.prog 78 #[v, .int .i64 n] w fun e w' => e = .returned (.int .i64 (-1)) ∧ Below w.heap.size w w' := by
  have HS := Lib.hid h
  obtain ⟨an, cn, ao, co, rfl⟩ := h.form
  clear h
  have hB : Below w.heap.size w (w.alloc (Obj.cells #[Value.int .i64 b, Value.slice an rows.length cn, Value.slice ao out.length co] 69)) := (Below.refl _ _).alloc (Nat.le_refl _) _
  have HC := Lib.hid (Cells3.new w 69 (.int .i64 b) (.slice an rows.length cn) (.slice ao out.length co))
  have HB := Lib.hid hB
  clear hB
  by_cases h0 : n < 0
  · have hd0 := decide_eq_true h0
    clear hno h0
    go_enter Tryz.func78, Tryz.ntmps78
    go_wp2
    go_ret
    exact ⟨rfl, HB.out⟩
  · have hd0 := decide_eq_false h0
    cases hq : seqB b rows out with
    | false =>
      have HQ := Lib.hid hq
      clear hq hno
      go_enter Tryz.func78, Tryz.ntmps78
      go_wp2_with fail
      refine (spec_is _ b rows out _ (HS.out.below HB.out)).mono ?_
      rintro e W1 ⟨rfl, b1⟩
      have HB1 := Lib.hid (HB.out.trans (b1.mono HB.out.size))
      have HC1 := Lib.hid (HC.out.below b1)
      rw [HQ.out]
      clear b1 HB HC
      go_wp2
      go_ret
      exact ⟨rfl, HB1.out⟩
    | true =>
      have HQ := Lib.hid hq
      have hp : powV b 16 ≤ n := by
        simp only [askB, hq, Bool.true_and, Bool.and_eq_false_iff, decide_eq_false_iff_not] at hno
        omega
      have HP := Lib.hid (fun w => spec_pow_any b 16 w)
      obtain ⟨p, hpp⟩ : ∃ p, p = powV b 16 := ⟨_, rfl⟩
      rw [← hpp] at HP hp
      have hd1 := decide_eq_true hp
      clear hq hno hpp
      go_enter Tryz.func78, Tryz.ntmps78
      go_wp2_with fail
      refine (spec_is _ b rows out _ (HS.out.below HB.out)).mono ?_
      rintro e W1 ⟨rfl, b1⟩
      have HB1 := Lib.hid (HB.out.trans (b1.mono HB.out.size))
      have HC1 := Lib.hid (HC.out.below b1)
      rw [HQ.out]
      clear b1 HB HC
      have k0 := HC1.out.c0
      have k1 := HC1.out.c1
      have k2 := HC1.out.c2
      go_wp2_with fail
      refine (HP.out _).mono ?_
      rintro e w' ⟨rfl, rfl⟩
      go_wp2
      go_ret
      exact ⟨rfl, HB1.out⟩
theorem spec_termat (v : Value) (b : Int) (rows : List (List Int)) (out : List Int) (w : World) (h : LiesS w v b rows out) (n : Int) :
    Calls Tryz.prog 78 #[v, .int .i64 n] w fun e w' => e = .returned (.int .i64 (termV b rows out n)) ∧ Below w.heap.size w w' := by
  cases hs : askB b rows out n with
  | false => rw [termV, if_neg (by simp [hs])]; exact spec_term_no v b rows out w h n hs
  | true =>
    rw [termV, if_pos hs]
    simp only [askB, Bool.and_eq_true, decide_eq_true_eq] at hs
    exact spec_term_yes v b rows out w h n hs.1.1 hs.1.2 hs.2
end Seqs
end Go.Proofs.YtfpdikohlafpiaaGreat
/- Contracts of PrefixOf, of the program and of the model. No conditions beyond those that each states. -/
namespace Go.Proofs.YtfpdikohlafpiaaGreat
open Go.ChangeShapes Go.WideShapes Go.ChangeAt Go.RowKit
open Go.PlainAid Plain
set_option linter.unusedVariables false
namespace Seqs
open Digits
/-- The term n, told without a look whether it may be asked for. -/
def termG (b : Int) (rows : List (List Int)) (out : List Int) (i : Nat) : Int := out.getD (afterS rows (digV (i : Int) b)).toNat 0
def termsG (b : Int) (rows : List (List Int)) (out : List Int) (i : Nat) : List Int := (List.range i).map (termG b rows out)
theorem termsG_len (b : Int) (rows : List (List Int)) (out : List Int) (i : Nat) : (termsG b rows out i).length = i := by simp [termsG]
theorem termsG_succ (b : Int) (rows : List (List Int)) (out : List Int) (i : Nat) : termsG b rows out (i + 1) = termsG b rows out i ++ [termG b rows out i] := by simp [termsG, List.range_succ]
theorem termsG_set (b : Int) (rows : List (List Int)) (out : List Int) (i m : Nat) (h : i < m) : ((termsG b rows out i ++ List.replicate (m - i) 0).map (Value.int .i64)).set i (.int .i64 (termG b rows out i)) = (termsG b rows out (i + 1) ++ List.replicate (m - (i + 1)) 0).map (Value.int .i64) := by
  rw [show m - i = (m - (i + 1)) + 1 from by omega, List.replicate_succ, List.map_append, List.map_cons, set_mid _ _ _ _ i (by rw [List.length_map, termsG_len]), termsG_succ, List.append_assoc, List.map_append]
  rfl
/-- May the terms be asked for? -/
def prefB (b : Int) (rows : List (List Int)) (out : List Int) (n : Int) : Bool := seqB b rows out && decide (1 ≤ n) && decide (n ≤ 256)
/-- The terms before n, none where they may not be asked for. -/
def prefV (b : Int) (rows : List (List Int)) (out : List Int) (n : Int) : List Int := if prefB b rows out n = true then termsG b rows out n.toNat else []
theorem prefV_len (b : Int) (rows : List (List Int)) (out : List Int) (n : Int) : (prefV b rows out n).length ≤ 256 := by
  unfold prefV
  split
  · rename_i h
    simp only [prefB, Bool.and_eq_true, decide_eq_true_eq] at h
    rw [termsG_len]
    omega
  · simp
theorem ask_small {b : Int} {rows : List (List Int)} {out : List Int} (h : seqB b rows out = true) (i : Nat) (hi : i ≤ 256) : termV b rows out (i : Int) = termG b rows out i := by
  have hb := seqB_out h
  have h2 : (i : Int) < powV b 16 := by
    obtain ⟨n, rfl⟩ := Int.eq_ofNat_of_zero_le (show 0 ≤ b by have := hb.1; omega)
    have hn := hb.1
    rw [powV_in n (by omega) (by have := hb.2.1; omega)]
    have h3 : 2 ^ 16 ≤ n ^ 16 := Nat.pow_le_pow_left (by omega) 16
    have h4 : (2 : Nat) ^ 16 = 65536 := by decide
    omega
  rw [termV, if_pos (by simp [askB, h, h2])]
  rfl
theorem spec_pref_no (v : Value) (b : Int) (rows : List (List Int)) (out : List Int) (w : World) (h : LiesS w v b rows out) (n : Int) (hno : prefB b rows out n = false) :
    Calls Tryz.prog 67 #[v, .int .i64 n] w (Gives (Value.int .i64) 3 [] w) := by
  have HS := Lib.hid h
  obtain ⟨an, cn, ao, co, rfl⟩ := h.form
  clear h
  have hB : Below w.heap.size w (w.alloc (Obj.cells #[Value.int .i64 b, Value.slice an rows.length cn, Value.slice ao out.length co] 69)) := (Below.refl _ _).alloc (Nat.le_refl _) _
  have HC := Lib.hid (Cells3.new w 69 (.int .i64 b) (.slice an rows.length cn) (.slice ao out.length co))
  have HB := Lib.hid hB
  clear hB
  obtain ⟨W, hW⟩ : ∃ W, W = (w.alloc (Obj.cells #[Value.int .i64 b, Value.slice an rows.length cn, Value.slice ao out.length co] 69)).alloc (.cells #[] 3) := ⟨_, rfl⟩
  have HW := Lib.hid hW
  have hC := HC.out.alloc (.cells #[] 3)
  have hB := HB.out.alloc (o := .cells #[] 3) (by simp) 
  have hH := Has.lit (enc := Value.int .i64) (e := 3) (base := w.heap.size) (w.alloc (Obj.cells #[Value.int .i64 b, Value.slice an rows.length cn, Value.slice ao out.length co] 69)) [] HB.out.size (by simp)
  have hH2 : Hid (Has (Value.int .i64) 3 ((w.alloc (Obj.cells #[Value.int .i64 b, Value.slice an rows.length cn, Value.slice ao out.length co] 69)).alloc (.cells #[] 3)) w.heap.size (.slice (some ⟨(w.alloc (Obj.cells #[Value.int .i64 b, Value.slice an rows.length cn, Value.slice ao out.length co] 69)).heap.size, 0, none⟩) 0 0) []) := hH
  rw [size_alloc'] at hH2
  have k0 := hC.c0
  have k1 := hC.c1
  have k2 := hC.c2
  have HB2 : Hid (Below w.heap.size w ((w.alloc (Obj.cells #[Value.int .i64 b, Value.slice an rows.length cn, Value.slice ao out.length co] 69)).alloc (.cells #[] 3))) := hB
  clear hC hH hB hW
  by_cases h0 : 0 < n
  · by_cases h1 : n ≤ 256
    · have HQ : Hid (seqB b rows out = false) := by
        show _ = _
        simp only [prefB, Bool.and_eq_false_iff, decide_eq_false_iff_not] at hno
        rcases hno with (h2 | h2) | h2
        · exact h2
        · omega
        · omega
      clear hno
      have hd0 := decide_eq_true h0
      have hd1 := decide_eq_true h1
      go_enter Tryz.func67, Tryz.ntmps67
      go_wp2
      go_loopw [5, 6] (fun o' i' wr => i' = .int .i64 0 ∧ o' = .slice (some ⟨w.heap.size + 1, 0, none⟩) 0 0 ∧ wr = (w.alloc (Obj.cells #[Value.int .i64 b, Value.slice an rows.length cn, Value.slice ao out.length co] 69)).alloc (.cells #[] 3)) (fun _ _ _ => 0)
      case atStart => exact ⟨rfl, rfl, rfl⟩
      case round =>
        obtain ⟨rfl, rfl, rfl⟩ := hrel
        go_wp2_with fail
        refine (spec_is _ b rows out _ (HS.out.below HB2.out)).mono ?_
        rintro e W1 ⟨rfl, b1⟩
        rw [HQ.out]
        have HB3 := Lib.hid (HB2.out.trans (b1.mono HB2.out.size))
        have HH3 := Lib.hid (hH2.out.below b1)
        clear b1
        go_wp2
        go_ret
        exact ⟨_, rfl, HH3.out, HB3.out⟩
    · have hd0 := decide_eq_true h0
      have hd1 := decide_eq_false h1
      clear hno
      go_enter Tryz.func67, Tryz.ntmps67
      go_wp2
      go_loopw [5, 6] (fun o' i' wr => i' = .int .i64 0 ∧ o' = .slice (some ⟨w.heap.size + 1, 0, none⟩) 0 0 ∧ wr = (w.alloc (Obj.cells #[Value.int .i64 b, Value.slice an rows.length cn, Value.slice ao out.length co] 69)).alloc (.cells #[] 3)) (fun _ _ _ => 0)
      case atStart => exact ⟨rfl, rfl, rfl⟩
      case round =>
        obtain ⟨rfl, rfl, rfl⟩ := hrel
        go_wp2
        go_ret
        exact ⟨_, rfl, hH2.out, HB2.out⟩
  · have hd0 := decide_eq_false h0
    clear hno
    go_enter Tryz.func67, Tryz.ntmps67
    go_wp2
    go_loopw [5, 6] (fun o' i' wr => i' = .int .i64 0 ∧ o' = .slice (some ⟨w.heap.size + 1, 0, none⟩) 0 0 ∧ wr = (w.alloc (Obj.cells #[Value.int .i64 b, Value.slice an rows.length cn, Value.slice ao out.length co] 69)).alloc (.cells #[] 3)) (fun _ _ _ => 0)
    case atStart => exact ⟨rfl, rfl, rfl⟩
    case round =>
      obtain ⟨rfl, rfl, rfl⟩ := hrel
      go_wp2
      go_ret
      exact ⟨_, rfl, hH2.out, HB2.out⟩
set_option maxHeartbeats 1000000 in
theorem spec_pref_yes (v : Value) (b : Int) (rows : List (List Int)) (out : List Int) (w : World) (h : LiesS w v b rows out) (m : Nat) (hq : seqB b rows out = true) (h0 : 1 ≤ m) (h1 : m ≤ 256) :
    Calls Tryz.prog 67 #[v, .int .i64 m] w (Gives (Value.int .i64) 3 (termsG b rows out m) w) := by
  obtain ⟨i0, hi, hz0, hz1, hz2⟩ := info_parts Ints.infoI
  have HS := Lib.hid h
  obtain ⟨an, cn, ao, co, rfl⟩ := h.form
  clear h
  have hB : Below w.heap.size w (w.alloc (Obj.cells #[Value.int .i64 b, Value.slice an rows.length cn, Value.slice ao out.length co] 69)) := (Below.refl _ _).alloc (Nat.le_refl _) _
  have HC := Lib.hid (Cells3.new w 69 (.int .i64 b) (.slice an rows.length cn) (.slice ao out.length co))
  have HB := Lib.hid hB
  clear hB
  have HQ := Lib.hid hq
  have hH : Has (Value.int .i64) 3 ((w.alloc (Obj.cells #[Value.int .i64 b, Value.slice an rows.length cn, Value.slice ao out.length co] 69)).alloc (.cells #[] 3)) (w.alloc (Obj.cells #[Value.int .i64 b, Value.slice an rows.length cn, Value.slice ao out.length co] 69)).heap.size (.slice (some ⟨(w.alloc (Obj.cells #[Value.int .i64 b, Value.slice an rows.length cn, Value.slice ao out.length co] 69)).heap.size, 0, none⟩) 0 0) [] := Has.lit (enc := Value.int .i64) (e := 3) (w.alloc (Obj.cells #[Value.int .i64 b, Value.slice an rows.length cn, Value.slice ao out.length co] 69)) [] (Nat.le_refl _) (by simp)
  rw [size_alloc'] at hH
  have HH := Lib.hid hH
  have HC2 := Lib.hid (HC.out.alloc (.cells #[] 3))
  have HB2 : Hid (Below w.heap.size w ((w.alloc (Obj.cells #[Value.int .i64 b, Value.slice an rows.length cn, Value.slice ao out.length co] 69)).alloc (.cells #[] 3))) := HB.out.alloc (by simp) _
  have HZ : Hid (w.heap.size + 1 ≤ ((w.alloc (Obj.cells #[Value.int .i64 b, Value.slice an rows.length cn, Value.slice ao out.length co] 69)).alloc (.cells #[] 3)).heap.size) := by show _ ≤ _; simp
  clear hH hq
  have hd1 := decide_eq_true (show (m : Int) ≤ 256 by omega)
  go_enter Tryz.func67, Tryz.ntmps67
  go_wp2
  obtain ⟨W, hW⟩ : ∃ W, W = (w.alloc (Obj.cells #[Value.int .i64 b, Value.slice an rows.length cn, Value.slice ao out.length co] 69)).alloc (.cells #[] 3) := ⟨_, rfl⟩
  rw [← hW] at HC2 HB2 HH HZ ⊢
  clear hW HB HC
  go_loopw [5, 6] (fun o' i' wr => ∃ i : Nat, i ≤ m ∧ i' = .int .i64 i ∧ Hid (Has (Value.int .i64) 3 wr (w.heap.size + 1) o' (termsG b rows out i)) ∧ Hid (Cells3 wr w.heap.size 69 (.int .i64 b) (.slice an rows.length cn) (.slice ao out.length co)) ∧ Hid (Below w.heap.size w wr) ∧ Hid (w.heap.size + 1 ≤ wr.heap.size)) (fun _ i' _ => m - (intOf i').toNat)
  case atStart => exact ⟨0, Nat.zero_le _, rfl, HH, HC2, HB2, HZ⟩
  case round =>
    obtain ⟨i, him, rfl, hown, hC, hB, hZ⟩ := hrel
    by_cases hlt : i < m
    · have k0 := hC.out.c0
      have k1 := hC.out.c1
      have k2 := hC.out.c2
      have HL := Lib.hid (termsG_len b rows out i)
      have HT := Lib.hid (ask_small HQ.out i (by omega))
      have HTS := Lib.hid (termsG_succ b rows out i)
      go_wp2_with fail
      refine (spec_is _ b rows out _ (HS.out.below hB.out)).mono ?_
      rintro e W1 ⟨rfl, b1⟩
      rw [HQ.out]
      have hB1 := Lib.hid (hB.out.trans (b1.mono hB.out.size))
      have hC1 := Lib.hid (hC.out.below b1)
      have hO1 := Lib.hid (hown.out.below b1)
      have hZ1 := Lib.hid (Nat.le_trans hZ.out b1.size)
      clear b1 k0 k1 k2 hB hC hown hZ
      have k0 := hC1.out.c0
      have k1 := hC1.out.c1
      have k2 := hC1.out.c2
      go_wp2_with fail
      refine (spec_termat _ b rows out _ (HS.out.below hB1.out) (i : Int)).mono ?_
      rintro e W2 ⟨rfl, b2⟩
      rw [HT.out]
      have hB2 := Lib.hid (hB1.out.trans (b2.mono hB1.out.size))
      have hC2 := Lib.hid (hC1.out.below b2)
      have hO2 := Lib.hid (hO1.out.below b2)
      have hZ2 := Lib.hid (Nat.le_trans hZ1.out b2.size)
      clear b2 k0 k1 k2 hB1 hC1 hO1 hZ1
      go_wp2_with (at_builtin; refine append_one (enc := Value.int .i64) (e := 3) W2 rfl _ _ 24 rfl (w.heap.size + 1) i0 (.int .i64 0) 8 Tryz.underlying24 hi hz0 hz1 hz2 rfl u5 (termsG b rows out i) rfl hO2.out (termG b rows out i) rfl (fun _ => rfl) (by rw [HL.out]; omega) (by rw [HL.out]; omega) hZ2.out ?_; intro v' w' hown' hgrow')
      have hB3 : Hid (Below w.heap.size w w') := hO2.out.frame hB2.out (Nat.le_succ _) hgrow'
      have hC3 := Lib.hid (hC2.out.grown hgrow' (fun e => by have := (hO2.out.lt _ e).1; omega))
      have hO3 := Lib.hid hown'
      rw [← HTS.out] at hO3
      have hZ3 := Lib.hid (Nat.le_trans hZ2.out hgrow'.size)
      clear hown' hgrow' hO2 hC2 hB2 hZ2
      go_wp2
      go_roundw
      case rel => exact ⟨i + 1, by omega, by go_num, hO3, hC3, hB3, hZ3⟩
      case measure => simp [intOf]; omega
    · obtain rfl : i = m := by omega
      go_wp2
      go_ret
      exact ⟨_, rfl, hown.out.mono (Nat.le_succ _), hB.out⟩
theorem spec_pref (v : Value) (b : Int) (rows : List (List Int)) (out : List Int) (w : World) (h : LiesS w v b rows out) (n : Int) :
    Calls Tryz.prog 67 #[v, .int .i64 n] w (Gives (Value.int .i64) 3 (prefV b rows out n) w) := by
  cases hs : prefB b rows out n with
  | false => rw [prefV, if_neg (by simp [hs])]; exact spec_pref_no v b rows out w h n hs
  | true =>
    rw [prefV, if_pos hs]
    simp only [prefB, Bool.and_eq_true, decide_eq_true_eq] at hs
    obtain ⟨m, rfl⟩ := Int.eq_ofNat_of_zero_le (show 0 ≤ n by omega)
    exact spec_pref_yes v b rows out w h m hs.1.1 (by omega) (by omega)
end Seqs
end Go.Proofs.YtfpdikohlafpiaaGreat
/- Contracts of the model's draws of words with several makers, of DrawSquaresOf and DrawHasPower. No conditions beyond those that each states. -/
namespace Go.Proofs.YtfpdikohlafpiaaGreat
open Go.ChangeShapes Go.WideShapes Go.ChangeAt Go.RowKit
open Go.PlainAid Plain
set_option linter.unusedVariables false
namespace Cursor
open Seqs Ints Mor
theorem grown_add {w w1 w2 : World} {c : Nat} (h : w.grownBy w1 (some c)) (g : w1.grownBy w2 (some c)) : w.grownBy w2 (some c) := grown_more h g (fun k hk => .inl (Option.some.inj hk).symm)
theorem grown_bel {w w1 w2 : World} {c : Nat} (h : w.grownBy w1 (some c)) (g : Below w1.heap.size w1 w2) : w.grownBy w2 (some c) := grown_more h (grown_of_below g) (fun k hk => by cases hk)
theorem grown_drew_left {w w' : World} {c : Nat} (h : w.drew.grownBy w' (some c)) : w.grownBy w' (some c) := ⟨h.os, h.tape, h.output, h.size, h.block⟩
theorem OwnM.moved' {w w' : World} {lo hi c : Nat} {v : Value} {m : List (List Int)} (h : OwnM w lo hi v m) (hg : w.grownBy w' (some c)) (hc : c < lo) : OwnM w' lo hi v m := by
  obtain ⟨vn, us, h1, h2⟩ := h
  exact ⟨vn, us, h1, ⟨h2.top.moved hg hc, h2.lt, Nat.le_trans h2.le hg.size, h2.rows.moved hg hc⟩⟩
theorem ownS_moved {w w' : World} {lo hi c : Nat} {v : Value} {b : Int} {rows : List (List Int)} {out : List Int} (h : OwnS w lo hi v b rows out) (hg : w.grownBy w' (some c)) (hc : c < lo) : OwnS w' lo hi v b rows out := by
  obtain ⟨vn, vo, us, h1, h2, h3⟩ := h
  exact ⟨vn, vo, us, h1, ⟨h2.top.moved hg hc, h2.lt, Nat.le_trans h2.le hg.size, h2.rows.moved hg hc⟩, h3.moved hg hc⟩
theorem Stands.bel {W w w' : World} {p : Nat} {a : Option Addr} {len cap : Nat} (h : Stands W w p a len cap) (hb : Below w.heap.size w w') : Stands W w' p a len cap := h.other (r := none) (grown_of_below hb) (fun q hq => by cases hq)
set_option maxRecDepth 100000 in
set_option maxHeartbeats 4000000 in
theorem long8 (W w : World) (c : Nat) (a : Option Addr) (len cap : Nat) (hlen : len ≤ 1048576) (hcode : CodeIs W W.heap.size a len) (hs : Stands W w c a len cap) :
    Calls Tryz.prog 58 #[.pointer (some ⟨c, 0, none⟩)] w (SomeList (fun xs => xs.length ≤ 300) w (fun w' => w.grownBy w' (some c) ∧ CurIs w' c a len cap)) := by
  obtain ⟨i0, hi, hz0, hz1, hz2⟩ := info_parts infoI
  have HB := Lib.hid (fun (w : World) (n : Int) (hn0 : 1 ≤ n) (hn1 : n ≤ 9223372036854775807) (hs : Stands W w c a len cap) => below W w c a len cap n hn0 hn1 hlen hcode hs)
  have HD := Lib.hid (fun (w : World) (hs : Stands W w c a len cap) => draw3 W w c a len cap hlen hcode hs)
  have HM := Lib.hid (fun (w : World) (hs : Stands W w c a len cap) => mor7 W w c a len cap hlen hcode hs)
  have HW := Lib.hid (fun (w : World) (n : Int) (h0 : 1 ≤ n) (h1 : n ≤ 100) (hs : Stands W w c a len cap) => word7 W w c a len cap n h0 h1 hlen hcode hs)
  have hcw := hs.lt
  have hown := hs.own
  have HS := Lib.hid hs
  clear hcode hs
  go_enter Tryz.func58, Tryz.ntmps58
  go_wp2_with fail
  refine (HB.out _ 4 (by decide) (by decide) HS.out).mono ?_
  rintro e W1 ⟨x, ⟨hx0, hx1⟩, rfl, hg1, hc1⟩
  have HS1 := Lib.hid (HS.out.next hg1 hc1)
  have HG1 := Lib.hid hg1
  have hsz1 := hg1.size
  clear hg1 hc1
  by_cases e0 : x = 0
  · subst e0
    go_wp2_with fail
    refine (HD.out _ HS1.out).mono ?_
    rintro e W2 ⟨vs, b0, rows, out, hok, rfl, ho, hg2, hc2⟩
    have HS2 := Lib.hid (HS1.out.next hg2 hc2)
    have HG2 := Lib.hid (grown_add HG1.out hg2)
    obtain ⟨an, cn, ao, co, rfl⟩ := ho.form
    have HL2 := Lib.hid ho
    have HX : Hid (c < W1.heap.size) := HS1.out.lt
    clear hg2 hc2 ho hok HS1 HG1
    go_upto_region 4 with (fail)
    obtain ⟨W3, hW3⟩ : ∃ W, W = W2.alloc (.cells #[.int .i64 b0, .slice an rows.length cn, .slice ao out.length co] 69) := ⟨_, rfl⟩
    have hb3 : Below W2.heap.size W2 W3 := by rw [hW3]; exact (Below.refl _ _).alloc (Nat.le_refl _) _
    have hC3 : Cells3 W3 W2.heap.size 69 (.int .i64 b0) (.slice an rows.length cn) (.slice ao out.length co) := by rw [hW3]; exact Cells3.new W2 _ _ _ _
    rw [← hW3]
    have HS3 := Lib.hid (HS2.out.bel hb3)
    have HG3 := Lib.hid (grown_bel HG2.out hb3)
    have HL3 := Lib.hid (HL2.out.below hb3)
    have HC3 := Lib.hid hC3
    have k0 := hC3.c0
    have k1 := hC3.c1
    have k2 := hC3.c2
    have hcq : Hid (c ≠ W2.heap.size) := fun e => by have := HS2.out.lt; omega
    have hD : Below W3.heap.size W3 W3.drew := below_drew' W3
    clear hW3 hb3 hC3 HS2 HG2 HL2
    go_region_law (first
      | (go_simp; go_at_call 55; (with_reducible refine (HB.out _ 40 (by decide) (by decide) HS3.out.drew).mono ?_); rintro e W4 ⟨y, ⟨hy0, hy1⟩, rfl, hg4, hc4⟩; have HG4 := Lib.hid (grown_add (grown_bel HG3.out hD) hg4); have HS4 := Lib.hid (HS3.out.drew.next hg4 hc4); have hg4' := grown_drew_left hg4; have HL4 := Lib.hid (ownS_moved HL3.out hg4' HX.out); have hC4 := HC3.out.grown hg4' (by have := hcq.out; simp; omega); have k0 := hC4.c0; have k1 := hC4.c1; have k2 := hC4.c2)
      | (go_simp; go_at_call 67; (with_reducible refine (spec_pref _ b0 rows out _ HL4.out.lies _).mono ?_); rintro e W5 ⟨v5, rfl, ho5, hb5⟩))
    all_goals
      have HO5 := Lib.hid ho5
      have HS5 := Lib.hid (HS4.out.bel hb5)
      have HG5 := Lib.hid (grown_bel HG4.out hb5)
      have HB5 : Hid (w.heap.size ≤ W4.heap.size) := HG4.out.size
      clear k0 k1 k2 ho5 hb5 hC4
      go_wp2
      go_ret
      exact ⟨_, _, Nat.le_trans (prefV_len _ _ _ _) (by omega), rfl, HO5.out.mono HB5.out, HG5.out, HS5.out.cur⟩
  · have d0 : (x == 0) = false := by simpa using e0
    by_cases e1 : x = 1
    · subst e1
      go_wp2_with fail
      refine (HM.out _ HS1.out).mono ?_
      rintro e W2 ⟨vs, m, rfl, ho, hg2, hc2⟩
      have HS2 := Lib.hid (HS1.out.next hg2 hc2)
      have HG2 := Lib.hid (grown_add HG1.out hg2)
      obtain ⟨an, cn, rfl⟩ := ho.form
      have HL2 := Lib.hid ho
      have HX : Hid (c < W1.heap.size) := HS1.out.lt
      clear hg2 hc2 ho HS1 HG1
      go_upto_region 7 with (fail)
      obtain ⟨W3, hW3⟩ : ∃ W, W = W2.alloc (.cells #[.slice an m.length cn] 73) := ⟨_, rfl⟩
      have hb3 : Below W2.heap.size W2 W3 := by rw [hW3]; exact (Below.refl _ _).alloc (Nat.le_refl _) _
      have hC3 : Cells1 W3 W2.heap.size 73 (.slice an m.length cn) := by rw [hW3]; exact Cells1.new W2 _ _
      rw [← hW3]
      have HS3 := Lib.hid (HS2.out.bel hb3)
      have HG3 := Lib.hid (grown_bel HG2.out hb3)
      have HL3 := Lib.hid (HL2.out.below hb3)
      have HC3 := Lib.hid hC3
      have k0 := hC3.c0
      have hcq : Hid (c ≠ W2.heap.size) := fun e => by have := HS2.out.lt; omega
      have hD : Below W3.heap.size W3 W3.drew := below_drew' W3
      clear hW3 hb3 hC3 HS2 HG2 HL2
      go_region_law (first
        | (go_simp; go_at_call 55; (with_reducible refine (HB.out _ 40 (by decide) (by decide) HS3.out.drew).mono ?_); rintro e W4 ⟨y, ⟨hy0, hy1⟩, rfl, hg4, hc4⟩; have HG4 := Lib.hid (grown_add (grown_bel HG3.out hD) hg4); have HS4 := Lib.hid (HS3.out.drew.next hg4 hc4); have hg4' := grown_drew_left hg4; have HL4 : Hid (OwnedM W4 (.agg #[.slice an m.length cn]) m) := (show OwnedM _ _ _ from ⟨_, _, OwnM.moved' HL3.out hg4' HX.out⟩); have hC4 := HC3.out.grown hg4' (by have := hcq.out; simp; omega); have k0 := hC4.c0)
        | (go_simp; go_at_call 69; (with_reducible refine (spec_fix _ m 0 _ _ HL4.out).mono ?_); rintro e W5 ⟨v5, rfl, ho5, hb5⟩))
      all_goals
        have HO5 := Lib.hid ho5
        have HS5 := Lib.hid (HS4.out.bel hb5)
        have HG5 := Lib.hid (grown_bel HG4.out hb5)
        have HB5 : Hid (w.heap.size ≤ W4.heap.size) := HG4.out.size
        clear k0 ho5 hb5 hC4
        go_wp2
        go_ret
        exact ⟨_, _, Nat.le_trans (fixV_len _ _ _) (by omega), rfl, HO5.out.mono HB5.out, HG5.out, HS5.out.cur⟩
    · have d1 : (x == 1) = false := by simpa using e1
      by_cases e2 : x = 2
      · subst e2
        go_wp2_with fail
        refine (HW.out _ 2 (by decide) (by decide) HS1.out).mono ?_
        rintro e W2 ⟨v2, xs, hxl, rfl, ho, hg2, hc2⟩
        have HS2 := Lib.hid (HS1.out.next hg2 hc2)
        have HG2 := Lib.hid (grown_add HG1.out hg2)
        have HL2 := Lib.hid ho.lies
        obtain ⟨an, cn, rfl, _⟩ := ho.form
        have hb2 : w.heap.size ≤ W2.heap.size := HG2.out.size
        have hbx : Below W2.heap.size W2 (W2.alloc (.cells #[] 3)) := (Below.refl _ _).alloc (Nat.le_refl _) _
        have HX0 : Hid (Has (Value.int .i64) 3 (W2.alloc (.cells #[] 3)) W2.heap.size (.slice (some ⟨W2.heap.size, 0, none⟩) 0 0) []) := has_lit0 rfl (Nat.le_refl _)
        have HLX := Lib.hid (HL2.out.below hbx)
        have HBX := Lib.hid hbx
        clear hg2 hc2 ho HS1 HG1 hbx
        go_wp2_with (first
          | (at_builtin; refine append_lies (enc := (Value.int .i64)) (e := 3) _ rfl (.tmp 36) (.tmp 37) 24 rfl W2.heap.size i0 (.int .i64 0) 8 Tryz.underlying24 hi hz0 hz1 hz2 rfl _ [] rfl HX0.out (.slice an xs.length cn) xs rfl HLX.out (fun _ => rfl) (by simp; omega) (by simp; omega) (by simp) ?_; intro v3 w3 ho3 hg3; have HO3 := Lib.hid ho3; have HB3 := Lib.hid (HX0.out.frame HBX.out (Nat.le_refl _) hg3); clear ho3 hg3)
          | (at_builtin; refine append_lies (enc := (Value.int .i64)) (e := 3) _ rfl (.tmp 38) (.tmp 39) 24 rfl W2.heap.size i0 (.int .i64 0) 8 Tryz.underlying24 hi hz0 hz1 hz2 rfl _ _ rfl HO3.out (.slice an xs.length cn) xs rfl (HL2.out.below HB3.out) (fun _ => rfl) (by simp; omega) (by simp; omega) HB3.out.size ?_; intro v4 w4 ho4 hg4; have HO4 := Lib.hid ho4; have HB4 := Lib.hid (HO3.out.frame HB3.out (Nat.le_refl _) hg4); clear ho4 hg4)
          | (at_builtin; refine append_lies (enc := (Value.int .i64)) (e := 3) _ rfl (.tmp 40) (.tmp 41) 24 rfl W2.heap.size i0 (.int .i64 0) 8 Tryz.underlying24 hi hz0 hz1 hz2 rfl _ _ rfl HO4.out (.slice an xs.length cn) xs rfl (HL2.out.below HB4.out) (fun _ => rfl) (by simp; omega) (by simp; omega) HB4.out.size ?_; intro v5 w5 ho5 hg5; have HO5 := Lib.hid ho5; have HB5 := Lib.hid (HO4.out.frame HB4.out (Nat.le_refl _) hg5); clear ho5 hg5))
        go_ret
        exact ⟨_, _, by simp; omega, rfl, HO5.out.mono hb2, grown_bel HG2.out HB5.out, (HS2.out.bel HB5.out).cur⟩
      · have d2 : (x == 2) = false := by simpa using e2
        go_wp2_with fail
        refine (HW.out _ 3 (by decide) (by decide) HS1.out).mono ?_
        rintro e W2 ⟨v2, xs, hxl, rfl, ho, hg2, hc2⟩
        have HS2 := Lib.hid (HS1.out.next hg2 hc2)
        have HG2 := Lib.hid (grown_add HG1.out hg2)
        have HO2 := Lib.hid ho
        clear hg2 hc2 ho HS1 HG1
        go_wp2
        go_ret
        exact ⟨_, _, by omega, rfl, HO2.out.mono hsz1, HG2.out, HS2.out.cur⟩
def nums8 : List Int := [-1, 16]
theorem nums8_ok : ∀ v ∈ nums8, I64 v := by unfold nums8 I64; simp
set_option maxRecDepth 100000 in
set_option maxHeartbeats 4000000 in
theorem any8 (W w : World) (c : Nat) (a : Option Addr) (len cap : Nat) (hlen : len ≤ 1048576) (hcode : CodeIs W W.heap.size a len) (hs : Stands W w c a len cap) :
    Calls Tryz.prog 52 #[.pointer (some ⟨c, 0, none⟩)] w (SomeList (fun xs => xs.length ≤ 301) w (fun w' => w.grownBy w' (some c) ∧ CurIs w' c a len cap)) := by
  obtain ⟨i0, hi, hz0, hz1, hz2⟩ := info_parts infoI
  have HN := Lib.hid (fun (w : World) (hs : Stands W w c a len cap) => long8 W w c a len cap hlen hcode hs)
  have HO := Lib.hid (fun (w : World) (hs : Stands W w c a len cap) => once W w c a len cap 16 (by decide) (by decide) hlen hcode hs)
  have HP := Lib.hid (fun (w : World) (q : Nat) (hq : q ≠ c) (hqs : q < w.heap.size) (hl : ListIs w q 2) (hs : Stands W w c a len cap) => pickInt W w c a len cap q 2 2 (by decide) (by decide) hq hqs hl hlen hcode hs)
  have hcw := hs.lt
  have hown := hs.own
  have HS := Lib.hid hs
  clear hcode hs
  go_enter Tryz.func52, Tryz.ntmps52
  go_wp2_with fail
  refine (HN.out _ HS.out).mono ?_
  rintro e W1 ⟨v1, xs, hxl, rfl, ho, hg1, hc1⟩
  have HS1 := Lib.hid (HS.out.next hg1 hc1)
  have HG1 := Lib.hid hg1
  have HO1 := Lib.hid ho
  clear hg1 hc1 ho
  go_wp2_with fail
  refine (HO.out _ HS1.out).mono ?_
  rintro e W2 ⟨t, rfl, hg2, hc2⟩
  have HS2 := Lib.hid (HS1.out.next hg2 hc2)
  have HG2 := Lib.hid (grown_add HG1.out hg2)
  have HO2 := Lib.hid (HO1.out.moved hg2 hcw)
  obtain ⟨an, cn, rfl, _⟩ := HO2.out.form
  clear hg2 hc2 HS1 HG1 HO1
  cases t with
  | false =>
    go_wp2
    go_ret
    exact ⟨_, _, by omega, rfl, HO2.out, HG2.out, HS2.out.cur⟩
  | true =>
    have hlt := HS2.out.lt
    have hb2 := HG2.out.size
    go_wp2_with fail
    refine (HP.out _ W2.heap.size (by omega) (by simp) (list_lit W2 nums8 _ nums8_ok) (HS2.out.alloc _)).mono ?_
    rintro e W3 ⟨y, hy, rfl, hg3, hc3⟩
    have HS3 := Lib.hid ((HS2.out.alloc _).next hg3 hc3)
    have hga := grown_add (grown_new (grown_self W2 c) _) hg3
    have HG3 := Lib.hid (grown_add HG2.out hga)
    have HO3 := Lib.hid (HO2.out.moved hga hcw)
    have hb3 : w.heap.size ≤ W3.heap.size := HG3.out.size
    clear hg3 hc3 hga HS2 HG2 HO2 hy hb2
    go_wp2_with (at_builtin; refine append_one (enc := (Value.int .i64)) (e := 3) W3 rfl _ _ 24 rfl w.heap.size i0 (.int .i64 0) 8 Tryz.underlying24 hi hz0 hz1 hz2 rfl (.slice an xs.length cn) xs rfl HO3.out y rfl (fun _ => rfl) (by omega) (by omega) hb3 ?_; intro v' w' hown' hgrow'; have HO4 := Lib.hid hown'; have HG4 := Lib.hid (grown_more HG3.out hgrow' (fun k hk => .inr (HO3.out.lt k hk).1)); have HS4 := Lib.hid (HS3.out.other hgrow' (fun k hk => by have := (HO3.out.lt k hk).1; omega)); clear hown' hgrow')
    go_ret
    exact ⟨_, _, by simp; omega, rfl, HO4.out, HG4.out, HS4.out.cur⟩
theorem new_st {W w w' : World} {p : Nat} {a : Option Addr} {len cap : Nat} (hb : Below W.heap.size W w) (hp : w.heap.size ≤ p) (hg : w.grownBy w' none) (hc : CurIs w' p a len cap) : Stands W w' p a len cap :=
  ⟨hb.grown hg hb.size (fun k hk => by cases hk), Nat.le_trans hb.size hp, hc⟩
end Cursor
end Go.Proofs.YtfpdikohlafpiaaGreat
/- Plain facts on the order of words, on the list of the different parts of a word, on places where a part begins and on borders. No conditions beyond those that each fact states. -/
namespace Go.Proofs.YtfpdikohlafpiaaGreat.Plain

/-- The order of words: -1, 0 or 1. -/
def cmpW : List Int → List Int → Int
  | [], [] => 0
  | [], _ :: _ => -1
  | _ :: _, [] => 1
  | x :: u, y :: v => if x < y then -1 else if y < x then 1 else cmpW u v
theorem cmpW_self : ∀ u : List Int, cmpW u u = 0
  | [] => rfl
  | x :: u => by simp [cmpW, cmpW_self u]
theorem cmpW_three : ∀ u v : List Int, cmpW u v = -1 ∨ cmpW u v = 0 ∨ cmpW u v = 1
  | [], [] => by simp [cmpW]
  | [], _ :: _ => by simp [cmpW]
  | _ :: _, [] => by simp [cmpW]
  | x :: u, y :: v => by
    have := cmpW_three u v
    unfold cmpW
    split
    · simp
    · split
      · simp
      · exact this
theorem cmpW_zero : ∀ u v : List Int, cmpW u v = 0 → u = v
  | [], [], _ => rfl
  | [], _ :: _, h => by simp [cmpW] at h
  | _ :: _, [], h => by simp [cmpW] at h
  | x :: u, y :: v, h => by
    unfold cmpW at h
    split at h
    · simp at h
    · split at h
      · simp at h
      · rw [cmpW_zero u v h, show x = y from by omega]
theorem cmpW_neg : ∀ u v : List Int, cmpW v u = - cmpW u v
  | [], [] => by simp [cmpW]
  | [], _ :: _ => by simp [cmpW]
  | _ :: _, [] => by simp [cmpW]
  | x :: u, y :: v => by
    have := cmpW_neg u v
    unfold cmpW
    by_cases h1 : x < y
    · have h2 : ¬ y < x := by omega
      simp [h1, h2]
    · by_cases h2 : y < x
      · simp [h1, h2]
      · simp [h1, h2, this]
theorem cmpW_trans : ∀ u v t : List Int, cmpW u v < 0 → cmpW v t < 0 → cmpW u t < 0
  | [], [], _, h, _ => by simp [cmpW] at h
  | _ :: _, [], _, h, _ => by simp [cmpW] at h
  | _, _ :: _, [], _, h => by simp [cmpW] at h
  | [], _ :: _, _ :: _, _, _ => by simp [cmpW]
  | x :: u, y :: v, z :: t, h1, h2 => by
    have ih := cmpW_trans u v t
    unfold cmpW at h1 h2 ⊢
    by_cases a1 : x < y
    · by_cases b1 : y < z
      · have : x < z := by omega
        simp [this]
      · by_cases b2 : z < y
        · simp [b1, b2] at h2
        · have : x < z := by omega
          simp [this]
    · by_cases a2 : y < x
      · simp [a1, a2] at h1
      · obtain rfl : x = y := by omega
        by_cases b1 : x < z
        · simp [b1]
        · by_cases b2 : z < x
          · simp [b1, b2] at h2
          · simp [b1, b2] at h1 h2 ⊢
            exact ih h1 h2
/-- The comparison's rounds. -/
theorem cmpW_at {u v : List Int} {i : Nat} {x y : Int} (hx : u[i]? = some x) (hy : v[i]? = some y) : cmpW (u.drop i) (v.drop i) = if x < y then -1 else if y < x then 1 else cmpW (u.drop (i + 1)) (v.drop (i + 1)) := by
  obtain ⟨h1, rfl⟩ := List.getElem?_eq_some_iff.1 hx
  obtain ⟨h2, rfl⟩ := List.getElem?_eq_some_iff.1 hy
  rw [List.drop_eq_getElem_cons h1, List.drop_eq_getElem_cons h2]
  rfl
theorem cmpW_short {u v : List Int} {i : Nat} (hx : i < u.length) (hy : v.length ≤ i) : cmpW (u.drop i) (v.drop i) = 1 := by
  rw [List.drop_eq_getElem_cons hx, List.drop_of_length_le hy]
  rfl
theorem cmpW_long {u v : List Int} {i : Nat} (hx : u.length ≤ i) (hy : i < v.length) : cmpW (u.drop i) (v.drop i) = -1 := by
  rw [List.drop_eq_getElem_cons hy, List.drop_of_length_le hx]
  rfl
theorem cmpW_both {u v : List Int} {i : Nat} (hx : u.length ≤ i) (hy : v.length ≤ i) : cmpW (u.drop i) (v.drop i) = 0 := by
  rw [List.drop_of_length_le hx, List.drop_of_length_le hy]
  rfl
/-- Words in strictly ascending order. -/
def SD (l : List (List Int)) : Prop := l.Pairwise fun u v => cmpW u v < 0
theorem sd_unique : ∀ l m : List (List Int), SD l → SD m → (∀ x, x ∈ l ↔ x ∈ m) → l = m
  | [], [], _, _, _ => rfl
  | [], b :: m, _, _, h => by have := (h b).2 (by simp); cases this
  | a :: l, [], _, _, h => by have := (h a).1 (by simp); cases this
  | a :: l, b :: m, hl, hm, h => by
    have hl' := List.pairwise_cons.1 hl
    have hm' := List.pairwise_cons.1 hm
    have hab : a = b := by
      rcases List.mem_cons.1 ((h a).1 (by simp)) with e | e
      · exact e
      · rcases List.mem_cons.1 ((h b).2 (by simp)) with e' | e'
        · exact e'.symm
        · have h1 := hm'.1 a e
          have h2 := hl'.1 b e'
          rw [cmpW_neg] at h1
          omega
    subst hab
    have nl : a ∉ l := fun e => by have := hl'.1 a e; rw [cmpW_self] at this; omega
    have nm : a ∉ m := fun e => by have := hm'.1 a e; rw [cmpW_self] at this; omega
    rw [sd_unique l m hl'.2 hm'.2 fun x => ⟨fun hx => by
      rcases List.mem_cons.1 ((h x).1 (by simp [hx])) with e | e
      · subst e; exact absurd hx nl
      · exact e, fun hx => by
      rcases List.mem_cons.1 ((h x).2 (by simp [hx])) with e | e
      · subst e; exact absurd hx nm
      · exact e⟩]
/-- A word put into a list in order, once; 'true': it is there already. -/
def putW (w : List Int) : Bool → List (List Int) → List (List Int)
  | c, [] => if c then [] else [w]
  | c, x :: l => (if cmpW w x < 0 ∧ c = false then [w] else []) ++ x :: putW w (c || decide (cmpW w x ≤ 0)) l
theorem putW_true (w : List Int) : ∀ l, putW w true l = l
  | [] => rfl
  | x :: l => by simp [putW, putW_true w l]
theorem putW_cons (w x : List Int) (l : List (List Int)) : putW w false (x :: l) = if cmpW w x < 0 then w :: x :: l else if cmpW w x = 0 then x :: l else x :: putW w false l := by
  have := cmpW_three w x
  rw [show putW w false (x :: l) = (if cmpW w x < 0 ∧ false = false then [w] else []) ++ x :: putW w (false || decide (cmpW w x ≤ 0)) l from rfl]
  rcases this with e | e | e <;> simp [e, putW_true]
theorem putW_mem (w : List Int) : ∀ l x, x ∈ putW w false l ↔ x = w ∨ x ∈ l
  | [], x => by simp [putW]
  | y :: l, x => by
    rw [putW_cons]
    split
    · simp
    · split
      · rename_i h
        have := cmpW_zero _ _ h
        subst this
        constructor
        · exact fun h => .inr h
        · rintro (h | h)
          · subst h; simp
          · exact h
      · rw [List.mem_cons, putW_mem w l x, List.mem_cons]
        constructor
        · rintro (h | h | h)
          · exact .inr (.inl h)
          · exact .inl h
          · exact .inr (.inr h)
        · rintro (h | h | h)
          · exact .inr (.inl h)
          · exact .inl h
          · exact .inr (.inr h)
theorem putW_sd (w : List Int) : ∀ l, SD l → SD (putW w false l)
  | [], _ => by simp [putW, SD]
  | y :: l, h => by
    have h' := List.pairwise_cons.1 h
    rw [putW_cons]
    split
    · rename_i hlt
      refine List.pairwise_cons.2 ⟨fun z hz => ?_, h⟩
      rcases List.mem_cons.1 hz with e | e
      · subst e; exact hlt
      · exact cmpW_trans _ _ _ hlt (h'.1 z e)
    · split
      · exact h
      · rename_i h1 h2
        refine List.pairwise_cons.2 ⟨fun z hz => ?_, putW_sd w l h'.2⟩
        rcases (putW_mem w l z).1 hz with e | e
        · subst e
          have := cmpW_neg z y
          omega
        · exact h'.1 z e
/-- The different words of a list, in order. -/
def sdl (ps : List (List Int)) : List (List Int) := ps.foldl (fun l p => putW p false l) []
theorem sdl_snoc (ps : List (List Int)) (p : List Int) : sdl (ps ++ [p]) = putW p false (sdl ps) := by simp [sdl]
theorem fold_sd : ∀ (ps l : List (List Int)), SD l → SD (ps.foldl (fun l p => putW p false l) l) ∧ ∀ x, x ∈ ps.foldl (fun l p => putW p false l) l ↔ x ∈ l ∨ x ∈ ps
  | [], l, h => ⟨h, fun x => by simp⟩
  | p :: ps, l, h => by
    obtain ⟨h1, h2⟩ := fold_sd ps (putW p false l) (putW_sd p l h)
    refine ⟨h1, fun x => (h2 x).trans ?_⟩
    rw [putW_mem, List.mem_cons]
    constructor
    · rintro ((h | h) | h)
      · exact .inr (.inl h)
      · exact .inl h
      · exact .inr (.inr h)
    · rintro (h | h | h)
      · exact .inl (.inr h)
      · exact .inl (.inl h)
      · exact .inr h
theorem sdl_sd (ps : List (List Int)) : SD (sdl ps) := (fold_sd ps [] List.Pairwise.nil).1
theorem sdl_mem (ps : List (List Int)) (x : List Int) : x ∈ sdl ps ↔ x ∈ ps := by simpa [sdl] using (fold_sd ps [] List.Pairwise.nil).2 x
theorem sdl_eq {ps l : List (List Int)} (h : SD l) (hm : ∀ x, x ∈ l ↔ x ∈ ps) : sdl ps = l := sd_unique _ _ (sdl_sd ps) h fun x => (sdl_mem ps x).trans (hm x).symm
theorem sdl_len (ps : List (List Int)) : (sdl ps).length ≤ ps.length := by
  have put_len : ∀ (w : List Int) l, (putW w false l).length ≤ l.length + 1 := fun w l => by
    induction l with
    | nil => simp [putW]
    | cons x l ih =>
      rw [putW_cons]
      split
      · simp
      · split <;> simp <;> omega
  have : ∀ (ps l : List (List Int)), (ps.foldl (fun l p => putW p false l) l).length ≤ l.length + ps.length := fun ps => by
    induction ps with
    | nil => simp
    | cons p ps ih =>
      intro l
      have h1 := ih (putW p false l)
      have h2 := put_len p l
      simp only [List.foldl_cons, List.length_cons]
      omega
  simpa [sdl] using this ps []
/-- Neighbours that are alike, once; what is alike is told by a key. -/
def ddF {β : Type} (key : β → List Int) : List Int → List β → List β
  | _, [] => []
  | p, y :: l => if key y = p then ddF key (key y) l else y :: ddF key (key y) l
def dd {β : Type} (key : β → List Int) : List β → List β
  | [] => []
  | x :: l => x :: ddF key (key x) l
theorem ddF_mem {β : Type} {key : β → List Int} : ∀ (p : List Int) (l : List β) (x : β), x ∈ ddF key p l → x ∈ l
  | _, [], _, h => h
  | p, y :: l, x, h => by
    unfold ddF at h
    split at h
    · exact List.mem_cons_of_mem _ (ddF_mem _ l x h)
    · rcases List.mem_cons.1 h with e | e
      · simp [e]
      · exact List.mem_cons_of_mem _ (ddF_mem _ l x e)
theorem dd_mem {β : Type} {key : β → List Int} (l : List β) (x : β) (h : x ∈ dd key l) : x ∈ l := by
  cases l with
  | nil => exact h
  | cons y l =>
    rcases List.mem_cons.1 h with e | e
    · simp [e]
    · exact List.mem_cons_of_mem _ (ddF_mem _ l x e)
theorem ddF_sd {β : Type} {key : β → List Int} : ∀ (p : List Int) (l : List β), (∀ x ∈ l, cmpW p (key x) ≤ 0) → (l.Pairwise fun u v => cmpW (key u) (key v) ≤ 0) → (∀ x ∈ ddF key p l, cmpW p (key x) < 0) ∧ SD ((ddF key p l).map key) ∧ ∀ x ∈ l, key x = p ∨ key x ∈ (ddF key p l).map key
  | p, [], _, _ => ⟨by simp [ddF], by simp [ddF, SD], by simp⟩
  | p, y :: l, h0, h1 => by
    have h2 := List.pairwise_cons.1 h1
    obtain ⟨i1, i2, i3⟩ := ddF_sd (key y) l (fun x hx => h2.1 x hx) h2.2
    unfold ddF
    split
    · rename_i e
      rw [e] at i1 i2 i3 ⊢
      refine ⟨i1, i2, fun x hx => ?_⟩
      rcases List.mem_cons.1 hx with e' | e'
      · subst e'; exact .inl e
      · exact i3 x e'
    · rename_i e
      have hpy : cmpW p (key y) < 0 := by
        have := h0 y (by simp)
        rcases cmpW_three p (key y) with a | a | a
        · omega
        · exact absurd (cmpW_zero _ _ a).symm e
        · omega
      refine ⟨fun x hx => ?_, ?_, fun x hx => ?_⟩
      · rcases List.mem_cons.1 hx with e' | e'
        · subst e'; exact hpy
        · exact cmpW_trans _ _ _ hpy (i1 x e')
      · rw [List.map_cons]
        refine List.pairwise_cons.2 ⟨fun z hz => ?_, i2⟩
        obtain ⟨x, hx, rfl⟩ := List.mem_map.1 hz
        exact i1 x hx
      · rcases List.mem_cons.1 hx with e' | e'
        · subst e'; exact .inr (by simp)
        · rcases i3 x e' with a | a
          · exact .inr (by simp [a])
          · exact .inr (by rw [List.map_cons]; exact List.mem_cons_of_mem _ a)
/-- What is left of a sorted list is its different words, in order. -/
theorem dd_sdl {β : Type} {key : β → List Int} {l : List β} {ps : List (List Int)} (h : l.Pairwise fun u v => cmpW (key u) (key v) ≤ 0) (hp : (l.map key).Perm ps) : (dd key l).map key = sdl ps := by
  have hm : ∀ x, x ∈ (dd key l).map key ↔ x ∈ ps := by
    intro x
    rw [← hp.mem_iff]
    constructor
    · intro hx
      obtain ⟨y, hy, rfl⟩ := List.mem_map.1 hx
      exact List.mem_map_of_mem (dd_mem l y hy)
    · intro hx
      obtain ⟨y, hy, rfl⟩ := List.mem_map.1 hx
      cases l with
      | nil => cases hy
      | cons z l =>
        have h2 := List.pairwise_cons.1 h
        rcases List.mem_cons.1 hy with e | e
        · subst e; simp [dd]
        · rcases (ddF_sd (key z) l h2.1 h2.2).2.2 y e with a | a
          · simp [dd, a]
          · rw [dd, List.map_cons]
            exact List.mem_cons_of_mem _ a
  refine (sdl_eq ?_ hm).symm
  cases l with
  | nil => simp [dd, SD]
  | cons z l =>
    have h2 := List.pairwise_cons.1 h
    obtain ⟨i1, i2, _⟩ := ddF_sd (key z) l h2.1 h2.2
    rw [dd, List.map_cons]
    refine List.pairwise_cons.2 ⟨fun x hx => ?_, i2⟩
    obtain ⟨y, hy, rfl⟩ := List.mem_map.1 hx
    exact i1 y hy
/-- The compaction's rounds. -/
theorem ddF_snoc {β : Type} {key : β → List Int} : ∀ (p : List Int) (l : List β) (y : β), ddF key p (l ++ [y]) = ddF key p l ++ (if key y = ((l.map key).getLast?).getD p then [] else [y])
  | p, [], y => by simp [ddF]
  | p, z :: l, y => by
    have ih := ddF_snoc (key := key) (key z) l y
    have e : (((z :: l).map key).getLast?).getD p = ((l.map key).getLast?).getD (key z) := by
      cases l with
      | nil => simp
      | cons a l => simp [List.getLast?_cons]
    rw [e, List.cons_append]
    unfold ddF
    rw [ih]
    split <;> simp
theorem dd_snoc {β : Type} {key : β → List Int} {l : List β} {k : Nat} {x y : β} (hx : l[k]? = some x) (hy : l[k + 1]? = some y) : dd key (l.take (k + 2)) = dd key (l.take (k + 1)) ++ (if key y = key x then [] else [y]) := by
  obtain ⟨h1, h1'⟩ := List.getElem?_eq_some_iff.1 hx
  obtain ⟨h2, h2'⟩ := List.getElem?_eq_some_iff.1 hy
  rw [show k + 2 = (k + 1) + 1 from rfl, List.take_succ_eq_append_getElem h2, h2']
  cases l with
  | nil => simp at h1
  | cons z l =>
    rw [List.take_succ_cons, List.cons_append]
    show z :: ddF key (key z) (l.take k ++ [y]) = (z :: ddF key (key z) (l.take k)) ++ _
    rw [ddF_snoc, List.cons_append]
    have : (((l.take k).map key).getLast?).getD (key z) = key x := by
      cases k with
      | zero => simp at hx; simp [hx]
      | succ k =>
        rw [List.getElem?_cons_succ] at hx
        obtain ⟨h3, h3'⟩ := List.getElem?_eq_some_iff.1 hx
        rw [List.take_succ_eq_append_getElem h3, h3']
        simp
    rw [this]
theorem dd_one {β : Type} {key : β → List Int} (l : List β) : dd key (l.take 1) = l.take 1 := by
  cases l with
  | nil => rfl
  | cons x l => simp [dd, ddF]
/-- The greatest number below n with a property, -1 where there is none. -/
def gr (p : Nat → Bool) : Nat → Int
  | 0 => -1
  | n + 1 => if p n then n else gr p n
theorem gr_ge (p : Nat → Bool) : ∀ n, -1 ≤ gr p n ∧ gr p n < n
  | 0 => by simp [gr]
  | n + 1 => by
    have := gr_ge p n
    unfold gr
    split <;> omega
theorem gr_top {p : Nat → Bool} {n : Nat} (h : p n = true) : gr p (n + 1) = n := by simp [gr, h]
theorem gr_skip {p : Nat → Bool} {n : Nat} (h : p n = false) : gr p (n + 1) = gr p n := by simp [gr, h]
theorem gr_is {p : Nat → Bool} : ∀ {n k : Nat}, gr p n = k → p k = true ∧ k < n
  | 0, k, h => by simp [gr] at h
  | n + 1, k, h => by
    unfold gr at h
    split at h
    · rename_i hp
      obtain rfl : n = k := by omega
      exact ⟨hp, by omega⟩
    · have := gr_is h
      exact ⟨this.1, by omega⟩
theorem gr_above {p : Nat → Bool} : ∀ {n j : Nat}, j < n → gr p n < j → p j = false
  | 0, j, h, _ => by omega
  | n + 1, j, h, hj => by
    unfold gr at hj
    split at hj
    · omega
    · rename_i hp
      by_cases e : j = n
      · subst e; simpa using hp
      · exact gr_above (n := n) (by omega) hj
/-- What fits below a bound already is found below it. -/
theorem gr_cut {p q : Nat → Bool} {n m : Nat} (hm : m ≤ n) (h1 : ∀ j, j < m → p j = q j) (h2 : ∀ j, m ≤ j → j < n → p j = false) : gr p n = gr q m := by
  induction n with
  | zero => obtain rfl : m = 0 := by omega
            rfl
  | succ n ih =>
    by_cases e : m = n + 1
    · subst e
      clear ih h2 hm
      induction n with
      | zero => unfold gr; rw [h1 0 (by omega)]; rfl
      | succ n ih =>
        have := ih fun j hj => h1 j (by omega)
        unfold gr
        rw [this, h1 (n + 1) (by omega)]
    · rw [gr_skip (h2 n (by omega) (by omega))]
      exact ih (by omega) fun j hj hj' => h2 j hj (by omega)
/-- Does the part's beginning of j letters stand at the end of the beginning of k letters. -/
def sfx (u : List Int) (k j : Nat) : Bool := decide (u.take j <:+ u.take k)
/-- The longest border of the first k letters. -/
def bd (u : List Int) (k : Nat) : Int := gr (sfx u k) k
/-- How many letters fit behind one more letter. -/
def fa (u : List Int) (k : Int) (c : Int) : Int := gr (fun j => sfx u k.toNat j && decide (u[j]? = some c)) (k + 1).toNat + 1
theorem bd_ge (u : List Int) (k : Nat) : -1 ≤ bd u k ∧ bd u k < k := gr_ge _ _
theorem bd_zero (u : List Int) : bd u 0 = -1 := rfl
theorem fa_none (u : List Int) (c : Int) : fa u (-1) c = 0 := rfl
theorem sfx_self (u : List Int) (k : Nat) : sfx u k k = true := by simp [sfx]
theorem fa_hit {u : List Int} {k : Nat} {c : Int} (h : u[k]? = some c) : fa u k c = k + 1 := by
  unfold fa
  rw [show ((k : Int) + 1).toNat = k + 1 from by omega, gr_top (by simp [sfx_self, h])]
/-- Two beginnings that both stand at the end of a list. -/
theorem suf_iff {u t : List Int} {j k : Nat} (hjk : j ≤ k) (h : u.take k <:+ t) : u.take j <:+ t ↔ u.take j <:+ u.take k := by
  constructor
  · intro hj
    refine List.suffix_of_suffix_length_le hj h ?_
    rw [List.length_take, List.length_take]
    omega
  · exact fun hj => hj.trans h
theorem fa_miss {u : List Int} {k : Nat} {c : Int} (h : u[k]? ≠ some c) : fa u k c = fa u (bd u k) c := by
  unfold fa
  rw [show ((k : Int) + 1).toNat = k + 1 from by omega, show ((k : Int)).toNat = k from by omega, gr_skip (by simp [h])]
  have hb := bd_ge u k
  have e : gr (fun j => sfx u k j && decide (u[j]? = some c)) k = gr (fun j => sfx u (bd u k).toNat j && decide (u[j]? = some c)) (bd u k + 1).toNat := by
    refine gr_cut (by omega) (fun j hj => ?_) fun j hj hj' => ?_
    · obtain ⟨b, hbk⟩ : ∃ b : Nat, bd u k = b := ⟨(bd u k).toNat, by omega⟩
      have h1 := gr_is (p := sfx u k) hbk
      rw [hbk]
      have : sfx u k j = sfx u b j := by
        unfold sfx
        have := h1.1
        unfold sfx at this
        exact decide_eq_decide.2 (suf_iff (by omega) (of_decide_eq_true this))
      rw [Int.toNat_natCast, this]
    · have := gr_above (p := sfx u k) hj' (by unfold bd at hj; omega)
      simp [this]
  rw [e]
/-- How many letters of the part, below n, stand at the end of a list. -/
def mt (u t : List Int) (n : Nat) : Int := gr (fun j => decide (u.take j <:+ t)) n
theorem suf_snoc {u t : List Int} {j : Nat} {c : Int} (hj : j < u.length) : u.take (j + 1) <:+ t ++ [c] ↔ u.take j <:+ t ∧ u[j]? = some c := by
  rw [List.take_succ_eq_append_getElem hj, List.getElem?_eq_getElem hj]
  constructor
  · rintro ⟨s, hs⟩
    rw [← List.append_assoc] at hs
    have := List.append_inj' hs rfl
    exact ⟨⟨s, this.1⟩, by simpa using this.2⟩
  · rintro ⟨⟨s, hs⟩, h2⟩
    obtain rfl := Option.some.inj h2
    exact ⟨s, by rw [← List.append_assoc, hs]⟩
theorem gr_shift {p q : Nat → Bool} (h0 : p 0 = true) : ∀ n, (∀ j, j < n → p (j + 1) = q j) → gr p (n + 1) = gr q n + 1
  | 0, _ => by simp [gr, h0]
  | n + 1, h => by
    have ih := gr_shift h0 n fun j hj => h j (by omega)
    have := h n (by omega)
    rw [show gr p (n + 1 + 1) = if p (n + 1) then ((n + 1 : Nat) : Int) else gr p (n + 1) from rfl, this, ih]
    show _ = (if q n then (n : Int) else gr q n) + 1
    split <;> omega
/-- One more letter. -/
theorem mt_snoc (u t : List Int) (c : Int) : mt u (t ++ [c]) (u.length + 1) = fa u (mt u t u.length) c := by
  unfold fa
  rw [show mt u (t ++ [c]) (u.length + 1) = gr (fun j => decide (u.take j <:+ t) && decide (u[j]? = some c)) u.length + 1 from
    gr_shift (by simp) _ fun j hj => by
      rw [Bool.eq_iff_iff, Bool.and_eq_true, decide_eq_true_eq, decide_eq_true_eq, decide_eq_true_eq]
      exact suf_snoc hj]
  have hb := gr_ge (fun j => decide (u.take j <:+ t)) u.length
  congr 1
  show _ = gr (fun j => sfx u (gr (fun j => decide (u.take j <:+ t)) u.length).toNat j && decide (u[j]? = some c)) (gr (fun j => decide (u.take j <:+ t)) u.length + 1).toNat
  refine gr_cut (by omega) (fun j hj => ?_) fun j hj hj' => ?_
  · obtain ⟨b, hbk⟩ : ∃ b : Nat, gr (fun j => decide (u.take j <:+ t)) u.length = b := ⟨(gr (fun j => decide (u.take j <:+ t)) u.length).toNat, by omega⟩
    have h1 := of_decide_eq_true (gr_is hbk).1
    rw [hbk, Int.toNat_natCast]
    have : decide (u.take j <:+ t) = sfx u b j := decide_eq_decide.2 (suf_iff (by omega) h1)
    rw [this]
  · have := gr_above (p := fun j => decide (u.take j <:+ t)) hj' (by omega)
    simp only [this, Bool.false_and]
/-- The part itself stands there: its longest border is what is left of it. -/
theorem mt_full {u t : List Int} (h : u <:+ t) : mt u t (u.length + 1) = u.length ∧ mt u t u.length = bd u u.length := by
  refine ⟨gr_top (by simpa using h), gr_cut (Nat.le_refl _) (fun j hj => ?_) fun j hj hj' => by omega⟩
  have h' : u.take u.length <:+ t := by rw [List.take_length]; exact h
  exact decide_eq_decide.2 (suf_iff (by omega) h')
theorem mt_not {u t : List Int} (h : ¬ u <:+ t) : mt u t (u.length + 1) = mt u t u.length := gr_skip (by simpa using h)
theorem mt_nil (u : List Int) : mt u [] (u.length + 1) = 0 := by
  have := @gr_shift (fun j => decide (u.take j <:+ [])) (fun _ => false) (by simp) u.length fun j hj => by
    have : ¬ u.take (j + 1) <:+ [] := fun h => by
      have := congrArg List.length (List.suffix_nil.1 h)
      rw [List.length_take, List.length_nil] at this
      omega
    simp [this]
  have e : ∀ n, gr (fun _ => false) n = -1 := fun n => by
    induction n with
    | zero => rfl
    | succ n ih => simp [gr, ih]
  rw [e] at this
  exact this
theorem mt_is {u t : List Int} (h : mt u t (u.length + 1) = u.length) : u <:+ t := by
  have := (gr_is h).1
  simpa using this
theorem mt_range (u t : List Int) : 0 ≤ mt u t (u.length + 1) ∧ mt u t (u.length + 1) ≤ u.length := by
  have h1 := gr_ge (fun j => decide (u.take j <:+ t)) (u.length + 1)
  refine ⟨?_, by unfold mt; omega⟩
  by_cases h : mt u t (u.length + 1) < 0
  · have := gr_above (p := fun j => decide (u.take j <:+ t)) (n := u.length + 1) (j := 0) (by omega) h
    simp at this
  · omega
/-- The border of one more letter. -/
theorem bd_succ {u : List Int} {i : Nat} {c : Int} (hc : u[i]? = some c) : bd u (i + 1) = fa u (bd u i) c := by
  obtain ⟨hi, hc'⟩ := List.getElem?_eq_some_iff.1 hc
  have e1 : bd u (i + 1) = gr (fun j => sfx u i j && decide (u[j]? = some c)) i + 1 := gr_shift (by simp [sfx]) _ fun j hj => by
    unfold sfx
    rw [List.take_succ_eq_append_getElem hi, hc', Bool.eq_iff_iff, Bool.and_eq_true, decide_eq_true_eq, decide_eq_true_eq, decide_eq_true_eq]
    exact suf_snoc (by omega)
  rw [e1]
  unfold fa
  have hb := bd_ge u i
  congr 1
  refine gr_cut (by omega) (fun j hj => ?_) fun j hj hj' => ?_
  · obtain ⟨b, hbk⟩ : ∃ b : Nat, bd u i = b := ⟨(bd u i).toNat, by omega⟩
    have h1 := (gr_is (p := sfx u i) hbk).1
    unfold sfx at h1
    rw [hbk, Int.toNat_natCast]
    have : sfx u i j = sfx u b j := decide_eq_decide.2 (suf_iff (by omega) (of_decide_eq_true h1))
    rw [this]
  · have := gr_above (p := sfx u i) hj' (by unfold bd at hj; omega)
    simp only [this, Bool.false_and]
theorem fa_ge (u : List Int) (k c : Int) (h : -1 ≤ k) : 0 ≤ fa u k c ∧ fa u k c ≤ k + 1 := by
  have := gr_ge (fun j => sfx u k.toNat j && decide (u[j]? = some c)) (k + 1).toNat
  unfold fa
  omega
/-- The places where a part begins. -/
def occ (w u : List Int) : List Int := ((List.range (w.length + 1 - u.length)).filter fun i => decide ((w.drop i).take u.length = u)).map fun i : Nat => (i : Int)
/-- The places where it begins and has ended by e, e not counted. -/
def occE (w u : List Int) (e : Nat) : List Int := ((List.range e).filter fun k => decide (u <:+ w.take k)).map fun k : Nat => (k : Int) - u.length
theorem occE_zero (w u : List Int) : occE w u 0 = [] := rfl
theorem occE_yes {w u : List Int} {e : Nat} (h : u <:+ w.take e) : occE w u (e + 1) = occE w u e ++ [(e : Int) - u.length] := by simp [occE, List.range_succ, List.filter_append, h]
theorem occE_no {w u : List Int} {e : Nat} (h : ¬ u <:+ w.take e) : occE w u (e + 1) = occE w u e := by simp [occE, List.range_succ, List.filter_append, h]
theorem occE_le (w u : List Int) : ∀ e, (occE w u e).length ≤ e := fun e => by
  unfold occE
  rw [List.length_map]
  have := List.length_filter_le (fun k => decide (u <:+ w.take k)) (List.range e)
  simpa using this
theorem suf_at {w u : List Int} {k : Nat} (hk : k ≤ w.length) : u <:+ w.take k ↔ u.length ≤ k ∧ (w.drop (k - u.length)).take u.length = u := by
  constructor
  · intro h
    have hl := h.length_le
    rw [List.length_take] at hl
    refine ⟨by omega, ?_⟩
    have := List.suffix_iff_eq_drop.1 h
    rw [List.length_take, Nat.min_eq_left hk, List.drop_take] at this
    rw [show k - (k - u.length) = u.length from by omega] at this
    exact this.symm
  · rintro ⟨h1, h2⟩
    rw [List.suffix_iff_eq_drop, List.length_take, Nat.min_eq_left hk, List.drop_take, show k - (k - u.length) = u.length from by omega]
    exact h2.symm
theorem occE_eq (w u : List Int) : ∀ e, e ≤ w.length + 1 → occE w u e = ((List.range (e - u.length)).filter fun i => decide ((w.drop i).take u.length = u)).map fun i : Nat => (i : Int)
  | 0, _ => by simp [occE]
  | e + 1, h => by
    have ih := occE_eq w u e (by omega)
    have hs := suf_at (w := w) (u := u) (k := e) (by omega)
    by_cases hu : u <:+ w.take e
    · obtain ⟨h1, h2⟩ := hs.1 hu
      rw [occE_yes hu, ih, show e + 1 - u.length = (e - u.length) + 1 from by omega, List.range_succ, List.filter_append, List.map_append]
      have : ((e - u.length : Nat) : Int) = (e : Int) - u.length := by omega
      simp [h2, this]
    · rw [occE_no hu, ih]
      by_cases hle : u.length ≤ e
      · rw [show e + 1 - u.length = (e - u.length) + 1 from by omega, List.range_succ, List.filter_append]
        have : ¬ (w.drop (e - u.length)).take u.length = u := fun h2 => hu (hs.2 ⟨hle, h2⟩)
        simp [this]
      · rw [show e + 1 - u.length = 0 from by omega, show e - u.length = 0 from by omega]
theorem occE_all (w u : List Int) : occE w u (w.length + 1) = occ w u := occE_eq w u _ (Nat.le_refl _)
theorem occ_len (w u : List Int) : (occ w u).length ≤ w.length + 1 := by rw [← occE_all]; exact occE_le w u _
/-- The model's rounds. -/
def occT (w u : List Int) (i : Nat) : List Int := ((List.range i).filter fun i => decide ((w.drop i).take u.length = u)).map fun i : Nat => (i : Int)
theorem occT_zero (w u : List Int) : occT w u 0 = [] := rfl
theorem occT_yes {w u : List Int} {i : Nat} (h : (w.drop i).take u.length = u) : occT w u (i + 1) = occT w u i ++ [(i : Int)] := by simp [occT, List.range_succ, List.filter_append, h]
theorem occT_no {w u : List Int} {i : Nat} (h : ¬ (w.drop i).take u.length = u) : occT w u (i + 1) = occT w u i := by simp [occT, List.range_succ, List.filter_append, h]
theorem occT_all {w u : List Int} {i : Nat} (h : i = w.length + 1 - u.length) : occT w u i = occ w u := by rw [h]; rfl
theorem occT_len (w u : List Int) (i : Nat) : (occT w u i).length ≤ i := by
  unfold occT
  rw [List.length_map]
  have := List.length_filter_le (fun i => decide ((w.drop i).take u.length = u)) (List.range i)
  simpa using this
theorem occ_at {w u : List Int} {k : Nat} {x : Int} (h : (occ w u)[k]? = some x) : 0 ≤ x ∧ x + u.length ≤ w.length := by
  have hm := List.mem_of_getElem? h
  obtain ⟨i, hi, rfl⟩ := List.mem_map.1 hm
  have := List.mem_range.1 (List.mem_filter.1 hi).1
  omega
theorem range_map_asc (p : Nat → Bool) : ∀ n, (((List.range n).filter p).map fun i : Nat => (i : Int)).Pairwise (· < ·) := fun n => by
  refine List.pairwise_map.2 ?_
  have h : (List.range n).Pairwise (· < ·) := List.pairwise_lt_range
  exact (h.filter p).imp fun h => by omega
theorem occ_asc {w u : List Int} {k : Nat} {x y : Int} (hx : (occ w u)[k]? = some x) (hy : (occ w u)[k + 1]? = some y) : x < y := by
  obtain ⟨h1, rfl⟩ := List.getElem?_eq_some_iff.1 hx
  obtain ⟨h2, rfl⟩ := List.getElem?_eq_some_iff.1 hy
  have : (occ w u).Pairwise (· < ·) := range_map_asc (fun i => decide ((w.drop i).take u.length = u)) _
  exact List.pairwise_iff_getElem.1 this k (k + 1) h1 h2 (by omega)
end Go.Proofs.YtfpdikohlafpiaaGreat.Plain
/- Plain facts on borders and periods of a word, on its root and on its palindromes. No conditions beyond those that each fact states. -/
namespace Go.Proofs.YtfpdikohlafpiaaGreat.Plain
/-- A beginning of at least one letter has a border. -/
theorem bd_pos (u : List Int) {n : Nat} (h : 0 < n) : 0 ≤ bd u n := by
  by_cases hb : bd u n < 0
  · have := gr_above (p := sfx u n) (n := n) (j := 0) h hb
    simp [sfx] at this
  · omega
/-- All borders of the first n letters, in ascending order. -/
def brs (u : List Int) (n : Nat) : List Int :=
  if _h : n = 0 then [] else brs u (bd u n).toNat ++ [bd u n]
termination_by n
decreasing_by have := bd_ge u n; omega
theorem brs_zero (u : List Int) : brs u 0 = [] := by unfold brs; simp
theorem brs_pos (u : List Int) {n : Nat} (h : 0 < n) : brs u n = brs u (bd u n).toNat ++ [bd u n] := by
  conv => lhs; unfold brs
  rw [dif_neg (by omega)]
theorem brs_len (u : List Int) : ∀ n, (brs u n).length ≤ n := fun n => by
  induction n using Nat.strongRecOn with
  | ind n ih =>
    by_cases h : n = 0
    · subst h; rw [brs_zero]; exact Nat.le_refl _
    · rw [brs_pos u (by omega)]
      have h1 := bd_ge u n
      have h2 := bd_pos u (n := n) (by omega)
      have := ih (bd u n).toNat (by omega)
      simp; omega
theorem brs_range (u : List Int) : ∀ n x, x ∈ brs u n → 0 ≤ x ∧ x < n := fun n => by
  induction n using Nat.strongRecOn with
  | ind n ih =>
    intro x hx
    by_cases h : n = 0
    · subst h; rw [brs_zero] at hx; cases hx
    · rw [brs_pos u (by omega)] at hx
      have h1 := bd_ge u n
      have h2 := bd_pos u (n := n) (by omega)
      rcases List.mem_append.1 hx with hx | hx
      · have := ih (bd u n).toNat (by omega) x hx
        omega
      · obtain rfl := List.mem_singleton.1 hx
        omega
/-- The borders of a word; what is left of its length; the least of that. -/
def brV (u : List Int) : List Int := brs u u.length
def prV (u : List Int) : List Int := (brV u).reverse.map fun b => (u.length : Int) - b
def lpN (u : List Int) : Nat := ((u.length : Int) - bd u u.length).toNat
def lpV (u : List Int) : Int := if u.length = 0 then 0 else (u.length : Int) - bd u u.length
theorem brV_len (u : List Int) : (brV u).length ≤ u.length := brs_len u _
theorem prV_len (u : List Int) : (prV u).length ≤ u.length := by simpa [prV] using brV_len u
theorem brV_nil {u : List Int} (h : u.length = 0) : brV u = [] := by unfold brV; rw [h]; exact brs_zero u
theorem prV_nil {u : List Int} (h : u.length = 0) : prV u = [] := by simp [prV, brV_nil h]
theorem lpV_nil {u : List Int} (h : u.length = 0) : lpV u = 0 := by simp [lpV, h]
theorem prV_first {u : List Int} (h : 0 < u.length) : (prV u)[0]? = some (lpV u) := by
  unfold prV brV lpV
  rw [brs_pos u h, List.reverse_append, if_neg (by omega)]
  rfl
theorem prV_pos {u : List Int} (h : 0 < u.length) : 0 < (prV u).length := by
  have := prV_first h
  exact (List.getElem?_eq_some_iff.1 this).1
theorem lpV_range {u : List Int} (h : 0 < u.length) : 0 < lpV u ∧ lpV u ≤ u.length := by
  have h1 := bd_ge u u.length
  have h2 := bd_pos u h
  unfold lpV
  rw [if_neg (by omega)]
  omega
theorem lpN_eq {u : List Int} (h : 0 < u.length) : (lpN u : Int) = lpV u := by
  have h1 := bd_ge u u.length
  unfold lpN lpV
  rw [if_neg (by omega)]
  omega
/-- p is a period: letters at that distance are equal. -/
def Per (u : List Int) (p : Nat) : Prop := ∀ j, j + p < u.length → u[j + p]? = u[j]?
theorem per_iff {u : List Int} {j : Nat} (hj : j ≤ u.length) : sfx u u.length j = true ↔ Per u (u.length - j) := by
  unfold sfx Per
  rw [decide_eq_true_eq, List.take_length]
  constructor
  · rintro ⟨s, hs⟩ i hi
    have hl := congrArg List.length hs
    rw [List.length_append, List.length_take] at hl
    have e : u[i + (u.length - j)]? = (s ++ u.take j)[i + (u.length - j)]? := by rw [hs]
    rw [e, List.getElem?_append_right (by omega), List.getElem?_take]
    rw [show i + (u.length - j) - s.length = i from by omega]
    rw [if_pos (by omega)]
  · intro h
    refine ⟨u.take (u.length - j), ?_⟩
    refine List.ext_getElem? fun i => ?_
    rcases Nat.lt_or_ge i (u.length - j) with h1 | h1
    · rw [List.getElem?_append_left (by rw [List.length_take]; omega), List.getElem?_take, if_pos h1]
    · rw [List.getElem?_append_right (by rw [List.length_take]; omega), List.getElem?_take, List.length_take, show i - min (u.length - j) u.length = i - (u.length - j) from by omega]
      rcases Nat.lt_or_ge i u.length with h2 | h2
      · rw [if_pos (by omega)]
        have := h (i - (u.length - j)) (by omega)
        rw [show i - (u.length - j) + (u.length - j) = i from by omega] at this
        exact this.symm
      · rw [List.getElem?_eq_none h2]
        split
        · omega
        · rfl
theorem lpN_per {u : List Int} (h : 0 < u.length) : 0 < lpN u ∧ lpN u ≤ u.length ∧ Per u (lpN u) ∧ ∀ q, 0 < q → q ≤ u.length → Per u q → lpN u ≤ q := by
  have h1 := bd_ge u u.length
  have h2 := bd_pos u h
  obtain ⟨b, hb⟩ : ∃ b : Nat, bd u u.length = b := ⟨(bd u u.length).toNat, by omega⟩
  have e : lpN u = u.length - b := by unfold lpN; omega
  have hg := gr_is (p := sfx u u.length) hb
  refine ⟨by omega, by omega, ?_, fun q hq hqn hp => ?_⟩
  · rw [e]; exact (per_iff (by omega)).1 hg.1
  · rcases Nat.lt_or_ge q (lpN u) with h3 | h3
    · have hf := gr_above (p := sfx u u.length) (n := u.length) (j := u.length - q) (by omega) (by unfold bd at hb; omega)
      have := (per_iff (u := u) (j := u.length - q) (by omega)).2 (by rw [show u.length - (u.length - q) = q from by omega]; exact hp)
      rw [this] at hf
      cases hf
    · exact h3
theorem per_mod {u : List Int} {p : Nat} (hp : 0 < p) (h : Per u p) : ∀ j, j < u.length → u[j]? = u[j % p]? := fun j => by
  induction j using Nat.strongRecOn with
  | ind j ih =>
    intro hj
    rcases Nat.lt_or_ge j p with h1 | h1
    · rw [Nat.mod_eq_of_lt h1]
    · have h2 := ih (j - p) (by omega) (by omega)
      have h3 := h (j - p) (by omega)
      rw [show j - p + p = j from by omega] at h3
      rw [h3, h2, ← Nat.mod_eq_sub_mod h1]
/-- Periods that are short enough: what is left of one by the other is one, too. -/
theorem per_sub {u : List Int} {p q : Nat} (hp : Per u p) (hq : Per u q) (hpq : p ≤ q) (hs : p + q ≤ u.length) : Per u (q - p) := by
  intro j hj
  rcases Nat.lt_or_ge j p with h | h
  · have h1 := hq j (by omega)
    have h2 := hp (j + (q - p)) (by omega)
    rw [show j + (q - p) + p = j + q from by omega] at h2
    rw [← h2, h1]
  · have h1 := hp (j - p) (by omega)
    rw [show j - p + p = j from by omega] at h1
    have h2 := hq (j - p) (by omega)
    rw [show j - p + q = j + (q - p) from by omega] at h2
    rw [h2, h1]
theorem per_rem {u : List Int} {p : Nat} (h0 : 0 < p) (hp : Per u p) : ∀ q, Per u q → p + q ≤ u.length → Per u (q % p) := fun q => by
  induction q using Nat.strongRecOn with
  | ind q ih =>
    intro hq hs
    rcases Nat.lt_or_ge q p with h1 | h1
    · rw [Nat.mod_eq_of_lt h1]; exact hq
    · rw [Nat.mod_eq_sub_mod h1]
      exact ih (q - p) (by omega) (per_sub hp hq h1 hs) (by omega)
/-- Turning the word by i places leaves it as it is. -/
def Rot (u : List Int) (i : Nat) : Prop := ∀ j, j < u.length → u[(j + i) % u.length]? = u[j]?
theorem rot_sub {u : List Int} {a b : Nat} (ha : Rot u a) (hb : Rot u b) (h : a ≤ b) : Rot u (b - a) := by
  intro j hj
  have h1 := ha ((j + (b - a)) % u.length) (Nat.mod_lt _ (by omega))
  rw [← h1, Nat.mod_add_mod, show j + (b - a) + a = j + b from by omega]
  exact hb j hj
theorem rot_rem {u : List Int} {a : Nat} (h0 : 0 < a) (ha : Rot u a) : ∀ b, Rot u b → Rot u (b % a) := fun b => by
  induction b using Nat.strongRecOn with
  | ind b ih =>
    intro hb
    rcases Nat.lt_or_ge b a with h1 | h1
    · rw [Nat.mod_eq_of_lt h1]; exact hb
    · rw [Nat.mod_eq_sub_mod h1]
      exact ih (b - a) (by omega) (rot_sub ha hb h1)
theorem rot_per {u : List Int} {i : Nat} (h : Rot u i) : Per u i := by
  intro j hj
  have := h j (by omega)
  rw [Nat.mod_eq_of_lt hj] at this
  exact this
theorem per_rot {u : List Int} {p : Nat} (hp : 0 < p) (h : Per u p) (hd : u.length % p = 0) : Rot u p := by
  intro j hj
  have h1 := per_mod hp h _ (Nat.mod_lt (j + p) (show 0 < u.length by omega))
  rw [h1, per_mod hp h j hj, Nat.mod_mod_of_dvd _ (Nat.dvd_of_mod_eq_zero hd), Nat.add_mod_right]
/-- The length of the root. -/
def rlN (u : List Int) : Nat := if u.length % lpN u = 0 then lpN u else u.length
theorem rlN_range {u : List Int} (h : 0 < u.length) : 0 < rlN u ∧ rlN u ≤ u.length := by
  have := lpN_per h
  unfold rlN
  split <;> omega
theorem rlN_rot {u : List Int} (h : 0 < u.length) : Rot u (rlN u) ∧ ∀ d, 0 < d → d < rlN u → ¬ Rot u d := by
  obtain ⟨l1, l2, l3, l4⟩ := lpN_per h
  have hn : Rot u u.length := fun j hj => by rw [Nat.add_mod_right, Nat.mod_eq_of_lt hj]
  by_cases hd : u.length % lpN u = 0
  · have e : rlN u = lpN u := by unfold rlN; rw [if_pos hd]
    rw [e]
    exact ⟨per_rot l1 l3 hd, fun d h1 h2 hr => by
      have := l4 d h1 (by omega) (rot_per hr)
      omega⟩
  · have e : rlN u = u.length := by unfold rlN; rw [if_neg hd]
    rw [e]
    refine ⟨hn, fun d h1 h2 hr => hd ?_⟩
    -- the least turn divides the length, and the least period divides it
    obtain ⟨m, hm⟩ : ∃ m, (0 < m ∧ Rot u m) ∧ ∀ k, k < m → ¬ (0 < k ∧ Rot u k) := by
      have : ∀ n, (0 < n ∧ Rot u n) → ∃ m, (0 < m ∧ Rot u m) ∧ ∀ k, k < m → ¬ (0 < k ∧ Rot u k) := fun n => by
        induction n using Nat.strongRecOn with
        | ind n ih =>
          intro hn
          by_cases hk : ∃ k, k < n ∧ (0 < k ∧ Rot u k)
          · obtain ⟨k, hk1, hk2⟩ := hk
            exact ih k hk1 hk2
          · exact ⟨n, hn, fun k hk1 hk2 => hk ⟨k, hk1, hk2⟩⟩
      exact this d ⟨h1, hr⟩
    have hmd : m ≤ d := Nat.le_of_not_lt fun hlt => hm.2 d hlt ⟨h1, hr⟩
    have hr2 := rot_rem hm.1.1 hm.1.2 _ hn
    have hz : u.length % m = 0 := by
      rcases Nat.eq_zero_or_pos (u.length % m) with h3 | h3
      · exact h3
      · exact absurd ⟨h3, hr2⟩ (hm.2 _ (Nat.mod_lt _ hm.1.1))
    have hpm := rot_per hm.1.2
    have hlm := l4 m hm.1.1 (by omega) hpm
    have hmn : m < u.length := by
      rcases Nat.lt_or_ge m u.length with h3 | h3
      · exact h3
      · omega
    have h2m : m + m ≤ u.length := by
      have h3 := Nat.div_add_mod u.length m
      rw [hz, Nat.add_zero] at h3
      obtain ⟨c, hc⟩ : ∃ c, c = u.length / m := ⟨_, rfl⟩
      rw [← hc] at h3
      clear hc
      rcases Nat.lt_or_ge c 2 with h4 | h4
      · have h5 : c = 0 ∨ c = 1 := by omega
        rcases h5 with h5 | h5 <;> rw [h5] at h3 <;> omega
      · have h6 := Nat.mul_le_mul_left m h4
        omega
    have hrem := per_rem l1 l3 m hpm (by omega)
    have hz2 : m % lpN u = 0 := by
      rcases Nat.eq_zero_or_pos (m % lpN u) with h3 | h3
      · exact h3
      · have h4 := l4 _ h3 (by have := Nat.mod_lt m l1; omega) hrem
        have := Nat.mod_lt m l1
        omega
    exact Nat.mod_eq_zero_of_dvd (Nat.dvd_trans (Nat.dvd_of_mod_eq_zero hz2) (Nat.dvd_of_mod_eq_zero hz))
theorem rot_iff {u : List Int} {i : Nat} (hi : i ≤ u.length) : ((u ++ u).drop i).take u.length = u ↔ Rot u i := by
  have e : ∀ j, j < u.length → (((u ++ u).drop i).take u.length)[j]? = u[(j + i) % u.length]? := fun j hj => by
    rw [List.getElem?_take, if_pos hj, List.getElem?_drop]
    rcases Nat.lt_or_ge (i + j) u.length with h1 | h1
    · rw [List.getElem?_append_left h1, Nat.add_comm j i, Nat.mod_eq_of_lt h1]
    · rw [List.getElem?_append_right h1, Nat.add_comm j i, Nat.mod_eq_sub_mod h1, Nat.mod_eq_of_lt (by omega)]
  constructor
  · intro h j hj
    rw [← e j hj, h]
  · intro h
    refine List.ext_getElem? fun j => ?_
    rcases Nat.lt_or_ge j u.length with h1 | h1
    · rw [e j h1, h j h1]
    · rw [List.getElem?_eq_none h1, List.getElem?_eq_none (by rw [List.length_take]; omega)]
/-- A list of places from 0 on, of which the first two are known. -/
theorem filter_two {p : Nat → Bool} {n d : Nat} (h0 : p 0 = true) (hd : p d = true) (hd0 : 0 < d) (hn : d < n) (hno : ∀ k, 0 < k → k < d → p k = false) : (((List.range n).filter p).map fun i : Nat => (i : Int))[1]? = some (d : Int) := by
  have e : List.range n = [0] ++ ((List.range (d - 1)).map (fun k => k + 1) ++ ([d] ++ (List.range (n - d - 1)).map fun k => k + d + 1)) := by
    refine List.ext_getElem (by simp; omega) fun i h1 h2 => ?_
    rw [List.getElem_range]
    rw [List.length_range] at h1
    rcases Nat.eq_zero_or_pos i with h | h
    · subst h; rfl
    · rw [List.getElem_append_right (show [0].length ≤ i from h)]
      rcases Nat.lt_or_ge i d with h3 | h3
      · rw [List.getElem_append_left (by simp; omega)]
        simp
        omega
      · rw [List.getElem_append_right (by simp <;> omega)]
        rcases Nat.eq_or_lt_of_le h3 with h4 | h4
        · subst h4
          rw [List.getElem_append_left (by simp <;> omega)]
          simp
        · rw [List.getElem_append_right (by simp <;> omega)]
          simp <;> omega
  rw [e, List.filter_append, List.filter_append, List.filter_append]
  have h1 : List.filter p ((List.range (d - 1)).map fun k => k + 1) = [] := by
    rw [List.filter_eq_nil_iff]
    intro a ha
    obtain ⟨k, hk, rfl⟩ := List.mem_map.1 ha
    rw [List.mem_range] at hk
    simp [hno (k + 1) (by omega) (by omega)]
  rw [h1]
  simp [h0, hd]
theorem occ_double {u : List Int} (h : 0 < u.length) : (occ (u ++ u) u)[1]? = some (rlN u : Int) := by
  have hr := rlN_rot h
  have hl := rlN_range h
  unfold occ
  have e : (u ++ u).length + 1 - u.length = u.length + 1 := by rw [List.length_append]; omega
  rw [e]
  refine filter_two ?_ ?_ hl.1 (by omega) fun k hk hk' => ?_
  · exact decide_eq_true ((rot_iff (Nat.zero_le _)).2 fun j hj => by rw [Nat.add_zero, Nat.mod_eq_of_lt hj])
  · exact decide_eq_true ((rot_iff hl.2).2 hr.1)
  · exact decide_eq_false fun hc => hr.2 k hk hk' ((rot_iff (by omega)).1 hc)
def rlV (u : List Int) : Nat := if u.length = 0 then 0 else rlN u
def pmB (u : List Int) : Bool := decide (0 < u.length) && decide (rlV u = u.length)
def rtV (u : List Int) : List Int := u.take (rlV u)
theorem rlV_le (u : List Int) : rlV u ≤ u.length := by
  unfold rlV
  split
  · omega
  · exact (rlN_range (by omega)).2
theorem rtV_len (u : List Int) : (rtV u).length ≤ u.length := by simp [rtV]; omega
theorem rlV_nil {u : List Int} (h : u.length = 0) : rlV u = 0 := by simp [rlV, h]
theorem rlV_yes {u : List Int} (h : 0 < u.length) (hd : (u.length : Int).tmod (lpV u) = 0) : (rlV u : Int) = lpV u := by
  have h1 := lpN_eq h
  have h2 : (u.length : Int).tmod (lpV u) = ((u.length % lpN u : Nat) : Int) := by rw [← h1]; rfl
  unfold rlV rlN
  rw [if_neg (by omega), if_pos (by omega)]
  exact h1
theorem rlV_no {u : List Int} (h : 0 < u.length) (hd : (u.length : Int).tmod (lpV u) ≠ 0) : rlV u = u.length := by
  have h1 := lpN_eq h
  have h2 : (u.length : Int).tmod (lpV u) = ((u.length % lpN u : Nat) : Int) := by rw [← h1]; rfl
  unfold rlV rlN
  rw [if_neg (by omega), if_neg (by omega)]
theorem rlV_occ {u : List Int} (h : 0 < u.length) : (occ (u ++ u) u)[1]? = some (rlV u : Int) := by
  rw [occ_double h]
  unfold rlV
  rw [if_neg (by omega)]
theorem pmB_nil {u : List Int} (h : u.length = 0) : pmB u = false := by simp [pmB, h]
theorem pmB_pos {u : List Int} (h : 0 < u.length) : pmB u = decide ((rlV u : Int) = (u.length : Int)) := by
  unfold pmB
  rw [decide_eq_true h, Bool.true_and]
  exact decide_eq_decide.2 ⟨fun e => by rw [e], fun e => by omega⟩
theorem rtV_yes {u : List Int} {p : Nat} (h : 0 < u.length) (hd : (u.length : Int).tmod (lpV u) = 0) (hp : lpV u = p) : rtV u = u.take p := by
  have := rlV_yes h hd
  unfold rtV
  rw [show rlV u = p from by omega]
theorem rtV_no {u : List Int} (h : 0 < u.length) (hd : (u.length : Int).tmod (lpV u) ≠ 0) : rtV u = u := by
  unfold rtV
  rw [rlV_no h hd, List.take_length]
theorem rtV_nil {u : List Int} (h : u.length = 0) : rtV u = [] := by unfold rtV; rw [List.eq_nil_of_length_eq_zero h]; simp
end Go.Proofs.YtfpdikohlafpiaaGreat.Plain
