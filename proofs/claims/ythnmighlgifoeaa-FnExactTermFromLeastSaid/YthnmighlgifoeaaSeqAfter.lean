/- Contracts of StateAfter, of the program and of the model. No conditions beyond those that each states. -/
import Derived.Test.YthnmighlgifoeaaSeqSteady
import Derived.Test.YthnmighlgifoeaaSeqEq
import Derived.Test.YthnmighlgifoeaaDigits3
import Derived.Deep.RegionHeld3
namespace Go.Proofs.Ythnmighlgifoeaa
open Go.ChangeShapes Go.WideShapes Go.ChangeAt Go.RowKit
open Go.PlainAid Plain
set_option linter.unusedVariables false
namespace Seqs
theorem spec_after_no (v : Value) (b : Int) (rows : List (List Int)) (out : List Int) (w : World) (h : LiesS w v b rows out) (u : Value) (ds : List Int) (hu : Lies (Value.int .i64) w u ds) (hno : seqB b rows out = false ∨ areD b ds = false) :
    Calls Try.prog 61 #[v, u] w fun e w' => e = .returned (.int .i64 (-1)) ∧ Below w.heap.size w w' := by
  have HS := Lib.hid h
  obtain ⟨an, cn, ao, co, rfl⟩ := h.form
  clear h
  have hB : Below w.heap.size w (w.alloc (Obj.cells #[Value.int .i64 b, Value.slice an rows.length cn, Value.slice ao out.length co] 27)) := (Below.refl _ _).alloc (Nat.le_refl _) _
  have HC := Lib.hid (Cells3.new w 27 (.int .i64 b) (.slice an rows.length cn) (.slice ao out.length co))
  have HB := Lib.hid hB
  clear hB
  have HU := Lib.hid hu
  obtain ⟨_, au, cu, rfl, _, _⟩ := hu
  cases hs : seqB b rows out with
  | false =>
    have HQ := Lib.hid hs
    clear hs hno
    go_enter Try.func61, Try.ntmps61
    go_wp2_with fail
    refine (spec_is _ b rows out _ (HS.out.below HB.out)).mono ?_
    rintro e W1 ⟨rfl, b1⟩
    have HB1 := Lib.hid (HB.out.trans (b1.mono HB.out.size))
    rw [HQ.out]
    clear b1
    go_wp2
    go_ret
    exact ⟨rfl, HB1.out⟩
  | true =>
    have HQ := Lib.hid hs
    have HA : Hid (areD b ds = false) := by
      rcases hno with h1 | h1
      · rw [hs] at h1; cases h1
      · exact h1
    clear hs hno
    go_enter Try.func61, Try.ntmps61
    go_wp2_with fail
    refine (spec_is _ b rows out _ (HS.out.below HB.out)).mono ?_
    rintro e W1 ⟨rfl, b1⟩
    have HB1 := Lib.hid (HB.out.trans (b1.mono HB.out.size))
    have HC1 := Lib.hid (HC.out.below b1)
    rw [HQ.out]
    clear b1
    have k0 := HC1.out.c0
    have k1 := HC1.out.c1
    have k2 := HC1.out.c2
    go_wp2_with fail
    refine (Digits.spec_are _ ds b _ (HU.out.below HB1.out)).mono ?_
    rintro e w' ⟨rfl, rfl⟩
    rw [HA.out]
    go_wp2
    go_ret
    exact ⟨rfl, HB1.out⟩
theorem spec_after_yes (v : Value) (b : Int) (rows : List (List Int)) (out : List Int) (w : World) (h : LiesS w v b rows out) (u : Value) (ds : List Int) (hu : Lies (Value.int .i64) w u ds) (hs : seqB b rows out = true) (ha : areD b ds = true) :
    Calls Try.prog 61 #[v, u] w fun e w' => e = .returned (.int .i64 (afterS rows ds)) ∧ Below w.heap.size w w' := by
  have HS := Lib.hid h
  obtain ⟨an, cn, ao, co, rfl⟩ := h.form
  clear h
  have hB : Below w.heap.size w (w.alloc (Obj.cells #[Value.int .i64 b, Value.slice an rows.length cn, Value.slice ao out.length co] 27)) := (Below.refl _ _).alloc (Nat.le_refl _) _
  have HC := Lib.hid (Cells3.new w 27 (.int .i64 b) (.slice an rows.length cn) (.slice ao out.length co))
  have HB := Lib.hid hB
  clear hB
  have HU := Lib.hid hu
  obtain ⟨hul, au, cu, rfl, _, _⟩ := hu
  have HQ := Lib.hid hs
  have HA := Lib.hid ha
  have HV := Lib.hid (seqB_out hs)
  have HD := Lib.hid (areD_out ha).2.2.2
  have HN0 := Lib.hid (seqB_out hs).2.2.1
  clear hs ha
  go_enter Try.func61, Try.ntmps61
  go_wp2_with fail
  refine (spec_is _ b rows out _ (HS.out.below HB.out)).mono ?_
  rintro e W1 ⟨rfl, b1⟩
  have HB1 := Lib.hid (HB.out.trans (b1.mono HB.out.size))
  have HC1 := Lib.hid (HC.out.below b1)
  rw [HQ.out]
  clear b1
  have k0 := HC1.out.c0
  have k1 := HC1.out.c1
  have k2 := HC1.out.c2
  go_wp2_with fail
  refine (Digits.spec_are _ ds b _ (HU.out.below HB1.out)).mono ?_
  rintro e w' ⟨rfl, rfl⟩
  rw [HA.out]
  obtain ⟨hN, _⟩ := (HS.out.below HB1.out).cells
  obtain ⟨_, au', cu', hua, _, huc⟩ := HU.out.below HB1.out
  injection hua with hua1 _ _
  subst hua1
  have HN := Lib.hid hN
  have HUC := Lib.hid huc
  have HBn : Hid (∀ n, Below w.heap.size w (W1.drewN n)) := fun n => below_drewN HB1.out n
  clear hN huc
  go_wp2
  go_loopw [5, 6] (fun s' i' wr => ∃ i sn : Nat, i ≤ ds.length ∧ i' = .int .i64 i ∧ s' = .int .i64 sn ∧ Hid ((sn : Int) = afterS rows (ds.take i)) ∧ ∃ n, wr = W1.drewN n) (fun _ i' _ => ds.length - (intOf i').toNat)
  case atStart => exact ⟨0, 0, Nat.zero_le _, rfl, rfl, rfl, 0, rfl⟩
  case round =>
    obtain ⟨i, sn, hi, rfl, rfl, HI, n, rfl⟩ := hrel
    by_cases hlt : i < ds.length
    · obtain ⟨dn, yn, hd, hsn, hyn, hy, r, hr, hry⟩ := HV.out.after_step HD.out hlt HI.out
      obtain ⟨g, t, rfl, hcd⟩ := HUC.out i _ hd
      obtain ⟨p, o, a', c', rfl, hcell, hrow⟩ := HN.out sn r hr
      obtain ⟨q, s, rfl, hcy⟩ := hrow dn _ hry
      have hdn := (List.getElem?_eq_some_iff.1 hry).1
      have HY := Lib.hid hy
      clear hd hy hr hry hrow
      go_wp2
      go_quiet (fail)
      go_wp2
      go_roundw
      case rel => exact ⟨i + 1, yn, by omega, by go_num, rfl, HY.out, _, rfl⟩
      case measure => simp [intOf]; omega
    · have HE : Hid ((sn : Int) = afterS rows ds) := by
        have := HI.out
        rw [List.take_of_length_le (by omega)] at this
        exact this
      go_wp2
      go_ret
      exact ⟨ret_i HE.out, HBn.out _⟩
theorem impl_walk (v : Value) (b : Int) (rows : List (List Int)) (out : List Int) (w : World) (h : LiesS w v b rows out) (u : Value) (ds : List Int) (hu : Lies (Value.int .i64) w u ds) (hv : IsSeq b rows out) (hd : ∀ d ∈ ds, 0 ≤ d ∧ d < b) :
    Calls Try.prog 65 #[v, u] w fun e w' => e = .returned (.int .i64 (afterS rows ds)) ∧ Below w.heap.size w w' := by
  have HS := Lib.hid h
  obtain ⟨an, cn, ao, co, rfl⟩ := h.form
  clear h
  have hB : Below w.heap.size w (w.alloc (Obj.cells #[Value.int .i64 b, Value.slice an rows.length cn, Value.slice ao out.length co] 27)) := (Below.refl _ _).alloc (Nat.le_refl _) _
  have HC := Lib.hid (Cells3.new w 27 (.int .i64 b) (.slice an rows.length cn) (.slice ao out.length co))
  have HB := Lib.hid hB
  clear hB
  have HU := Lib.hid hu
  obtain ⟨hul, au, cu, rfl, _, _⟩ := hu
  have HV := Lib.hid hv
  have HD := Lib.hid hd
  clear hv hd
  obtain ⟨W, hW⟩ : ∃ W, W = w.alloc (Obj.cells #[Value.int .i64 b, Value.slice an rows.length cn, Value.slice ao out.length co] 27) := ⟨_, rfl⟩
  obtain ⟨z, hz⟩ : ∃ z, z = w.heap.size := ⟨_, rfl⟩
  go_enter Try.func65, Try.ntmps65
  go_wp2
  rw [← hW] at HC HB ⊢
  obtain ⟨hN, _⟩ := (HS.out.below HB.out).cells
  obtain ⟨_, au', cu', hua, _, huc⟩ := HU.out.below HB.out
  injection hua with hua1 _ _
  subst hua1
  have HN := Lib.hid hN
  have HUC := Lib.hid huc
  have k1 := HC.out.c1
  rw [← hz] at k1 ⊢
  clear hN huc hW hz
  go_loop [5, 10] (fun s' i' => ∃ i sn : Nat, i ≤ ds.length ∧ i' = .int .i64 i ∧ s' = .int .i64 sn ∧ Hid ((sn : Int) = afterS rows (ds.take i))) (fun _ i' => ds.length - (intOf i').toNat)
  case atStart => exact ⟨0, 0, Nat.zero_le _, rfl, rfl, rfl⟩
  case round =>
    obtain ⟨i, sn, hi, rfl, rfl, HI⟩ := hrel
    by_cases hlt : i < ds.length
    · obtain ⟨dn, yn, hd, hsn, hyn, hy, r, hr, hry⟩ := HV.out.after_step HD.out hlt HI.out
      obtain ⟨g, t, rfl, hcd⟩ := HUC.out i _ hd
      obtain ⟨p, o, a', c', rfl, hcell, hrow⟩ := HN.out sn r hr
      obtain ⟨q, s, rfl, hcy⟩ := hrow dn _ hry
      have hdn := (List.getElem?_eq_some_iff.1 hry).1
      have HY := Lib.hid hy
      clear hd hy hr hry hrow
      go_wp2
      go_round
      case rel => exact ⟨i + 1, yn, by omega, by go_num, rfl, HY.out⟩
      case measure => simp [intOf]; omega
    · have HE : Hid ((sn : Int) = afterS rows ds) := by
        have := HI.out
        rw [List.take_of_length_le (by omega)] at this
        exact this
      go_wp2
      go_ret
      exact ⟨ret_i HE.out, HB.out⟩
theorem spec_after (v : Value) (b : Int) (rows : List (List Int)) (out : List Int) (w : World) (h : LiesS w v b rows out) (u : Value) (ds : List Int) (hu : Lies (Value.int .i64) w u ds) :
    Calls Try.prog 61 #[v, u] w fun e w' => e = .returned (.int .i64 (afterV b rows out (areD b ds) ds)) ∧ Below w.heap.size w w' := by
  cases hs : seqB b rows out with
  | false => rw [afterV, if_neg (by simp [hs])]; exact spec_after_no v b rows out w h u ds hu (.inl hs)
  | true =>
    cases ha : areD b ds with
    | false => rw [afterV, if_neg (by simp)]; exact spec_after_no v b rows out w h u ds hu (.inr ha)
    | true => rw [afterV, if_pos ⟨hs, rfl⟩]; exact spec_after_yes v b rows out w h u ds hu hs ha
end Seqs
end Go.Proofs.Ythnmighlgifoeaa
