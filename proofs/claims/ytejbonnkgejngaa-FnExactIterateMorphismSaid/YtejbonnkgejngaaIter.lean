/- Contracts of IterateMorphism, of the model and of the program. No conditions beyond those that each states. -/
import Derived.Test.YtejbonnkgejngaaAddI
namespace Go.Proofs.Ytejbonnkgejngaa
open Go.ChangeShapes Go.WideShapes Go.ChangeAt Go.RowKit
open Go.PlainAid Plain
set_option linter.unusedVariables false
namespace Mor
open Seqs
theorem itK_no1 {m : List (List Int)} {a n : Int} (h : morB m = false) : iterK m a n = false := by simp [iterK, h]
theorem itK_no2 {m : List (List Int)} {a n : Int} (h : letB m a = false) : iterK m a n = false := by simp [iterK, h]
theorem itK_no3 {m : List (List Int)} {a n : Int} (h : n < 0 ∨ 20 < n) : iterK m a n = false := by
  have : decide (0 ≤ n ∧ n ≤ 20) = false := decide_eq_false (by omega)
  simp [iterK, this]
theorem itK_no4 {m : List (List Int)} {a : Int} {n i : Nat} {L : List Int} (h : itF m a i = some L) (hk : appK m L = false) (hi : i < n) : iterK m a n = false := by
  have h1 : itF m a (i + 1) = none := by rw [itF_succ h, hk]; rfl
  have h2 := itF_none h1 (n - (i + 1))
  rw [show i + 1 + (n - (i + 1)) = n from by omega] at h2
  simp [iterK, h2]
theorem itK_yes {m : List (List Int)} {a : Int} {n : Nat} {L : List Int} (h1 : morB m = true) (h2 : letB m a = true) (h3 : n ≤ 20) (h : itF m a n = some L) : iterK m a n = true ∧ iterV m a n = L := by
  have e : iterK m a n = true := by simp [iterK, h1, h2, h]; omega
  refine ⟨e, ?_⟩
  simp [iterV, e, h]
theorem it_no {m : List (List Int)} {a n : Int} {W : World} {e : Ending} {W' : World} (h : iterK m a n = false) (hg : GivesIK [] false W e W') : GivesIK (iterV m a n) (iterK m a n) W e W' := by simp only [iterV, h]; exact hg
theorem it_yes {m : List (List Int)} {a n : Int} {L : List Int} {W : World} {e : Ending} {W' : World} (h : iterK m a n = true ∧ iterV m a n = L) (hg : GivesIK L true W e W') : GivesIK (iterV m a n) (iterK m a n) W e W' := by rw [h.1, h.2]; exact hg
theorem one_word {m : List (List Int)} {a : Int} (h : morB m = true) : wordB [a] m.length = letB m a := by
  have := morB_out h
  unfold wordB letB
  rw [decide_eq_decide]
  constructor
  · intro h; exact h.2.2.2 a (by simp)
  · intro h
    exact ⟨by have := this.1; omega, by have := this.2.1; omega, by simp, fun x hx => by rw [List.mem_singleton] at hx; subst hx; exact h⟩
set_option maxHeartbeats 1000000 in
theorem impl_iter (v : Value) (m : List (List Int)) (a n : Int) (w : World) (h : LiesM w v m) :
    Calls Try.prog 27 #[v, .int .i64 a, .int .i64 n] w (GivesIK (iterV m a n) (iterK m a n) w) := by
  obtain ⟨an, cn, rfl⟩ := h.form
  have HM := Lib.hid h
  have HB : Hid (Below w.heap.size w (w.alloc (Obj.cells #[Value.slice an m.length cn] 31))) := (Below.refl _ _).alloc (Nat.le_refl _) _
  have HC := Lib.hid (Cells1.new w 31 (.slice an m.length cn))
  clear h
  go_enter Try.func27, Try.ntmps27
  go_wp2_with fail
  refine (impl_mor _ m _ (HM.out.below HB.out)).mono ?_
  rintro e W1 ⟨rfl, hb⟩
  have HB1 := Lib.hid (HB.out.trans (hb.mono HB.out.size))
  have HC1 := Lib.hid (HC.out.below hb)
  have k0 := HC1.out.c0
  clear hb HC HB
  obtain ⟨c, hc⟩ : ∃ c, morB m = c := ⟨_, rfl⟩
  rw [hc]
  have HMB := Lib.hid hc
  clear hc
  cases c with
  | false =>
    go_wp2
    go_ret2
    exact it_no (itK_no1 HMB.out) ⟨_, rfl, has_none _ _, HB1.out⟩
  | true =>
    go_wp2_with fail
    refine (has_let _ m a _ (HM.out.below HB1.out)).mono ?_
    rintro e W2 ⟨rfl, hb⟩
    have HB2 := Lib.hid (HB1.out.trans (hb.mono HB1.out.size))
    have HC2 := Lib.hid (HC1.out.below hb)
    clear hb HC1 HB1 k0
    have k0 := HC2.out.c0
    obtain ⟨c, hc⟩ : ∃ c, letB m a = c := ⟨_, rfl⟩
    rw [hc]
    have HLB := Lib.hid hc
    clear hc
    cases c with
    | false =>
      go_wp2
      go_ret2
      exact it_no (itK_no2 HLB.out) ⟨_, rfl, has_none _ _, HB2.out⟩
    | true =>
      by_cases hn0 : n < 0
      · have hd := decide_eq_true hn0
        go_wp2
        go_ret2
        exact it_no (itK_no3 (.inl hn0)) ⟨_, rfl, has_none _ _, HB2.out⟩
      · have hd := decide_eq_false hn0
        by_cases hn1 : n > 20
        · have hd1 := decide_eq_true hn1
          go_wp2
          go_ret2
          exact it_no (itK_no3 (.inr hn1)) ⟨_, rfl, has_none _ _, HB2.out⟩
        · have hd1 := decide_eq_false hn1
          obtain ⟨N, rfl⟩ : ∃ N : Nat, n = N := ⟨n.toNat, by omega⟩
          have hN : N ≤ 20 := by omega
          have HO3 : Hid (Has (Value.int .i64) 3 (W2.alloc (Obj.cells #[.int .i64 a] 3)) w.heap.size (.slice (some ⟨W2.heap.size, 0, none⟩) 1 1) [a]) := has_lit1 (enc := (Value.int .i64)) a rfl HB2.out.size
          have HB3 : Hid (Below w.heap.size w (W2.alloc (Obj.cells #[.int .i64 a] 3))) := HB2.out.alloc HB2.out.size _
          have HC3 := Lib.hid (HC2.out.alloc (Obj.cells #[.int .i64 a] 3))
          clear HC2 HB2
          go_wp2
          clear k0 hd hd1 hn0 hn1
          generalize W2.alloc (Obj.cells #[.int .i64 a] 3) = W3 at HO3 HB3 HC3 ⊢
          go_loopw [8, 30] (fun o' i' wr => ∃ (i : Nat) (vo : Value) (L : List Int), i ≤ N ∧ i' = .int .i64 i ∧ vo = o' ∧ Hid (itF m a i = some L) ∧ Hid (Has (Value.int .i64) 3 wr w.heap.size vo L) ∧ Hid (Cells1 wr w.heap.size 31 (.slice an m.length cn)) ∧ Hid (Below w.heap.size w wr)) (fun _ i' _ => N - (intOf i').toNat)
          case atStart => exact ⟨0, _, [a], Nat.zero_le _, rfl, rfl, rfl, HO3, HC3, HB3⟩
          case round =>
            obtain ⟨i, vo, L, hi', rfl, rfl, HI, HOr, HCr, HBr⟩ := hrel
            by_cases hlt : i < N
            · have k0 := HCr.out.c0
              go_wp2_with fail
              refine (impl_app _ _ m L _ (HM.out.below HBr.out) HOr.out.lies).mono ?_
              rintro e W4 ⟨v4, rfl, ho, hb⟩
              have HO4 := Lib.hid (ho.mono HBr.out.size)
              have HB4 := Lib.hid (HBr.out.trans (hb.mono HBr.out.size))
              have HC4 := Lib.hid (HCr.out.below hb)
              clear ho hb HBr HCr k0 HOr
              obtain ⟨c, hc⟩ : ∃ c, appK m L = c := ⟨_, rfl⟩
              rw [hc]
              have HAK := Lib.hid hc
              clear hc
              cases c with
              | false =>
                go_wp2
                go_ret2
                exact it_no (itK_no4 HI.out HAK.out hlt) ⟨_, rfl, has_none _ _, HB4.out⟩
              | true =>
                have HI2 : Hid (itF m a (i + 1) = some (appL m L)) := by show _ = _; rw [itF_succ HI.out, HAK.out]; rfl
                rw [appV_yes HAK.out] at HO4
                go_wp2
                go_roundw
                case rel => exact ⟨i + 1, v4, _, by omega, by go_num, rfl, HI2, HO4, HC4, HB4⟩
                case measure => simp [intOf]; omega
            · obtain rfl : i = N := by omega
              go_wp2
              go_ret2
              exact it_yes (itK_yes HMB.out HLB.out hN HI.out) ⟨_, rfl, HOr.out, HBr.out⟩
set_option maxHeartbeats 1000000 in
theorem spec_iter (v : Value) (m : List (List Int)) (a n : Int) (w : World) (h : LiesM w v m) :
    Calls Try.prog 26 #[v, .int .i64 a, .int .i64 n] w (GivesIK (iterV m a n) (iterK m a n) w) := by
  obtain ⟨an, cn, rfl⟩ := h.form
  have HM := Lib.hid h
  have HB : Hid (Below w.heap.size w ((w.alloc (Obj.cells #[Value.slice an m.length cn] 31)).alloc (Obj.cells #[.int .i64 a] 3))) := ((Below.refl _ _).alloc (Nat.le_refl _) _).alloc (by simp) _
  have HC := Lib.hid ((Cells1.new w 31 (.slice an m.length cn)).alloc (Obj.cells #[.int .i64 a] 3))
  have HO : Hid (Has (Value.int .i64) 3 ((w.alloc (Obj.cells #[Value.slice an m.length cn] 31)).alloc (Obj.cells #[.int .i64 a] 3)) w.heap.size (.slice (some ⟨w.heap.size + 1, 0, none⟩) 1 1) [a]) := has_lit1 (enc := (Value.int .i64)) a (by simp) (by simp)
  clear h
  go_enter Try.func26, Try.ntmps26
  go_wp2_with fail
  refine (spec_mor _ m _ (HM.out.below HB.out)).mono ?_
  rintro e W1 ⟨rfl, hb⟩
  have HB1 := Lib.hid (HB.out.trans (hb.mono HB.out.size))
  have HC1 := Lib.hid (HC.out.below hb)
  have HO1 := Lib.hid (HO.out.below hb)
  have k0 := HC1.out.c0
  clear hb HC HB HO
  obtain ⟨c, hc⟩ : ∃ c, morB m = c := ⟨_, rfl⟩
  rw [hc]
  have HMB := Lib.hid hc
  clear hc
  cases c with
  | false =>
    go_wp2
    go_ret2
    exact it_no (itK_no1 HMB.out) ⟨_, rfl, has_lit0 rfl HB1.out.size, HB1.out.alloc HB1.out.size _⟩
  | true =>
    go_wp2_with fail
    refine (spec_word _ [a] m.length _ HO1.out.lies).mono ?_
    rintro e w' ⟨rfl, rfl⟩
    rw [one_word HMB.out]
    obtain ⟨c, hc⟩ : ∃ c, letB m a = c := ⟨_, rfl⟩
    rw [hc]
    have HLB := Lib.hid hc
    clear hc
    cases c with
    | false =>
      go_wp2
      go_ret2
      exact it_no (itK_no2 HLB.out) ⟨_, rfl, has_lit0 rfl HB1.out.size, HB1.out.alloc HB1.out.size _⟩
    | true =>
      by_cases hn : 0 ≤ n ∧ n ≤ 20
      · obtain ⟨hn0, hn1⟩ := hn
        obtain ⟨N, rfl⟩ := Int.eq_ofNat_of_zero_le hn0
        have hN : N ≤ 20 := by omega
        go_wp2_with fail
        refine (l1In_yes _ _ _ _ hn0 hn1).mono ?_
        rintro e w' ⟨rfl, rfl⟩
        go_wp2
        clear k0 hn0 hn1
        go_loopw [8, 9] (fun o' i' wr => ∃ (i : Nat) (vo : Value) (L : List Int), i ≤ N ∧ i' = .int .i64 i ∧ vo = o' ∧ Hid (itF m a i = some L) ∧ Hid (Has (Value.int .i64) 3 wr w.heap.size vo L) ∧ Hid (Cells1 wr w.heap.size 31 (.slice an m.length cn)) ∧ Hid (Below w.heap.size w wr)) (fun _ i' _ => N - (intOf i').toNat)
        case atStart => exact ⟨0, _, [a], Nat.zero_le _, rfl, rfl, rfl, HO1, HC1, HB1⟩
        case round =>
          obtain ⟨i, vo, L, hi', rfl, rfl, HI, HOr, HCr, HBr⟩ := hrel
          by_cases hlt : i < N
          · have k0 := HCr.out.c0
            go_wp2_with fail
            refine (spec_app _ _ m L _ (HM.out.below HBr.out) HOr.out.lies).mono ?_
            rintro e W4 ⟨v4, rfl, ho, hb⟩
            have HO4 := Lib.hid (ho.mono HBr.out.size)
            have HB4 := Lib.hid (HBr.out.trans (hb.mono HBr.out.size))
            have HC4 := Lib.hid (HCr.out.below hb)
            clear ho hb HBr HCr k0 HOr
            obtain ⟨c, hc⟩ : ∃ c, appK m L = c := ⟨_, rfl⟩
            rw [hc]
            have HAK := Lib.hid hc
            clear hc
            cases c with
            | false =>
              go_wp2
              go_ret2
              exact it_no (itK_no4 HI.out HAK.out hlt) ⟨_, rfl, has_lit0 rfl HB4.out.size, HB4.out.alloc HB4.out.size _⟩
            | true =>
              have HI2 : Hid (itF m a (i + 1) = some (appL m L)) := by show _ = _; rw [itF_succ HI.out, HAK.out]; rfl
              rw [appV_yes HAK.out] at HO4
              go_wp2
              go_roundw
              case rel => exact ⟨i + 1, v4, _, by omega, by go_num, rfl, HI2, HO4, HC4, HB4⟩
              case measure => simp [intOf]; omega
          · obtain rfl : i = N := by omega
            go_wp2
            go_ret2
            exact it_yes (itK_yes HMB.out HLB.out hN HI.out) ⟨_, rfl, HOr.out, HBr.out⟩
      · have HNO : Hid (n < 0 ∨ 20 < n) := by show _ ∨ _; omega
        clear hn
        go_wp2_with fail
        refine (l1In_no _ _ _ _ HNO.out).mono ?_
        rintro e w' ⟨rfl, rfl⟩
        go_wp2
        go_ret2
        exact it_no (itK_no3 HNO.out) ⟨_, rfl, has_lit0 rfl HB1.out.size, HB1.out.alloc HB1.out.size _⟩
end Mor
end Go.Proofs.Ytejbonnkgejngaa
