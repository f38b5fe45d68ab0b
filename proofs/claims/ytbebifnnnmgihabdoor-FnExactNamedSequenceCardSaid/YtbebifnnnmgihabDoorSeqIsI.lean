/- Contracts of IsSequence, of the program. No conditions beyond those that each states. -/
import Derived.Test.YtbebifnnnmgihabDoorSeqIs
import Derived.Test.YtbebifnnnmgihabDoorDigits
import Derived.BigQuiet
namespace Go.Proofs.YtbebifnnnmgihabDoor
open Go.ChangeShapes Go.WideShapes Go.ChangeAt Go.RowKit
open Go.PlainAid Plain
set_option linter.unusedVariables false
namespace Seqs
theorem term_yes (x : Int) (w : World) (h1 : 0 ≤ x) (h2 : x ≤ 3) :
    Calls Tryd.prog 52 #[.int .i64 x] w fun e w' => e = .returned (.bool true) ∧ w = w' := by
  go_enter Tryd.func52, Tryd.ntmps52
  go_wp2
  go_ret
  exact ⟨rfl, rfl⟩
theorem term_no (x : Int) (w : World) (h : x < 0 ∨ 3 < x) :
    Calls Tryd.prog 52 #[.int .i64 x] w fun e w' => e = .returned (.bool false) ∧ w = w' := by
  by_cases h3 : 0 ≤ x
  · have h4 : decide (x ≤ 3) = false := decide_eq_false (by omega)
    clear h
    go_enter Tryd.func52, Tryd.ntmps52
    go_wp2
    go_ret
    exact ⟨rfl, rfl⟩
  · clear h
    go_enter Tryd.func52, Tryd.ntmps52
    go_wp2
    go_ret
    exact ⟨rfl, rfl⟩
theorem term_q {x : Int} {w : World} {n : Nat} {c : Bool} (hc : decide (0 ≤ x ∧ x ≤ 3) = c) :
    Calls Tryd.prog 52 #[.int .i64 x] (w.drewN n) fun e w' => e = .returned (.bool c) ∧ ∃ m, w' = w.drewN m := by
  cases c with
  | true =>
    have h := of_decide_eq_true hc
    exact (term_yes x _ h.1 h.2).mono fun _ _ ⟨he, hw⟩ => ⟨he, n, hw.symm⟩
  | false =>
    have h := of_decide_eq_false hc
    exact (term_no x _ (by omega)).mono fun _ _ ⟨he, hw⟩ => ⟨he, n, hw.symm⟩
set_option maxHeartbeats 1000000 in
theorem impl_row (v : Value) (b : Int) (rows : List (List Int)) (out : List Int) (w : World) (h : LiesS w v b rows out) (i : Nat) (r : List Int) (x : Int) (hr : rows[i]? = some r) (hx : out[i]? = some x) :
    Calls Tryd.prog 45 #[v, .int .i64 i] w fun e w' => e = .returned (.bool (rowB b rows.length r x)) ∧ Below w.heap.size w w' := by
  obtain ⟨vn, vo, rfl, hn, ho⟩ := h
  have hB : Below w.heap.size w (w.alloc (Obj.cells #[Value.int .i64 b, vn, vo] 28)) := (Below.refl _ _).alloc (Nat.le_refl _) _
  have hC := Cells3.new w 28 (.int .i64 b) vn vo
  have hir := (List.getElem?_eq_some_iff.1 hr).1
  have hio := (List.getElem?_eq_some_iff.1 hx).1
  go_enter Tryd.func45, Tryd.ntmps45
  go_wp2_with fail
  obtain ⟨W, hW⟩ : ∃ W, W = w.alloc (Obj.cells #[Value.int .i64 b, vn, vo] 28) := ⟨_, rfl⟩
  rw [← hW] at hB hC ⊢
  obtain ⟨a, ca, rfl, hl, hc⟩ := (hn.below hB).row
  obtain ⟨hlo, ao, co, rfl, _, hco⟩ := ho.below hB
  obtain ⟨p, o, u, rfl, hcu, hlu⟩ := hc i r hr
  obtain ⟨hrl, a', ca', rfl, _, hcr⟩ := hlu
  obtain ⟨q, s, rfl, hcx⟩ := hco i x hx
  have HX := Lib.hid hcr
  have HB : Hid (∀ n, Below w.heap.size w (W.drewN n)) := fun n => below_drewN hB n
  have k0 := hC.c0
  have k1 := hC.c1
  have k2 := hC.c2
  clear hc hco hB hC hW hn ho hcr hr hx
  obtain ⟨z, hz⟩ : ∃ z, z = w.heap.size := ⟨_, rfl⟩
  rw [← hz] at k0 k1 k2 ⊢
  clear hz
  by_cases hb : (r.length : Int) = b
  · have HBE := Lib.hid hb
    have hd0 : ((r.length : Int) != b) = false := by rw [hb]; simp
    clear hb
    by_cases hx03 : 0 ≤ x ∧ x ≤ 3
    case neg =>
      have HE := Lib.hid (rowB_out (b := b) (n := rows.length) (r := r) (o := x) (by omega))
      have HNO := Lib.hid (show decide (0 ≤ x ∧ x ≤ 3) = false from decide_eq_false hx03)
      clear hx03
      go_quiet ((go_at_call 52; exact term_q HNO.out))
      go_wp2
      go_ret
      exact ⟨ret_b HE.out.symm, ends HB.out⟩
    case pos =>
        have HYES := Lib.hid (show decide (0 ≤ x ∧ x ≤ 3) = true from decide_eq_true hx03)
        obtain ⟨hx0, hx3⟩ := hx03
        go_quiet ((go_at_call 52; exact term_q HYES.out))
        go_wp2
        go_loopw [31] (fun k' wr => ∃ k : Nat, k ≤ r.length ∧ k' = .int .i64 k ∧ Hid (∀ (j : Nat) (x : Int), j < k → r[j]? = some x → 0 ≤ x ∧ x < (rows.length : Int)) ∧ ∃ n, wr = W.drewN n) (fun k' _ => r.length - (intOf k').toNat)
        case atStart => exact ⟨0, Nat.zero_le _, rfl, fun j x h => by omega, _, rfl⟩
        case round =>
          obtain ⟨k, hk, rfl, HK, m, rfl⟩ := hrel
          by_cases hlk : k < r.length
          · obtain ⟨y, hry⟩ : ∃ x, r[k]? = some x := ⟨_, List.getElem?_eq_getElem hlk⟩
            obtain ⟨g, t, rfl, hcy⟩ := HX.out k y hry
            have HY := Lib.hid hry
            clear hry
            by_cases hy0 : y < 0
            · have hd3 := decide_eq_true hy0
              have HE := Lib.hid (rowB_cell (b := b) (n := rows.length) (o := x) HY.out (.inl hy0))
              go_wp2
              go_ret
              exact ⟨ret_b HE.out.symm, ends HB.out⟩
            · by_cases hy1 : (rows.length : Int) ≤ y
              · have hd3 := decide_eq_false hy0
                have hd4 := decide_eq_true hy1
                have HE := Lib.hid (rowB_cell (b := b) (n := rows.length) (o := x) HY.out (.inr hy1))
                go_wp2
                go_ret
                exact ⟨ret_b HE.out.symm, ends HB.out⟩
              · have hd3 := decide_eq_false hy0
                have hd4 := decide_eq_false hy1
                have HN : Hid (∀ (j : Nat) (x : Int), j < k + 1 → r[j]? = some x → 0 ≤ x ∧ x < (rows.length : Int)) := fun j z hj hz => by
                  by_cases e : j = k
                  · subst e
                    obtain rfl := Option.some.inj (HY.out.symm.trans hz)
                    omega
                  · exact HK.out j z (by omega) hz
                go_wp2
                go_roundw
                case rel => exact ⟨k + 1, by omega, by go_num, HN, _, rfl⟩
                case measure => simp [intOf]; omega
          · have HE := Lib.hid (rowB_yes (n := rows.length) HBE.out (fun k' x hx => HK.out k' x (by have := (List.getElem?_eq_some_iff.1 hx).1; omega) hx) (show 0 ≤ x by omega) (by omega))
            go_wp2
            go_ret
            exact ⟨ret_b HE.out.symm, ends HB.out⟩
  · have HE := Lib.hid (rowB_len (n := rows.length) (o := x) hb)
    have hd0 : ((r.length : Int) != b) = true := by simpa using hb
    clear hb
    go_quiet (fail)
    go_wp2
    go_ret
    exact ⟨ret_b HE.out.symm, ends HB.out⟩
theorem impl_is_no (v : Value) (b : Int) (rows : List (List Int)) (out : List Int) (w : World) (h : LiesS w v b rows out) (hno : ¬ (2 ≤ b ∧ b ≤ 4 ∧ 1 ≤ rows.length ∧ rows.length ≤ 16 ∧ out.length = rows.length)) :
    Calls Tryd.prog 24 #[v] w fun e w' => e = .returned (.bool false) ∧ Below w.heap.size w w' := by
  obtain ⟨vn, vo, rfl, hn, ho⟩ := h
  obtain ⟨a, ca, rfl, hl, hc⟩ := hn.row
  obtain ⟨hlo, ao, co, rfl, _, hco⟩ := ho
  clear hc hco hn
  by_cases hb : 2 ≤ b ∧ b ≤ 4
  · obtain ⟨hb1, hb2⟩ := hb
    by_cases h1 : 1 ≤ rows.length
    · have hd1 := decide_eq_false (show ¬ (rows.length : Int) < 1 by omega)
      by_cases h2 : rows.length ≤ 16
      · have hd2 := decide_eq_false (show ¬ (rows.length : Int) > 16 by omega)
        have hd3 : ((out.length : Int) != (rows.length : Int)) = true := by simp; omega
        clear hno
        go_enter Tryd.func24, Tryd.ntmps24
        go_wp2_with fail
        refine (Digits.base_yes _ _ hb1 hb2).mono ?_
        rintro e w' ⟨rfl, rfl⟩
        go_wp2
        go_ret
        exact ⟨rfl, (Below.refl _ _).alloc (Nat.le_refl _) _⟩
      · have hd2 := decide_eq_true (show (rows.length : Int) > 16 by omega)
        clear hno
        go_enter Tryd.func24, Tryd.ntmps24
        go_wp2_with fail
        refine (Digits.base_yes _ _ hb1 hb2).mono ?_
        rintro e w' ⟨rfl, rfl⟩
        go_wp2
        go_ret
        exact ⟨rfl, (Below.refl _ _).alloc (Nat.le_refl _) _⟩
    · have hd1 := decide_eq_true (show (rows.length : Int) < 1 by omega)
      clear hno
      go_enter Tryd.func24, Tryd.ntmps24
      go_wp2_with fail
      refine (Digits.base_yes _ _ hb1 hb2).mono ?_
      rintro e w' ⟨rfl, rfl⟩
      go_wp2
      go_ret
      exact ⟨rfl, (Below.refl _ _).alloc (Nat.le_refl _) _⟩
  · have hno' : b < 2 ∨ 4 < b := by omega
    clear hno hb
    have HNO := Lib.hid hno'
    clear hno'
    go_enter Tryd.func24, Tryd.ntmps24
    go_wp2_with fail
    refine (Digits.base_no _ _ HNO.out).mono ?_
    rintro e w' ⟨rfl, rfl⟩
    go_wp2
    go_ret
    exact ⟨rfl, (Below.refl _ _).alloc (Nat.le_refl _) _⟩
set_option maxHeartbeats 1000000 in
theorem impl_is (v : Value) (b : Int) (rows : List (List Int)) (out : List Int) (w : World) (h : LiesS w v b rows out) :
    Calls Tryd.prog 24 #[v] w fun e w' => e = .returned (.bool (seqB b rows out)) ∧ Below w.heap.size w w' := by
  by_cases hp : 2 ≤ b ∧ b ≤ 4 ∧ 1 ≤ rows.length ∧ rows.length ≤ 16 ∧ out.length = rows.length
  · obtain ⟨hb1, hb2, h1, h2, h3⟩ := hp
    have HS := Lib.hid h
    obtain ⟨vn, vo, rfl, hn, ho⟩ := h
    have hB : Below w.heap.size w (w.alloc (Obj.cells #[Value.int .i64 b, vn, vo] 28)) := (Below.refl _ _).alloc (Nat.le_refl _) _
    have hC := Cells3.new w 28 (.int .i64 b) vn vo
    obtain ⟨a, ca, rfl, hl, hc⟩ := hn.row
    obtain ⟨hlo, ao, co, rfl, _, hco⟩ := ho
    have hd1 := decide_eq_false (show ¬ (rows.length : Int) < 1 by omega)
    have hd2 := decide_eq_false (show ¬ (rows.length : Int) > 16 by omega)
    have hd3 : ((out.length : Int) != (rows.length : Int)) = false := by rw [h3]; simp
    have H3 := Lib.hid h3
    have HB := Lib.hid hB
    have HC := Lib.hid hC
    clear hc hco hn h3 hB hC
    go_enter Tryd.func24, Tryd.ntmps24
    go_wp2_with fail
    refine (Digits.base_yes _ _ hb1 hb2).mono ?_
    rintro e w' ⟨rfl, rfl⟩
    go_wp2_with fail
    obtain ⟨z, hz⟩ : ∃ z, z = w.heap.size := ⟨_, rfl⟩
    rw [← hz] at HC ⊢
    have HZ := Lib.hid hz
    clear hz
    go_loopw [28] (fun i' wr => ∃ i : Nat, i ≤ rows.length ∧ i' = .int .i64 i ∧ Hid (∀ (j : Nat) (r : List Int) (o : Int), j < i → rows[j]? = some r → out[j]? = some o → rowB b rows.length r o = true) ∧ Hid (Cells3 wr z 28 (.int .i64 b) (.slice a rows.length ca) (.slice ao out.length co)) ∧ Hid (Below w.heap.size w wr)) (fun i' _ => rows.length - (intOf i').toNat)
    case atStart => exact ⟨0, Nat.zero_le _, rfl, fun j r o h => by omega, HC, HB⟩
    case round =>
      obtain ⟨i, hi, rfl, HI, HCi, HBi⟩ := hrel
      by_cases hlt : i < rows.length
      · obtain ⟨r, hr⟩ : ∃ r, rows[i]? = some r := ⟨_, List.getElem?_eq_getElem hlt⟩
        obtain ⟨x, hx⟩ : ∃ x, out[i]? = some x := ⟨_, List.getElem?_eq_getElem (by have := H3.out; omega)⟩
        have k0 := HCi.out.c0
        have k1 := HCi.out.c1
        have k2 := HCi.out.c2
        have HR := Lib.hid hr
        have HX := Lib.hid hx
        clear hr hx
        cases hrb : rowB b rows.length r x with
        | false =>
          have HF := Lib.hid (rowB_seq HR.out HX.out hrb)
          have HRB := Lib.hid hrb
          clear hrb
          go_wp2_with fail
          refine (impl_row _ b rows out _ (HS.out.below HBi.out) i r x HR.out HX.out).mono ?_
          rintro e W1 ⟨rfl, hb⟩
          have HB1 := Lib.hid (HBi.out.trans (hb.mono HBi.out.size))
          rw [HRB.out]
          clear hb
          go_wp2
          go_ret
          exact ⟨ret_b HF.out.symm, HB1.out⟩
        | true =>
          have HRB := Lib.hid hrb
          have HN : Hid (∀ (j : Nat) (r : List Int) (o : Int), j < i + 1 → rows[j]? = some r → out[j]? = some o → rowB b rows.length r o = true) := fun j r' o' hj hr' ho' => by
            by_cases e : j = i
            · subst e
              obtain rfl := Option.some.inj (HR.out.symm.trans hr')
              obtain rfl := Option.some.inj (HX.out.symm.trans ho')
              exact HRB.out
            · exact HI.out j r' o' (by omega) hr' ho'
          clear hrb
          go_wp2_with fail
          refine (impl_row _ b rows out _ (HS.out.below HBi.out) i r x HR.out HX.out).mono ?_
          rintro e W1 ⟨rfl, hb⟩
          have HB1 := Lib.hid (HBi.out.trans (hb.mono HBi.out.size))
          have HC1 := Lib.hid (HCi.out.below hb)
          rw [HRB.out]
          clear hb k0 k1 k2
          go_wp2
          go_roundw
          case rel => exact ⟨i + 1, by omega, by go_num, HN, HC1, HB1⟩
          case measure => simp [intOf]; omega
      · have HE := Lib.hid (seq_rows hb1 hb2 h1 h2 H3.out (fun j r o hr ho => HI.out j r o (by have := (List.getElem?_eq_some_iff.1 hr).1; omega) hr ho))
        go_wp2
        go_ret
        exact ⟨ret_b HE.out.symm, HBi.out⟩
  · rw [seqB_no fun hs => hp ⟨hs.1, hs.2.1, hs.2.2.1, hs.2.2.2.1, hs.2.2.2.2.1⟩]
    exact impl_is_no v b rows out w h hp
end Seqs
end Go.Proofs.YtbebifnnnmgihabDoor
