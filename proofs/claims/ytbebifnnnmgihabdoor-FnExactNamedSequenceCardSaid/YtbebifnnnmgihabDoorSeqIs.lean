/- Contracts of IsSequence, of the model. No conditions beyond those that each states. -/
import Derived.Test.YtbebifnnnmgihabDoorSeqSz
import Derived.Test.YtbebifnnnmgihabDoorSeqVal
import Derived.Test.YtbebifnnnmgihabDoorCells3
import Derived.Test.YtbebifnnnmgihabDoorCommon
import Derived.Outline
namespace Go.Proofs.YtbebifnnnmgihabDoor
open Go.ChangeShapes Go.WideShapes Go.ChangeAt Go.RowKit
open Go.PlainAid Plain
set_option linter.unusedVariables false
namespace Seqs
theorem ends {B : Nat} {w W W' : World} (h : ∀ n, Below B w (W.drewN n)) (he : (∃ n, W' = W.drewN n) ∨ (∃ n m, W' = (W.drewN n).drewN m) := by first | exact .inl ⟨_, rfl⟩ | exact .inr ⟨_, _, rfl⟩) : Below B w W' := by
  rcases he with ⟨n, rfl⟩ | ⟨n, m, rfl⟩
  · exact h n
  · rw [World.drewN_drewN]; exact h _
set_option maxHeartbeats 1000000 in
theorem spec_is (v : Value) (b : Int) (rows : List (List Int)) (out : List Int) (w : World) (h : LiesS w v b rows out) :
    Calls Tryd.prog 19 #[v] w fun e w' => e = .returned (.bool (seqB b rows out)) ∧ Below w.heap.size w w' := by
  obtain ⟨vn, vo, rfl, hn, ho⟩ := h
  have hB : Below w.heap.size w (w.alloc (Obj.cells #[Value.int .i64 b, vn, vo] 28)) := (Below.refl _ _).alloc (Nat.le_refl _) _
  have hC := Cells3.new w 28 (.int .i64 b) vn vo
  go_enter Tryd.func19, Tryd.ntmps19
  go_wp2_with fail
  obtain ⟨W, hW⟩ : ∃ W, W = w.alloc (Obj.cells #[Value.int .i64 b, vn, vo] 28) := ⟨_, rfl⟩
  rw [← hW] at hB hC ⊢
  obtain ⟨a, ca, rfl, hl, hc⟩ := (hn.below hB).row
  obtain ⟨hlo, ao, co, rfl, _, hco⟩ := ho.below hB
  have HC := Lib.hid hc
  have HO := Lib.hid hco
  have HB : Hid (∀ n, Below w.heap.size w (W.drewN n)) := fun n => below_drewN hB n
  have k0 := hC.c0
  have k1 := hC.c1
  have k2 := hC.c2
  clear hc hco hB hC hW hn ho
  obtain ⟨z, hz⟩ : ∃ z, z = w.heap.size := ⟨_, rfl⟩
  rw [← hz] at k0 k1 k2 ⊢
  have HZ := Lib.hid hz
  clear hz
  go_loopw [3] (fun i' wr => ∃ i : Nat, i ≤ rows.length ∧ i' = .int .i64 i ∧ Hid (∀ (j : Nat) (r : List Int), j < i → rows[j]? = some r → (r.length : Int) = b ∧ ∀ (k : Nat) (x : Int), r[k]? = some x → 0 ≤ x ∧ x < (rows.length : Int)) ∧ ∃ n, wr = W.drewN n) (fun i' _ => rows.length - (intOf i').toNat)
  case atStart => exact ⟨0, Nat.zero_le _, rfl, fun j r h => by omega, 0, rfl⟩
  case round =>
    obtain ⟨i, hi, rfl, HI, n, rfl⟩ := hrel
    by_cases hlt : i < rows.length
    · obtain ⟨r, hr⟩ : ∃ r, rows[i]? = some r := ⟨_, List.getElem?_eq_getElem hlt⟩
      obtain ⟨p, o, u, rfl, hx, hlx⟩ := HC.out i r hr
      obtain ⟨hrl, a', ca', rfl, _, hcr⟩ := hlx
      have HX := Lib.hid hcr
      have HR := Lib.hid hr
      clear hcr hr
      by_cases hb : (r.length : Int) = b
      · have HBE := Lib.hid hb
        have hd0 : ((r.length : Int) != b) = false := by rw [hb]; simp
        clear hb
        go_wp2
        go_quiet (fail)
        go_wp2
        go_loopw [4] (fun k' wr => ∃ k : Nat, k ≤ r.length ∧ k' = .int .i64 k ∧ Hid (∀ (j : Nat) (x : Int), j < k → r[j]? = some x → 0 ≤ x ∧ x < (rows.length : Int)) ∧ ∃ n, wr = W.drewN n) (fun k' _ => r.length - (intOf k').toNat)
        case atStart => exact ⟨0, Nat.zero_le _, rfl, fun j x h => by omega, _, World.drewN_drewN _ _ _⟩
        case round =>
          obtain ⟨k, hk, rfl, HK, m, rfl⟩ := hrel
          by_cases hlk : k < r.length
          · obtain ⟨x, hrx⟩ : ∃ x, r[k]? = some x := ⟨_, List.getElem?_eq_getElem hlk⟩
            obtain ⟨q, s, rfl, hcx⟩ := HX.out k x hrx
            have HXX := Lib.hid hrx
            clear hrx
            by_cases hx0 : x < 0
            · have hd := decide_eq_true hx0
              have HE := Lib.hid (not_seq_cell (b := b) (out := out) HR.out HXX.out (.inl hx0))
              go_wp2
              go_quiet (fail)
              go_wp2
              go_ret
              exact ⟨ret_b HE.out.symm, ends HB.out⟩
            · by_cases hx1 : (rows.length : Int) ≤ x
              · have hd := decide_eq_false hx0
                have hd1 := decide_eq_true hx1
                have HE := Lib.hid (not_seq_cell (b := b) (out := out) HR.out HXX.out (.inr hx1))
                go_wp2
                go_quiet (fail)
                go_wp2
                go_ret
                exact ⟨ret_b HE.out.symm, ends HB.out⟩
              · have hd := decide_eq_false hx0
                have hd1 := decide_eq_false hx1
                have HN : Hid (∀ (j : Nat) (x : Int), j < k + 1 → r[j]? = some x → 0 ≤ x ∧ x < (rows.length : Int)) := fun j y hj hy => by
                  by_cases e : j = k
                  · subst e
                    obtain rfl := Option.some.inj (HXX.out.symm.trans hy)
                    omega
                  · exact HK.out j y (by omega) hy
                go_wp2
                go_quiet (fail)
                go_wp2
                go_roundw
                case rel => exact ⟨k + 1, by omega, by go_num, HN, _, rfl⟩
                case measure => simp [intOf]; omega
          · have HN : Hid (∀ (j : Nat) (r : List Int), j < i + 1 → rows[j]? = some r → (r.length : Int) = b ∧ ∀ (k : Nat) (x : Int), r[k]? = some x → 0 ≤ x ∧ x < (rows.length : Int)) := fun j y hj hy => by
              by_cases e : j = i
              · subst e
                obtain rfl := Option.some.inj (HR.out.symm.trans hy)
                exact ⟨HBE.out, fun k' x hx => HK.out k' x (by have := (List.getElem?_eq_some_iff.1 hx).1; omega) hx⟩
              · exact HI.out j y (by omega) hy
            go_wp2
            go_roundw
            case rel => exact ⟨i + 1, by omega, by go_num, HN, _, rfl⟩
            case measure => simp [intOf]; omega
      · have HE := Lib.hid (not_seq_row (out := out) HR.out hb)
        have hd0 : ((r.length : Int) != b) = true := by simpa using hb
        clear hb
        go_wp2
        go_quiet (fail)
        go_wp2
        go_ret
        exact ⟨ret_b HE.out.symm, ends HB.out⟩
    · have HRR : Hid (∀ (j : Nat) (r : List Int), rows[j]? = some r → (r.length : Int) = b ∧ ∀ (k : Nat) (x : Int), r[k]? = some x → 0 ≤ x ∧ x < (rows.length : Int)) := fun j r hr => HI.out j r (by have := (List.getElem?_eq_some_iff.1 hr).1; omega) hr
      clear HI HC
      go_wp2
      go_loopw [5] (fun i' wr => ∃ i : Nat, i ≤ out.length ∧ i' = .int .i64 i ∧ Hid (∀ (j : Nat) (x : Int), j < i → out[j]? = some x → 0 ≤ x ∧ x ≤ 3) ∧ ∃ n, wr = W.drewN n) (fun i' _ => out.length - (intOf i').toNat)
      case atStart => exact ⟨0, Nat.zero_le _, rfl, fun j r h => by omega, _, rfl⟩
      case round =>
        obtain ⟨i, hi, rfl, HI, n, rfl⟩ := hrel
        by_cases hlt : i < out.length
        · obtain ⟨x, hox⟩ : ∃ x, out[i]? = some x := ⟨_, List.getElem?_eq_getElem hlt⟩
          obtain ⟨q, s, rfl, hcx⟩ := HO.out i x hox
          have HXX := Lib.hid hox
          clear hox
          by_cases hin : 0 ≤ x ∧ x ≤ 3
          · obtain ⟨hx0, hx3⟩ := hin
            have HN : Hid (∀ (j : Nat) (x : Int), j < i + 1 → out[j]? = some x → 0 ≤ x ∧ x ≤ 3) := fun j y hj hy => by
              by_cases e : j = i
              · subst e
                obtain rfl := Option.some.inj (HXX.out.symm.trans hy)
                omega
              · exact HI.out j y (by omega) hy
            go_wp2_with fail
            refine (l1In_yes _ _ _ _ hx0 hx3).mono ?_
            rintro e w' ⟨rfl, rfl⟩
            go_wp2
            go_roundw
            case rel => exact ⟨i + 1, by omega, by go_num, HN, _, rfl⟩
            case measure => simp [intOf]; omega
          · have hno : x < 0 ∨ 3 < x := by omega
            have HE := Lib.hid (not_seq_out (b := b) (rows := rows) HXX.out hno)
            have HNO := Lib.hid hno
            clear hin hno
            go_wp2_with fail
            refine (l1In_no _ _ _ _ HNO.out).mono ?_
            rintro e w' ⟨rfl, rfl⟩
            go_wp2
            go_ret
            exact ⟨ret_b HE.out.symm, ends HB.out⟩
        · have HOO : Hid (∀ (j : Nat) (x : Int), out[j]? = some x → 0 ≤ x ∧ x ≤ 3) := fun j r hr => HI.out j r (by have := (List.getElem?_eq_some_iff.1 hr).1; omega) hr
          clear HI HO
          by_cases hb : 2 ≤ b ∧ b ≤ 4
          · obtain ⟨hb1, hb2⟩ := hb
            by_cases hlen : 1 ≤ rows.length ∧ rows.length ≤ 16
            · obtain ⟨hl1, hl2⟩ := hlen
              by_cases heq : out.length = rows.length
              · have HE := Lib.hid (seqB_yes (isSeq_of hb1 hb2 hl1 hl2 heq HRR.out HOO.out))
                have hd : ((out.length : Int) == (rows.length : Int)) = true := by rw [heq]; simp
                clear heq
                go_wp2_with fail
                refine (l1In_yes _ _ _ _ hb1 hb2).mono ?_
                rintro e w' ⟨rfl, rfl⟩
                go_wp2_with fail
                refine (l1In_yes _ _ _ _ (by omega) (by omega)).mono ?_
                rintro e w' ⟨rfl, rfl⟩
                go_wp2
                go_ret
                exact ⟨ret_b HE.out.symm, ends HB.out⟩
              · have HE := Lib.hid (seqB_no (b := b) fun h => heq h.2.2.2.2.1)
                have hd : ((out.length : Int) == (rows.length : Int)) = false := by simp; omega
                clear heq
                go_wp2_with fail
                refine (l1In_yes _ _ _ _ hb1 hb2).mono ?_
                rintro e w' ⟨rfl, rfl⟩
                go_wp2_with fail
                refine (l1In_yes _ _ _ _ (by omega) (by omega)).mono ?_
                rintro e w' ⟨rfl, rfl⟩
                go_wp2
                go_ret
                exact ⟨ret_b HE.out.symm, ends HB.out⟩
            · have HE := Lib.hid (seqB_no (b := b) (out := out) fun h => hlen ⟨h.2.2.1, h.2.2.2.1⟩)
              have hno : (rows.length : Int) < 1 ∨ 16 < (rows.length : Int) := by omega
              have HNO := Lib.hid hno
              clear hlen hno
              go_wp2_with fail
              refine (l1In_yes _ _ _ _ hb1 hb2).mono ?_
              rintro e w' ⟨rfl, rfl⟩
              go_wp2_with fail
              refine (l1In_no _ _ _ _ HNO.out).mono ?_
              rintro e w' ⟨rfl, rfl⟩
              go_wp2
              go_ret
              exact ⟨ret_b HE.out.symm, ends HB.out⟩
          · have HE := Lib.hid (seqB_no (rows := rows) (out := out) fun h => hb ⟨h.1, h.2.1⟩)
            have hno : b < 2 ∨ 4 < b := by omega
            have HNO := Lib.hid hno
            clear hb hno
            go_wp2_with fail
            refine (l1In_no _ _ _ _ HNO.out).mono ?_
            rintro e w' ⟨rfl, rfl⟩
            go_wp2
            go_ret
            exact ⟨ret_b HE.out.symm, ends HB.out⟩
end Seqs
end Go.Proofs.YtbebifnnnmgihabDoor
