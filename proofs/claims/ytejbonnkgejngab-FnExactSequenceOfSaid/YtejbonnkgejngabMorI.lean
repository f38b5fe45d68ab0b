/- Contracts of IsMorphism and IsUniform, of the model and of the program. No conditions beyond those that each states. -/
import Derived.Test.YtejbonnkgejngabWord
import Derived.Test.YtejbonnkgejngabMor
namespace Go.Proofs.Ytejbonnkgejngab
open Go.ChangeShapes Go.WideShapes Go.ChangeAt Go.RowKit
open Go.PlainAid Plain
set_option linter.unusedVariables false
namespace Mor
open Seqs
theorem rows_at {w : World} {a : Option Addr} {n c : Nat} {rows : List (List Int)} {i : Nat} {r : List Int} (h : LiesR w (.slice a n c) rows) (hr : rows[i]? = some r) : ∃ b off ua uc, a = some ⟨b, off, none⟩ ∧ w.cell? ⟨b, off + i, none⟩ = some (.slice ua r.length uc) ∧ Lies (Value.int .i64) w (.slice ua r.length uc) r := by
  obtain ⟨a', c', hv, _, hc⟩ := h.row
  injection hv with e1 e2 e3
  subst e1
  obtain ⟨b, off, u, h1, h2, h3⟩ := hc i r hr
  obtain ⟨_, ua, uc, rfl, _⟩ := id h3
  exact ⟨b, off, ua, uc, h1, h2, h3⟩
theorem rows_drewN {w : World} {v : Value} {rows : List (List Int)} (h : LiesR w v rows) (n : Nat) : LiesR (w.drewN n) v rows := h.below (below_drewN (Below.refl _ _) n)
theorem ends' {B : Nat} {w W W' : World} (h : ∀ n, Below B w (W.drewN n)) (he : (∃ n, W' = W.drewN n) ∨ (∃ n m, W' = (W.drewN n).drewN m) := by first | exact .inl ⟨_, rfl⟩ | exact .inr ⟨_, _, rfl⟩) : Below B w W' := by
  rcases he with ⟨n, rfl⟩ | ⟨n, m, rfl⟩
  · exact h n
  · rw [World.drewN_drewN]; exact h _
theorem rows_small {w : World} {v : Value} {rows : List (List Int)} (h : LiesR w v rows) : rows.length ≤ 9223372036854775807 := by
  obtain ⟨_, _, _, hl, _⟩ := h.row
  exact hl
theorem word_q {v : Value} {xs : List Int} {n : Int} {w : World} {c : Bool} (hc : wordB xs n = c) (h : Lies (Value.int .i64) w v xs) :
    Calls Try.prog 42 #[v, .int .i64 n] w fun e w' => e = .returned (.bool c) ∧ ∃ m, w' = w.drewN m :=
  (spec_word v xs n _ h).mono fun _ _ ⟨he, hw⟩ => ⟨by rw [he, hc], 0, hw.symm⟩
theorem mor_end (m : List (List Int)) (hm : ∀ (j : Nat) (r : List Int), m[j]? = some r → wordB r m.length = true ∧ r.length ≤ 8) : morB m = decide (1 ≤ m.length) := by
  by_cases h : 1 ≤ m.length
  · rw [mor_of h hm]; exact (decide_eq_true h).symm
  · rw [morB_no fun hh => h hh.1]; exact (decide_eq_false h).symm
set_option maxHeartbeats 1000000 in
theorem spec_mor (v : Value) (m : List (List Int)) (w : World) (h : LiesM w v m) :
    Calls Try.prog 38 #[v] w fun e w' => e = .returned (.bool (morB m)) ∧ Below w.heap.size w w' := by
  obtain ⟨an, cn, rfl⟩ := h.form
  have hn := h.rows
  have hl := rows_small hn
  clear h
  have hB : Below w.heap.size w (w.alloc (Obj.cells #[Value.slice an m.length cn] 28)) := (Below.refl _ _).alloc (Nat.le_refl _) _
  have hC := Cells1.new w 28 (.slice an m.length cn)
  go_enter Try.func38, Try.ntmps38
  go_wp2_with fail
  obtain ⟨W, hW⟩ : ∃ W, W = w.alloc (Obj.cells #[Value.slice an m.length cn] 28) := ⟨_, rfl⟩
  rw [← hW] at hB hC ⊢
  have HRW := Lib.hid (hn.below hB)
  have HB : Hid (∀ n, Below w.heap.size w (W.drewN n)) := fun n => below_drewN hB n
  have k0 := hC.c0
  clear hn hB hC hW
  obtain ⟨z, hz⟩ : ∃ z, z = w.heap.size := ⟨_, rfl⟩
  rw [← hz] at k0 ⊢
  have HZ := Lib.hid hz
  clear hz
  go_loopw [3] (fun i' wr => ∃ i : Nat, i ≤ m.length ∧ i' = .int .i64 i ∧ Hid (∀ (j : Nat) (r : List Int), j < i → m[j]? = some r → wordB r m.length = true ∧ r.length ≤ 8) ∧ ∃ n, wr = W.drewN n) (fun i' _ => m.length - (intOf i').toNat)
  case atStart => exact ⟨0, Nat.zero_le _, rfl, fun j r h => by omega, 0, rfl⟩
  case round =>
    obtain ⟨i, hi, rfl, HI, n, rfl⟩ := hrel
    by_cases hlt : i < m.length
    · obtain ⟨r, hr⟩ : ∃ r, m[i]? = some r := ⟨_, List.getElem?_eq_getElem hlt⟩
      obtain ⟨p, o, ua, uc, rfl, hx, hlx⟩ := rows_at HRW.out hr
      have HL := Lib.hid hlx
      have HR := Lib.hid hr
      clear hr hlx
      obtain ⟨c, hc⟩ : ∃ c, wordB r m.length = c := ⟨_, rfl⟩
      have HWC := Lib.hid hc
      clear hc
      cases c with
      | false =>
        have HE := Lib.hid (not_mor_at HR.out (.inl HWC.out))
        go_wp2
        go_quiet ((go_at_call 42; exact quiet_more (word_q HWC.out (Lies_drewN HL.out _))))
        go_wp2
        go_ret
        exact ⟨ret_b HE.out.symm, ends' HB.out⟩
      | true =>
        by_cases h8 : r.length ≤ 8
        · have hd := decide_eq_false (show ¬ (r.length : Int) > 8 by omega)
          have HN : Hid (∀ (j : Nat) (y : List Int), j < i + 1 → m[j]? = some y → wordB y m.length = true ∧ y.length ≤ 8) := fun j y hj hy => by
            by_cases e : j = i
            · subst e
              obtain rfl := Option.some.inj (HR.out.symm.trans hy)
              exact ⟨HWC.out, h8⟩
            · exact HI.out j y (by omega) hy
          go_wp2
          go_quiet ((go_at_call 42; exact quiet_more (word_q HWC.out (Lies_drewN HL.out _))))
          go_wp2
          go_roundw
          case rel => exact ⟨i + 1, by omega, by go_num, HN, _, rfl⟩
          case measure => simp [intOf]; omega
        · have hd := decide_eq_true (show (r.length : Int) > 8 by omega)
          have HE := Lib.hid (not_mor_at HR.out (.inr (by omega)))
          go_wp2
          go_quiet ((go_at_call 42; exact quiet_more (word_q HWC.out (Lies_drewN HL.out _))))
          go_wp2
          go_ret
          exact ⟨ret_b HE.out.symm, ends' HB.out⟩
    · have HA : Hid (∀ (j : Nat) (r : List Int), m[j]? = some r → wordB r m.length = true ∧ r.length ≤ 8) := fun j r hr => HI.out j r (by have := (List.getElem?_eq_some_iff.1 hr).1; omega) hr
      have HE := Lib.hid (mor_end m HA.out)
      clear HI
      by_cases h1 : 1 ≤ m.length ∧ m.length ≤ 16
      · obtain ⟨h2, h3⟩ := h1
        rw [decide_eq_true h2] at HE
        go_wp2_with fail
        refine (l1In_yes _ _ _ _ (by omega) (by omega)).mono ?_
        rintro e w' ⟨rfl, rfl⟩
        go_wp2
        go_ret
        exact ⟨ret_b HE.out.symm, ends' HB.out⟩
      · have HE2 : Hid (morB m = false) := morB_no fun hh => h1 ⟨hh.1, hh.2.1⟩
        have HNO : Hid ((m.length : Int) < 1 ∨ 16 < (m.length : Int)) := by show _ ∨ _; omega
        clear h1
        go_wp2_with fail
        refine (l1In_no _ _ _ _ HNO.out).mono ?_
        rintro e w' ⟨rfl, rfl⟩
        go_wp2
        go_ret
        exact ⟨ret_b HE2.out.symm, ends' HB.out⟩
set_option maxHeartbeats 1000000 in
theorem impl_mor (v : Value) (m : List (List Int)) (w : World) (h : LiesM w v m) :
    Calls Try.prog 41 #[v] w fun e w' => e = .returned (.bool (morB m)) ∧ Below w.heap.size w w' := by
  obtain ⟨an, cn, rfl⟩ := h.form
  have hn := h.rows
  have hl := rows_small hn
  clear h
  have hB : Below w.heap.size w (w.alloc (Obj.cells #[Value.slice an m.length cn] 28)) := (Below.refl _ _).alloc (Nat.le_refl _) _
  have hC := Cells1.new w 28 (.slice an m.length cn)
  go_enter Try.func41, Try.ntmps41
  go_wp2_with fail
  obtain ⟨W, hW⟩ : ∃ W, W = w.alloc (Obj.cells #[Value.slice an m.length cn] 28) := ⟨_, rfl⟩
  rw [← hW] at hB hC ⊢
  have HRW := Lib.hid hn
  have HB := Lib.hid hB
  have k0 := hC.c0
  clear hn hB hC hW
  obtain ⟨z, hz⟩ : ∃ z, z = w.heap.size := ⟨_, rfl⟩
  rw [← hz] at k0 ⊢
  have HZ := Lib.hid hz
  clear hz
  go_loopw [12] (fun i' wr => ∃ i : Nat, i ≤ m.length ∧ i' = .int .i64 i ∧ Hid (∀ (j : Nat) (r : List Int), j < i → m[j]? = some r → wordB r m.length = true ∧ r.length ≤ 8) ∧ Hid (Below w.heap.size w wr)) (fun i' _ => m.length - (intOf i').toNat)
  case atStart => exact ⟨0, Nat.zero_le _, rfl, fun j r h => by omega, HB⟩
  case round =>
    obtain ⟨i, hi, rfl, HI, HBr⟩ := hrel
    by_cases hlt : i < m.length
    · obtain ⟨r, hr⟩ : ∃ r, m[i]? = some r := ⟨_, List.getElem?_eq_getElem hlt⟩
      obtain ⟨p, o, ua, uc, rfl, hx, hlx⟩ := rows_at (HRW.out.below HBr.out) hr
      have HL := Lib.hid hlx
      have HR := Lib.hid hr
      clear hr hlx k0
      by_cases h8 : r.length ≤ 8
      · have hd := decide_eq_false (show ¬ (r.length : Int) > 8 by omega)
        obtain ⟨c, hc⟩ : ∃ c, wordB r m.length = c := ⟨_, rfl⟩
        have HWC := Lib.hid hc
        have HP := Lib.hid (impl_word _ r m.length _ HL.out)
        rw [hc] at HP
        clear hc
        cases c with
        | false =>
          have HE := Lib.hid (not_mor_at HR.out (.inl HWC.out))
          go_wp2_with fail
          refine HP.out.mono ?_
          rintro e w' ⟨rfl, hb⟩
          have HBx := Lib.hid (HBr.out.trans (hb.mono HBr.out.size))
          clear hb
          go_wp2
          go_ret
          exact ⟨ret_b HE.out.symm, HBx.out⟩
        | true =>
          have HN : Hid (∀ (j : Nat) (y : List Int), j < i + 1 → m[j]? = some y → wordB y m.length = true ∧ y.length ≤ 8) := fun j y hj hy => by
            by_cases e : j = i
            · subst e
              obtain rfl := Option.some.inj (HR.out.symm.trans hy)
              exact ⟨HWC.out, h8⟩
            · exact HI.out j y (by omega) hy
          go_wp2_with fail
          refine HP.out.mono ?_
          rintro e w' ⟨rfl, hb⟩
          have HBx := Lib.hid (HBr.out.trans (hb.mono HBr.out.size))
          clear hb
          go_wp2
          go_roundw
          case rel => exact ⟨i + 1, by omega, by go_num, HN, HBx⟩
          case measure => simp [intOf]; omega
      · have hd := decide_eq_true (show (r.length : Int) > 8 by omega)
        have HE := Lib.hid (not_mor_at HR.out (.inr (by omega)))
        go_wp2
        go_ret
        exact ⟨ret_b HE.out.symm, HBr.out⟩
    · have HA : Hid (∀ (j : Nat) (r : List Int), m[j]? = some r → wordB r m.length = true ∧ r.length ≤ 8) := fun j r hr => HI.out j r (by have := (List.getElem?_eq_some_iff.1 hr).1; omega) hr
      have HE := Lib.hid (mor_end m HA.out)
      clear HI k0
      go_wp2
      go_ret
      exact ⟨ret_b HE.out.symm, HBr.out⟩
theorem spec_uni (v : Value) (m : List (List Int)) (k : Int) (w : World) (h : LiesM w v m) :
    Calls Try.prog 39 #[v, .int .i64 k] w fun e w' => e = .returned (.bool (uniB m k)) ∧ Below w.heap.size w w' := by
  obtain ⟨an, cn, rfl⟩ := h.form
  have hl := rows_small h.rows
  have hB : Below w.heap.size w (w.alloc (Obj.cells #[Value.slice an m.length cn] 28)) := (Below.refl _ _).alloc (Nat.le_refl _) _
  have hC := Cells1.new w 28 (.slice an m.length cn)
  go_enter Try.func39, Try.ntmps39
  go_wp2_with fail
  obtain ⟨W, hW⟩ : ∃ W, W = w.alloc (Obj.cells #[Value.slice an m.length cn] 28) := ⟨_, rfl⟩
  rw [← hW] at hB hC ⊢
  have HM := Lib.hid (h.below hB)
  have HB := Lib.hid hB
  have k0 := hC.c0
  clear h hB hC hW
  obtain ⟨z, hz⟩ : ∃ z, z = w.heap.size := ⟨_, rfl⟩
  rw [← hz] at k0 ⊢
  have HZ := Lib.hid hz
  clear hz
  go_loop [5] (fun i' => ∃ i : Nat, i ≤ m.length ∧ i' = .int .i64 i ∧ Hid (∀ (j : Nat) (r : List Int), j < i → m[j]? = some r → (r.length : Int) = k)) (fun i' => m.length - (intOf i').toNat)
  case atStart => exact ⟨0, Nat.zero_le _, rfl, fun j r h => by omega⟩
  case round =>
    obtain ⟨i, hi, rfl, HI⟩ := hrel
    by_cases hlt : i < m.length
    · obtain ⟨r, hr⟩ : ∃ r, m[i]? = some r := ⟨_, List.getElem?_eq_getElem hlt⟩
      obtain ⟨p, o, ua, uc, rfl, hx, hlx⟩ := rows_at HM.out.rows hr
      have HR := Lib.hid hr
      clear hr hlx
      by_cases hk : (r.length : Int) = k
      · have hd : ((r.length : Int) != k) = false := by rw [hk]; simp
        have HN : Hid (∀ (j : Nat) (y : List Int), j < i + 1 → m[j]? = some y → (y.length : Int) = k) := fun j y hj hy => by
          by_cases e : j = i
          · subst e
            obtain rfl := Option.some.inj (HR.out.symm.trans hy)
            exact hk
          · exact HI.out j y (by omega) hy
        clear hk
        go_wp2
        go_round
        case rel => exact ⟨i + 1, by omega, by go_num, HN⟩
        case measure => simp [intOf]; omega
      · have hd : ((r.length : Int) != k) = true := by simpa using hk
        have HE := Lib.hid (uniB_at HR.out hk)
        clear hk
        go_wp2
        go_ret
        exact ⟨ret_b HE.out.symm, HB.out⟩
    · have HE := Lib.hid (uniB_all (m := m) (k := k) fun j r hr => HI.out j r (by have := (List.getElem?_eq_some_iff.1 hr).1; omega) hr)
      clear HI
      go_wp2_with fail
      refine (spec_mor _ m _ HM.out).mono ?_
      rintro e w' ⟨rfl, hb⟩
      have HBx := Lib.hid (HB.out.trans (hb.mono HB.out.size))
      clear hb
      go_wp2
      go_ret
      exact ⟨ret_b HE.out.symm, HBx.out⟩
end Mor
end Go.Proofs.Ytejbonnkgejngab
