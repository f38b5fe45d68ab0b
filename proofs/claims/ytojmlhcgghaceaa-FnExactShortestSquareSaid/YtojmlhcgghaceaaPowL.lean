/- Contracts of the laws' eqPower, eqPowerS, markPowerS and heldPowerS. No conditions beyond those that each states. -/
import Derived.Test.YtojmlhcgghaceaaPowQ
import Derived.Test.YtojmlhcgghaceaaInts
import Derived.Deep.DeepCutAuto
import Derived.BigQuiet
namespace Go.Proofs.Ytojmlhcgghaceaa
open Go.ChangeShapes Go.WideShapes Go.ChangeAt Go.RowKit
open Go.PlainAid Plain
set_option linter.unusedVariables false
namespace Fac
def pwV (a b c : Int) : Value := .agg #[.int .i64 a, .int .i64 b, .int .i64 c]
set_option maxHeartbeats 1000000 in
theorem eqP1 (a b c : Int) (w : World) : Calls Try.prog 31 #[.agg #[.int .i64 a, .int .i64 b, .int .i64 c], .agg #[.int .i64 a, .int .i64 b, .int .i64 c]] w fun e w' => e = .returned (.bool true) ∧ Below w.heap.size w w' := by
  have h1 : (a != a) = false := by simp
  have h2 : (b != b) = false := by simp
  have h3 : (c != c) = false := by simp
  go_enter Try.func31, Try.ntmps31
  go_wp2
  go_ret
  exact ⟨rfl, ((Below.refl _ _).alloc (Nat.le_refl _) _).alloc (by simp) _⟩
set_option maxHeartbeats 2000000 in
theorem eqP (u v : Value) (L : List (List Int)) (w : World) (h1 : ∃ lo hi, PS 35 3 w lo hi u L) (h2 : ∃ lo hi, PS 35 3 w lo hi v L) :
    Calls Try.prog 14 #[u, v] w fun e w' => e = .returned (.bool true) ∧ Below w.heap.size w w' := by
  obtain ⟨lo, hi, h1, _⟩ := h1
  obtain ⟨lo', hi', h2, _⟩ := h2
  obtain ⟨a, c, rfl, hag⟩ := h1.form
  obtain ⟨a', c', rfl, hag'⟩ := h2.form
  have hsm := h1.small
  have HE := Lib.hid h1
  have HF := Lib.hid h2
  have HG := Lib.hid hag
  have HG' := Lib.hid hag'
  clear h1 h2 hag hag'
  go_enter Try.func14, Try.ntmps14
  go_wp2
  go_loopw [5] (fun k' wr => ∃ k : Nat, k ≤ L.length ∧ k' = .int .i64 k ∧ Hid (Below w.heap.size w wr)) (fun k' _ => L.length - (intOf k').toNat)
  case atStart => exact ⟨0, Nat.zero_le _, rfl, Below.refl _ _⟩
  case round =>
    obtain ⟨k, hkE, rfl, HB⟩ := hrel
    obtain ⟨W4, rfl⟩ : ∃ W : World, W = wr := ⟨_, rfl⟩
    by_cases hk : k < L.length
    · obtain ⟨g, rfl⟩ := HG.out (by omega)
      obtain ⟨g', rfl⟩ := HG'.out (by omega)
      obtain ⟨x, hx⟩ : ∃ x, L[k]? = some x := ⟨_, List.getElem?_eq_getElem hk⟩
      have hx3 := HE.out.2 x (List.mem_of_getElem? hx)
      obtain ⟨x0, x1, x2, rfl⟩ : ∃ x0 x1 x2, x = [x0, x1, x2] := by
        match x, hx3 with
        | [x0, x1, x2], _ => exact ⟨x0, x1, x2, rfl⟩
      have p0 := (HE.out.below HB.out).cell (j := 0) hx rfl
      have p1 := (HE.out.below HB.out).cell (j := 1) hx rfl
      have p2 := (HE.out.below HB.out).cell (j := 2) hx rfl
      have q0 := (HF.out.below HB.out).cell (j := 0) hx rfl
      have q1 := (HF.out.below HB.out).cell (j := 1) hx rfl
      have q2 := (HF.out.below HB.out).cell (j := 2) hx rfl
      rw [Nat.add_zero] at p0 q0
      have hD : Below W4.heap.size W4 W4.drew := below_drew' W4
      have HEQ := Lib.hid (eqP1 x0 x1 x2 W4.drew)
      have hkl : (k : Int) < (L.length : Int) := by omega
      clear hx hx3
      go_wp2_with fail
      go_region_law (first | (go_simp; (with_reducible refine HEQ.out.mono ?_); rintro e W8 ⟨rfl, b8⟩; have bA : Below W4.heap.size W4 W8 := hD.trans (b8.mono hD.size)))
      all_goals
        have HBA := Lib.hid (HB.out.trans (bA.mono HB.out.size))
        clear p0 p1 p2 q0 q1 q2 bA b8
        go_wp2
        go_roundw
        case rel => exact ⟨k + 1, by omega, by go_num, HBA⟩
        case measure => simp [intOf]; omega
    · obtain rfl : k = L.length := by omega
      go_wp2
      go_ret
      exact ⟨rfl, HB.out⟩
set_option maxHeartbeats 2000000 in
theorem markPk (v : Value) (L : List (List Int)) (w : World) (lo hi : Nat) (k : Int) (h : PS 35 3 w lo hi v L) (h0 : 0 ≤ k) (h1 : k + 3 * L.length ≤ 9223372036854775807) :
    Calls Try.prog 17 #[v, .int .i64 k] w fun e w' => e = .returned (.int .i64 (k + 3 * L.length)) ∧ PS 35 3 w' lo hi v (markT 3 k L.length) ∧ Plain.Touch lo hi w w' := by
  obtain ⟨a, c, rfl, hag⟩ := h.1.form
  have hsm := h.1.small
  have HO : Hid (OwnT 35 3 w lo (.slice a L.length c) ((markT 3 k L.length).take 0 ++ L.drop 0)) := by show OwnT _ _ _ _ _ _; rw [List.take_zero, List.drop_zero, List.nil_append]; exact h.1
  have HD := Lib.hid h.2
  have HG := Lib.hid hag
  clear h hag
  go_enter Try.func17, Try.ntmps17
  go_wp2
  go_loopw [1, 5] (fun k' i' wr => ∃ i : Nat, i ≤ L.length ∧ k' = .int .i64 (k + ((3 * i : Nat) : Int)) ∧ i' = .int .i64 i ∧ Hid (OwnT 35 3 wr lo (.slice a L.length c) ((markT 3 k L.length).take i ++ L.drop i)) ∧ Hid (Plain.Touch lo hi w wr)) (fun _ i' _ => L.length - (intOf i').toNat)
  case atStart => exact ⟨0, Nat.zero_le _, by simp, rfl, HO, ⟨rfl, rfl, rfl, Nat.le_refl _, fun _ _ _ => rfl⟩⟩
  case round =>
    obtain ⟨i, hile, rfl, rfl, HO, HT⟩ := hrel
    by_cases hlt : i < L.length
    · obtain ⟨g, rfl⟩ := HG.out (by omega)
      have hg1 := (HO.out.lt g rfl)
      have hg2 := HD.out.1 g rfl
      obtain ⟨M, hM⟩ : ∃ M, M = (markT 3 k L.length).take i ++ L.drop i := ⟨_, rfl⟩
      have hMl : M.length = L.length := by rw [hM, List.length_append, List.length_take, List.length_drop, markT_len]; omega
      obtain ⟨x, hx⟩ : ∃ x, M[i]? = some x := ⟨_, List.getElem?_eq_getElem (by omega)⟩
      obtain ⟨m, hm⟩ : ∃ m : Int, m = k + ((3 * i : Nat) : Int) := ⟨_, rfl⟩
      have HM0 : Hid (OwnT 35 3 wr lo (.slice (some ⟨g, 0, none⟩) M.length c) M) := by rw [hMl, hM]; exact HO.out
      have hx3 := HM0.out.2 x (List.mem_of_getElem? hx)
      have HST : Hid (M.set i [m, m + 1, m + 1 + 1] = (markT 3 k L.length).take (i + 1) ++ L.drop (i + 1)) := by
        show _ = _
        rw [hM]
        refine markT_step rfl hlt ?_
        rw [hm]
        simp only [List.range_succ, List.range_zero, List.nil_append, List.map_cons, List.map_nil, List.cons_append]
        refine congr (congrArg _ ?_) (congr (congrArg _ ?_) (congrArg (fun x : Int => [x]) ?_)) <;> omega
      obtain ⟨x0, x1, x2, rfl⟩ : ∃ x0 x1 x2, x = [x0, x1, x2] := by
        match x, hx3 with
        | [x0, x1, x2], _ => exact ⟨x0, x1, x2, rfl⟩
      have HX := Lib.hid hx
      have HML := Lib.hid hMl
      have hmr : 0 ≤ m ∧ m + 3 ≤ 9223372036854775807 := by omega
      have HMM := Lib.hid hm
      rw [← hm]
      have hgs := Lib.hid hg1
      have p0 := HM0.out.cell (j := 0) hx rfl
      have f0 := (HM0.out.write (j := 0) hx (by omega) m).2.2
      rw [Nat.add_zero] at p0 f0
      have hkl : (i : Int) < (L.length : Int) := by omega
      clear hM hm hx hx3 hg1 HO
      go_upto_region 5 with (fail)
      have HM1 : Hid (OwnT 35 3 (wr.setCell ⟨g, i * 3, none⟩ (.int .i64 m)) lo (.slice (some ⟨g, 0, none⟩) (M.set i [m, x1, x2]).length c) (M.set i [m, x1, x2])) := by
        have := (HM0.out.write (j := 0) HX.out (by omega) m).1
        rw [Nat.add_zero] at this
        rw [List.length_set]
        exact this
      have HT1 := Lib.hid (HT.out.trans (Touch.of_set (w := wr) (a := ⟨g, i * 3, none⟩) (.int .i64 m) hgs.out.1 hg2))
      obtain ⟨W1, hW1⟩ : ∃ W, W = wr.setCell ⟨g, i * 3, none⟩ (.int .i64 m) := ⟨_, rfl⟩
      rw [← hW1] at HM1 HT1 ⊢
      clear hW1 p0 f0
      have HX1 : Hid ((M.set i [m, x1, x2])[i]? = some [m, x1, x2]) := List.getElem?_set_self (List.getElem?_eq_some_iff.1 HX.out).1
      have p0 := HM1.out.cell (j := 1) HX1.out rfl
      have f0 := (HM1.out.write (j := 1) HX1.out (by omega) (m + 1)).2.2
      go_upto_region 7 with (fail)
      have HM2 : Hid (OwnT 35 3 (W1.setCell ⟨g, i * 3 + 1, none⟩ (.int .i64 (m + 1))) lo (.slice (some ⟨g, 0, none⟩) (M.set i [m, m + 1, x2]).length c) (M.set i [m, m + 1, x2])) := by
        have := (HM1.out.write (j := 1) HX1.out (by omega) (m + 1)).1
        rw [List.set_set] at this
        rw [List.length_set] at this ⊢
        exact this
      have HT2 := Lib.hid (HT1.out.trans (Touch.of_set (w := W1) (a := ⟨g, i * 3 + 1, none⟩) (.int .i64 (m + 1)) hgs.out.1 hg2))
      obtain ⟨W2, hW2⟩ : ∃ W, W = W1.setCell ⟨g, i * 3 + 1, none⟩ (.int .i64 (m + 1)) := ⟨_, rfl⟩
      rw [← hW2] at HM2 HT2 ⊢
      clear hW2 p0 f0
      have HX2 : Hid ((M.set i [m, m + 1, x2])[i]? = some [m, m + 1, x2]) := List.getElem?_set_self (List.getElem?_eq_some_iff.1 HX.out).1
      have p0 := HM2.out.cell (j := 2) HX2.out rfl
      have f0 := (HM2.out.write (j := 2) HX2.out (by omega) (m + 1 + 1)).2.2
      go_upto_region 9 with (fail)
      have HM3 : Hid (OwnT 35 3 (W2.setCell ⟨g, i * 3 + 2, none⟩ (.int .i64 (m + 1 + 1))) lo (.slice (some ⟨g, 0, none⟩) L.length c) ((markT 3 k L.length).take (i + 1) ++ L.drop (i + 1))) := by
        have := (HM2.out.write (j := 2) HX2.out (by omega) (m + 1 + 1)).1
        rw [List.set_set] at this
        rw [List.length_set, HML.out] at this
        rw [← HST.out]
        exact this
      have HT3 := Lib.hid (HT2.out.trans (Touch.of_set (w := W2) (a := ⟨g, i * 3 + 2, none⟩) (.int .i64 (m + 1 + 1)) hgs.out.1 hg2))
      obtain ⟨W3, hW3⟩ : ∃ W, W = W2.setCell ⟨g, i * 3 + 2, none⟩ (.int .i64 (m + 1 + 1)) := ⟨_, rfl⟩
      rw [← hW3] at HM3 HT3 ⊢
      clear hW3 p0 f0
      go_wp2
      go_roundw
      case rel => exact ⟨i + 1, by omega, by show Value.int .i64 (m + 1 + 1 + 1) = _; exact congrArg (Value.int .i64) (by have := HMM.out; omega), by go_num, HM3, HT3⟩
      case measure => simp [intOf] <;> omega
    · obtain rfl : i = L.length := by omega
      have HE : Hid (OwnT 35 3 wr lo (.slice a L.length c) (markT 3 k L.length)) := by
        have h := HO.out
        rw [List.take_of_length_le (by rw [markT_len]; omega), List.drop_of_length_le (by omega), List.append_nil] at h
        exact h
      go_wp2
      go_ret
      exact ⟨rfl, ⟨HE.out, HD.out.1, Nat.le_trans HD.out.2 HT.out.size⟩, HT.out⟩
theorem markP (v : Value) (L : List (List Int)) (T : Nat) (w : World) (lo hi : Nat) (hT : T = 3 * L.length) (h : PS 35 3 w lo hi v L) (h1 : T ≤ 4194304) :
    Calls Try.prog 17 #[v, .int .i64 1] w fun e w' => e = .returned (.int .i64 (1 + T)) ∧ PS 35 3 w' lo hi v (markT 3 1 L.length) ∧ Plain.Touch lo hi w w' := by
  have := markPk v L w lo hi 1 h (by omega) (by omega)
  rw [show (1 : Int) + 3 * (L.length : Int) = 1 + (T : Int) from by omega] at this
  exact this
set_option maxHeartbeats 2000000 in
theorem heldPk (v : Value) (n : Nat) (w : World) (k : Int) (h : ∃ lo hi, PS 35 3 w lo hi v (markT 3 k n)) (h0 : 0 ≤ k) (h1 : k + 3 * n ≤ 9223372036854775807) :
    Calls Try.prog 18 #[v, .int .i64 k] w fun e w' => e = .returned (.int .i64 (k + 3 * n)) ∧ w = w' := by
  obtain ⟨lo, hi, h, _⟩ := h
  obtain ⟨a, c, rfl, hag⟩ := h.form
  have hml := markT_len 3 k n
  rw [hml] at h hag ⊢
  have HO := Lib.hid h
  have HG := Lib.hid hag
  have HML := Lib.hid hml
  clear h hag hml
  go_enter Try.func18, Try.ntmps18
  go_wp2
  go_loop [1, 5] (fun k' i' => ∃ i : Nat, i ≤ n ∧ k' = .int .i64 (k + ((3 * i : Nat) : Int)) ∧ i' = .int .i64 i) (fun _ i' => n - (intOf i').toNat)
  case atStart => exact ⟨0, Nat.zero_le _, by simp, rfl⟩
  case round =>
    obtain ⟨i, hile, rfl, rfl⟩ := hrel
    by_cases hlt : i < n
    · obtain ⟨g, rfl⟩ := HG.out (by omega)
      have hx : (markT 3 k n)[i]? = some [k + ((i * 3 + 0 : Nat) : Int), k + ((i * 3 + 1 : Nat) : Int), k + ((i * 3 + 2 : Nat) : Int)] := markT_at k hlt
      have HO' : OwnT 35 3 w lo (.slice (some ⟨g, 0, none⟩) (markT 3 k n).length c) (markT 3 k n) := by rw [HML.out]; exact HO.out
      have p0 := HO'.cell (j := 0) hx rfl
      have p1 := HO'.cell (j := 1) hx rfl
      have p2 := HO'.cell (j := 2) hx rfl
      obtain ⟨m, hm⟩ : ∃ m : Int, m = k + ((3 * i : Nat) : Int) := ⟨_, rfl⟩
      rw [Nat.add_zero, show k + ((i * 3 : Nat) : Int) = m from by omega] at p0
      rw [show k + ((i * 3 + 1 : Nat) : Int) = m + 1 from by omega] at p1
      rw [show k + ((i * 3 + 2 : Nat) : Int) = m + 1 + 1 from by omega] at p2
      have HMM := Lib.hid hm
      rw [← hm]
      have hmr : 0 ≤ m ∧ m + 3 ≤ 9223372036854775807 := by omega
      have d0 : (m != m) = false := by simp
      have d1 : (m + 1 != m + 1) = false := by simp
      have d2 : (m + 1 + 1 != m + 1 + 1) = false := by simp
      have hkl : (i : Int) < (n : Int) := by omega
      clear hm hx HO'
      go_wp2
      go_round
      case rel => exact ⟨i + 1, by omega, by show Value.int .i64 (m + 1 + 1 + 1) = _; exact congrArg (Value.int .i64) (by have := HMM.out; omega), by go_num⟩
      case measure => simp [intOf] <;> omega
    · obtain rfl : i = n := by omega
      go_wp2
      go_ret
      exact ⟨rfl, rfl⟩
theorem heldP (v : Value) (L : List (List Int)) (T : Nat) (w : World) (hT : T = 3 * L.length) (h : ∃ lo hi, PS 35 3 w lo hi v (markT 3 1 L.length)) (h1 : T ≤ 4194304) :
    Calls Try.prog 18 #[v, .int .i64 1] w fun e w' => e = .returned (.int .i64 (1 + T)) ∧ w = w' := by
  have := heldPk v L.length w 1 h (by omega) (by omega)
  rw [show (1 : Int) + 3 * (L.length : Int) = 1 + (T : Int) from by omega] at this
  exact this
end Fac
end Go.Proofs.Ytojmlhcgghaceaa
