/- Contracts of the model's l10Match, SquaresOf, HasOverlap, HasPower, HasSquare and l10Gcd. No conditions beyond those that each states. -/
import Derived.Test.YtojmlhcgghaceaaPowVal
import Derived.Test.YtojmlhcgghaceaaPowL
import Derived.Test.YtojmlhcgghaceaaBorS
import Derived.Test.YtojmlhcgghaceaaCommon
import Derived.Test.YtojmlhcgghaceaaCmp
namespace Go.Proofs.Ytojmlhcgghaceaa
open Go.ChangeShapes Go.WideShapes Go.ChangeAt Go.RowKit
open Go.PlainAid Plain
set_option linter.unusedVariables false
namespace Fac
set_option maxHeartbeats 2000000 in
theorem spec_ml (v : Value) (u : List Int) (a p : Nat) (w : World) (h : Lies (Value.int .i64) w v u) (hs : u.length ≤ 4194304) (hp : 0 < p) (hap : a + p ≤ u.length) :
    Calls Try.prog 34 #[v, .int .i64 a, .int .i64 p] w fun e w' => e = .returned (.int .i64 (mlen u a p)) ∧ Below w.heap.size w w' := by
  obtain ⟨pa, pc, rfl⟩ := lies_shape h
  have HU := Lib.hid h
  clear h
  go_enter Try.func34, Try.ntmps34
  go_wp2
  go_loopw [7] (fun n' wr => ∃ n : Nat, p ≤ n ∧ a + n ≤ u.length ∧ n' = .int .i64 n ∧ Hid (PerA u a p n) ∧ Hid (Below w.heap.size w wr)) (fun n' _ => u.length - (intOf n').toNat)
  case atStart => exact ⟨p, Nat.le_refl _, hap, rfl, PerA.short hap (Nat.le_refl _), Below.refl _ _⟩
  case round =>
    obtain ⟨n, hpn, han, rfl, HP, HB⟩ := hrel
    obtain ⟨t, ht⟩ : ∃ t : Nat, t = a + n := ⟨_, rfl⟩
    have e1 : (a : Int) + (n : Int) = (t : Int) := by omega
    have HTT := Lib.hid ht
    by_cases hlt : t < u.length
    · obtain ⟨s, hs'⟩ : ∃ s : Nat, s = t - p := ⟨_, rfl⟩
      have e2 : (t : Int) - (p : Int) = (s : Int) := by omega
      obtain ⟨x, hx⟩ : ∃ x, u[t]? = some x := ⟨_, List.getElem?_eq_getElem hlt⟩
      obtain ⟨y, hy⟩ : ∃ y, u[s]? = some y := ⟨_, List.getElem?_eq_getElem (by omega)⟩
      obtain ⟨q, r, hpa, hc1⟩ := lies_cell (HU.out.below HB.out) hx
      subst hpa
      obtain ⟨_, _, hpa, hc2⟩ := lies_cell (HU.out.below HB.out) hy
      cases hpa
      have hsl : s < u.length := by omega
      have hx2 := hx
      have hy2 := hy
      rw [ht] at hx2
      rw [hs', ht] at hy2
      by_cases hxy : x = y
      · have HP2 := Lib.hid (HP.out.more hx2 hy2 hxy)
        have hd : (x == y) = true := by simpa using hxy
        clear hx hy hx2 hy2 hxy hs' ht
        go_wp2_with fail
        go_quiet (fail)
        go_wp2
        go_roundw
        case rel => exact ⟨n + 1, by omega, by have := HTT.out; omega, by go_num, HP2, Lib.hid (below_drewN HB.out _)⟩
        case measure => simp [intOf]; have := HTT.out; omega
      · have HE := Lib.hid (mlen_stop HP.out hpn hx2 hy2 hxy)
        have hd : (x == y) = false := by simpa using hxy
        clear hx hy hx2 hy2 hxy hs' ht
        go_wp2_with fail
        go_quiet (fail)
        go_wp2
        go_ret
        exact ⟨ret_i (by have := HE.out; omega), below_drewN HB.out _⟩
    · have HE := Lib.hid (mlen_end HP.out hpn (by omega))
      clear ht
      go_wp2_with fail
      go_quiet (fail)
      go_wp2
      go_ret
      exact ⟨ret_i (by have := HE.out; omega), below_drewN HB.out _⟩
def sqL (l : List Sqr) : List (List Int) := l.map fun s => [(s.1 : Int), (s.2 : Int), 2 * (s.2 : Int)]
theorem sqL_append (l m : List Sqr) : sqL (l ++ m) = sqL l ++ sqL m := by simp [sqL]
theorem sqL_len (l : List Sqr) : (sqL l).length = l.length := by simp [sqL]
theorem sqL_at {l : List Sqr} {i : Nat} {s : Sqr} (h : l[i]? = some s) : (sqL l)[i]? = some [(s.1 : Int), (s.2 : Int), 2 * (s.2 : Int)] := by simp [sqL, h]
theorem infoP : (Try.prog.info? 35).map (fun i => (i.zero, i.size, i.bytes)) = some (some (.agg #[.int .i64 0, .int .i64 0, .int .i64 0]), 3, 24) := by kernel_rfl
theorem sq_len {u : List Int} (h : u.length ≤ 64) {a k : Nat} (ha : a < u.length) (hk : 2 * k ≤ u.length) : (sqL (sqU u a ++ sqI u a k)).length ≤ 10000 := by
  have h1 := sqU_len u a
  have h2 := sqI_len u a k
  have h3 : a * u.length ≤ 64 * 64 := Nat.mul_le_mul (by omega) h
  rw [sqL_len, List.length_append]
  omega
set_option maxRecDepth 100000 in
set_option maxHeartbeats 4000000 in
theorem spec_sq (v : Value) (u : List Int) (w : World) (h : Lies (Value.int .i64) w v u) :
    Calls Try.prog 11 #[v] w (GivesT 35 3 (sqL (sqV u)) w) := by
  obtain ⟨i0, hi, hz0, hz1, hz2⟩ := info_parts infoP
  obtain ⟨pa, pc, rfl⟩ := lies_shape h
  have hsm := h.1
  have HU := Lib.hid h
  have HB : Hid (Below w.heap.size w (w.alloc (Obj.cells #[] 35))) := (Below.refl _ _).alloc (Nat.le_refl _) _
  have HO : Hid (OwnT 35 3 (w.alloc (Obj.cells #[] 35)) w.heap.size (.slice (some ⟨w.heap.size, 0, none⟩) 0 0) []) := OwnT.lit0 w (Nat.le_refl _)
  clear h
  by_cases h64 : u.length ≤ 64
  · rw [sqV_in h64]
    go_enter Try.func11, Try.ntmps11
    go_wp2
    go_loopw [3, 4] (fun o' a' wr => ∃ (a : Nat) (vo : Value), a ≤ u.length ∧ a' = .int .i64 a ∧ vo = o' ∧ Hid (OwnT 35 3 wr w.heap.size vo (sqL (sqU u a))) ∧ Hid (Below w.heap.size w wr)) (fun _ a' _ => u.length - (intOf a').toNat)
    case atStart => exact ⟨0, _, Nat.zero_le _, rfl, rfl, HO, HB⟩
    case round =>
      obtain ⟨a, vo, hal, rfl, rfl, HOr, HBr⟩ := hrel
      obtain ⟨W6, hW6⟩ : ∃ W : World, W = wr := ⟨_, rfl⟩
      rw [← hW6] at HOr HBr ⊢
      clear hW6
      by_cases hlt : a < u.length
      · go_wp2
        go_loopw [3, 5] (fun o' p' wr => ∃ (P : Nat) (vo : Value), 0 < P ∧ a + 2 * (P - 1) ≤ u.length ∧ p' = .int .i64 P ∧ vo = o' ∧ Hid (OwnT 35 3 wr w.heap.size vo (sqL (sqU u a ++ sqI u a (P - 1)))) ∧ Hid (Below w.heap.size w wr)) (fun _ p' _ => u.length - (intOf p').toNat)
        case atStart => exact ⟨1, _, by omega, by omega, rfl, rfl, by show OwnT _ _ _ _ _ _; rw [show sqI u a (1 - 1) = [] from rfl, List.append_nil]; exact HOr, HBr⟩
        case round =>
          obtain ⟨P, vo, hP, haP, rfl, rfl, HOs, HBs⟩ := hrel
          by_cases hin : a + 2 * P ≤ u.length
          · have hcn : (a : Int) + 2 * (P : Int) ≤ (u.length : Int) := by omega
            have HM := Lib.hid (spec_ml _ u a P wr (HU.out.below HBs.out) (by omega) hP (by omega))
            have hiff := sq_iff (u := u) (a := a) (p := P) hin
            obtain ⟨m, hm⟩ : ∃ m, m = mlen u a P := ⟨_, rfl⟩
            rw [← hm] at HM hiff
            clear hm
            obtain ⟨oa, oc, hvo, _⟩ := HOs.out.form
            have HL := Lib.hid (sq_len h64 hlt (k := P - 1) (by omega))
            subst hvo
            cases hq : sqAt u a P with
            | true =>
              have hge := decide_eq_true (show (m : Int) ≥ 2 * (P : Int) by have := hiff.1 hq; omega)
              have HN : Hid (sqL (sqU u a ++ sqI u a (P - 1)) ++ [[(a : Int), (P : Int), 2 * (P : Int)]] = sqL (sqU u a ++ sqI u a (P + 1 - 1))) := by
                show _ = _
                obtain ⟨k, rfl⟩ : ∃ k, P = k + 1 := ⟨P - 1, by omega⟩
                rw [Nat.add_sub_cancel, Nat.add_sub_cancel, sqI_yes hq, ← List.append_assoc, sqL_append _ [_]]
                rfl
              clear hiff hq
              go_wp2_with fail
              refine HM.out.mono ?_
              rintro e W1 ⟨rfl, b1⟩
              have HO1 := Lib.hid (HOs.out.below b1)
              have HB1 := Lib.hid (HBs.out.trans (b1.mono HBs.out.size))
              clear b1 HM
              go_wp2_with (refine append_t (e := 35) (k := 3) rfl _ _ 23 rfl i0 _ 24 Try.underlying23 hi hz0 hz1 hz2 rfl (by omega) _ rfl HO1.out [(a : Int), (P : Int), 2 * (P : Int)] rfl _ rfl rfl _ rfl (by have := HL.out; omega) (by omega) HB1.out.size ?_; intro v2 w2 ho hg; have HO2 := Lib.hid ho; have HB2 := Lib.hid (HO1.out.frame HB1.out (Nat.le_refl _) hg); clear ho hg)
              go_roundw
              case rel => exact ⟨P + 1, _, by omega, by omega, by go_num, rfl, by rw [← HN.out]; exact HO2, HB2⟩
              case measure => simp [intOf]; omega
            | false =>
              have hge := decide_eq_false (show ¬ (m : Int) ≥ 2 * (P : Int) by intro e; have := hiff.2 (by omega); rw [hq] at this; cases this)
              have HN : Hid (sqL (sqU u a ++ sqI u a (P - 1)) = sqL (sqU u a ++ sqI u a (P + 1 - 1))) := by
                show _ = _
                obtain ⟨k, rfl⟩ : ∃ k, P = k + 1 := ⟨P - 1, by omega⟩
                rw [Nat.add_sub_cancel, Nat.add_sub_cancel, sqI_no hq]
              clear hiff hq
              go_wp2_with fail
              refine HM.out.mono ?_
              rintro e W1 ⟨rfl, b1⟩
              have HO1 := Lib.hid (HOs.out.below b1)
              have HB1 := Lib.hid (HBs.out.trans (b1.mono HBs.out.size))
              clear b1 HM
              go_wp2
              go_roundw
              case rel => exact ⟨P + 1, _, by omega, by omega, by go_num, rfl, by rw [← HN.out]; exact HO1, HB1⟩
              case measure => simp [intOf]; omega
          · have hcn : ¬ (a : Int) + 2 * (P : Int) ≤ (u.length : Int) := by omega
            have HE : Hid (sqU u a ++ sqI u a (P - 1) = sqU u (a + 1)) := by
              show _ = sqU u a ++ sqI u a ((u.length - a) / 2)
              rw [show (u.length - a) / 2 = P - 1 from by omega]
            go_wp2
            go_roundw
            case rel => exact ⟨a + 1, _, by omega, by go_num, rfl, by rw [← HE.out]; exact HOs, HBs⟩
            case measure => simp [intOf]; omega
      · obtain rfl : a = u.length := by omega
        go_wp2
        go_ret
        exact GivesT.of HOr.out HBr.out
  · rw [sqV_out h64]
    go_enter Try.func11, Try.ntmps11
    go_wp2
    go_ret
    exact GivesT.of HO.out HB.out
set_option maxHeartbeats 2000000 in
theorem spec_ov (v : Value) (u : List Int) (w : World) (h : Lies (Value.int .i64) w v u) :
    Calls Try.prog 21 #[v] w fun e w' => e = .returned (.bool (ovB u)) ∧ Below w.heap.size w w' := by
  obtain ⟨pa, pc, rfl⟩ := lies_shape h
  have hsm := h.1
  have HU := Lib.hid h
  clear h
  by_cases hL : u.length ≤ 128
  · have hLd := decide_eq_true (show (u.length : Int) ≤ 128 by omega)
    go_enter Try.func21, Try.ntmps21
    go_wp2
    go_loopw [3] (fun a' wr => ∃ a : Nat, a ≤ u.length ∧ a' = .int .i64 a ∧ Hid (∀ b p, b < a → 0 < p → b + 2 * p < u.length → ¬ mlen u b p > 2 * p) ∧ Hid (Below w.heap.size w wr)) (fun a' _ => u.length - (intOf a').toNat)
    case atStart => exact ⟨0, Nat.zero_le _, rfl, fun b p h => by omega, Below.refl _ _⟩
    case round =>
      obtain ⟨a, hal, rfl, HN, HBr⟩ := hrel
      obtain ⟨W6, hW6⟩ : ∃ W : World, W = wr := ⟨_, rfl⟩
      rw [← hW6] at HBr ⊢
      clear hW6
      by_cases hlt : a < u.length
      · go_wp2
        go_loopw [4] (fun p' wr => ∃ P : Nat, 0 < P ∧ P ≤ u.length + 1 ∧ p' = .int .i64 P ∧ Hid (∀ q, 0 < q → q < P → a + 2 * q < u.length → ¬ mlen u a q > 2 * q) ∧ Hid (Below w.heap.size w wr)) (fun p' _ => u.length - (intOf p').toNat)
        case atStart => exact ⟨1, by omega, by omega, rfl, fun q h1 h2 => by omega, HBr⟩
        case round =>
          obtain ⟨P, hP, haP, rfl, HI, HBs⟩ := hrel
          by_cases hin : a + 2 * P < u.length
          · have hcn : (a : Int) + 2 * (P : Int) < (u.length : Int) := by omega
            have HM := Lib.hid (spec_ml _ u a P wr (HU.out.below HBs.out) (by omega) hP (by omega))
            have HY : Hid (mlen u a P > 2 * P → ovB u = true) := fun hq => ov_yes hL hP (by omega) hq
            have HI2 : Hid (¬ mlen u a P > 2 * P → ∀ q, 0 < q → q < P + 1 → a + 2 * q < u.length → ¬ mlen u a q > 2 * q) := fun hn q h1 h2 h3 => by
              by_cases e : q = P
              · subst e; exact hn
              · exact HI.out q h1 (by omega) h3
            obtain ⟨m, hm⟩ : ∃ m, m = mlen u a P := ⟨_, rfl⟩
            rw [← hm] at HM HY HI2
            clear hm
            by_cases hq : m > 2 * P
            · have HR := Lib.hid (HY.out hq)
              have hge := decide_eq_true (show (m : Int) > 2 * (P : Int) by omega)
              go_wp2_with fail
              refine HM.out.mono ?_
              rintro e W1 ⟨rfl, b1⟩
              have HB1 := Lib.hid (HBs.out.trans (b1.mono HBs.out.size))
              clear b1 HM
              go_wp2
              go_ret
              exact ⟨ret_b HR.out.symm, HB1.out⟩
            · have HR := Lib.hid (HI2.out hq)
              have hge := decide_eq_false (show ¬ (m : Int) > 2 * (P : Int) by omega)
              have hge2 := decide_eq_false (show ¬ 2 * (P : Int) < (m : Int) by omega)
              have hge3 : ¬ 2 * (P : Int) < (m : Int) := by omega
              go_wp2_with fail
              refine HM.out.mono ?_
              rintro e W1 ⟨rfl, b1⟩
              have HB1 := Lib.hid (HBs.out.trans (b1.mono HBs.out.size))
              clear b1 HM
              go_wp2
              go_roundw
              case rel => exact ⟨P + 1, by omega, by omega, by go_num, HR, HB1⟩
              case measure => simp [intOf]; omega
          · have hcn : ¬ (a : Int) + 2 * (P : Int) < (u.length : Int) := by omega
            have HR : Hid (∀ b p, b < a + 1 → 0 < p → b + 2 * p < u.length → ¬ mlen u b p > 2 * p) := fun b p h1 h2 h3 => by
              by_cases e : b = a
              · subst e; exact HI.out p h2 (by omega) h3
              · exact HN.out b p (by omega) h2 h3
            go_wp2
            go_roundw
            case rel => exact ⟨a + 1, by omega, by go_num, HR, HBs⟩
            case measure => simp [intOf]; omega
      · obtain rfl : a = u.length := by omega
        have HR := Lib.hid (ov_no (u := u) fun b p h1 h2 => HN.out b p (by omega) h1 h2)
        go_wp2
        go_ret
        exact ⟨ret_b HR.out.symm, HBr.out⟩
  · have HR := Lib.hid (ov_out hL)
    go_enter Try.func21, Try.ntmps21
    go_wp2
    go_loopw [3] (fun a' wr => a' = .int .i64 0 ∧ wr = w) (fun a' _ => 0)
    case atStart => exact ⟨rfl, rfl⟩
    case round =>
      obtain ⟨rfl, rfl⟩ := hrel
      have h0 : 0 < u.length := by omega
      go_wp2
      go_ret
      exact ⟨ret_b HR.out.symm, Below.refl _ _⟩
theorem mul_fits {m d : Nat} (h1 : m ≤ 100000) (h2 : d ≤ 100000) : (m : Int) * (d : Int) ≤ 10000000000 ∧ 0 ≤ (m : Int) * (d : Int) := by
  have h3 : (m : Int) * (d : Int) ≤ 100000 * 100000 := Int.mul_le_mul (by omega) (by omega) (by omega) (by omega)
  exact ⟨by omega, Int.mul_nonneg (by omega) (by omega)⟩
set_option maxHeartbeats 2000000 in
theorem spec_pow (v : Value) (u : List Int) (num den : Int) (w : World) (h : Lies (Value.int .i64) w v u) (hs : u.length ≤ 4194304) :
    Calls Try.prog 23 #[v, .int .i64 num, .int .i64 den] w fun e w' => e = .returned (.bool (powB u num den)) ∧ Below w.heap.size w w' := by
  obtain ⟨pa, pc, rfl⟩ := lies_shape h
  have HU := Lib.hid h
  clear h
  by_cases h1 : 2 ≤ num ∧ num ≤ 20
  · have h11 := h1.1
    have h12 := h1.2
    by_cases h2 : 1 ≤ den ∧ den ≤ num - 1
    · by_cases hL : u.length ≤ 128
      · obtain ⟨N, rfl⟩ : ∃ N : Nat, num = N := ⟨num.toNat, by omega⟩
        obtain ⟨D, rfl⟩ : ∃ D : Nat, den = D := ⟨den.toNat, by omega⟩
        have HIN := Lib.hid (l1In_yes (N : Int) 2 20 · h11 h12)
        have HID := Lib.hid (l1In_yes (D : Int) 1 ((N : Int) - 1) · h2.1 h2.2)
        have HC : Hid (u.length ≤ 128 ∧ 2 ≤ (N : Int) ∧ (N : Int) ≤ 20 ∧ 1 ≤ (D : Int) ∧ (D : Int) < N) := ⟨hL, h11, h12, h2.1, by omega⟩
        have hD1 := h2.1
        have hD2 := h2.2
        clear h1 h2
        have hLd := decide_eq_true (show (u.length : Int) ≤ 128 by omega)
        go_enter Try.func23, Try.ntmps23
        go_wp2_with (first | (go_at_call 39; (with_reducible refine (HIN.out _).mono ?_); rintro e w1 ⟨rfl, rfl⟩) | (go_at_call 39; (with_reducible refine (HID.out _).mono ?_); rintro e w1 ⟨rfl, rfl⟩))
        go_loopw [7] (fun a' wr => ∃ a : Nat, a ≤ u.length ∧ a' = .int .i64 a ∧ Hid (∀ b p, b < a → 0 < p → b + p < u.length → (mlen u b p : Int) * D < (p : Int) * N) ∧ Hid (Below w.heap.size w wr)) (fun a' _ => u.length - (intOf a').toNat)
        case atStart => exact ⟨0, Nat.zero_le _, rfl, fun b p h => by omega, Below.refl _ _⟩
        case round =>
          obtain ⟨a, hal, rfl, HN, HBr⟩ := hrel
          obtain ⟨W6, hW6⟩ : ∃ W : World, W = wr := ⟨_, rfl⟩
          rw [← hW6] at HBr ⊢
          clear hW6
          by_cases hlt : a < u.length
          · go_wp2
            go_loopw [8] (fun p' wr => ∃ P : Nat, 0 < P ∧ P ≤ u.length + 1 ∧ p' = .int .i64 P ∧ Hid (∀ q, 0 < q → q < P → a + q < u.length → (mlen u a q : Int) * D < (q : Int) * N) ∧ Hid (Below w.heap.size w wr)) (fun p' _ => u.length - (intOf p').toNat)
            case atStart => exact ⟨1, by omega, by omega, rfl, fun q h1 h2 => by omega, HBr⟩
            case round =>
              obtain ⟨P, hP, haP, rfl, HI, HBs⟩ := hrel
              by_cases hin : a + P < u.length
              · have hcn : (a : Int) + (P : Int) < (u.length : Int) := by omega
                have HM := Lib.hid (spec_ml _ u a P wr (HU.out.below HBs.out) (by omega) hP (by omega))
                have HY : Hid ((mlen u a P : Int) * D ≥ (P : Int) * N → powB u N D = true) := fun hq => pow_yes HC.out hP (by omega) hq
                have HI2 : Hid ((mlen u a P : Int) * D < (P : Int) * N → ∀ q, 0 < q → q < P + 1 → a + q < u.length → (mlen u a q : Int) * D < (q : Int) * N) := fun hn q h1 h2 h3 => by
                  by_cases e : q = P
                  · subst e; exact hn
                  · exact HI.out q h1 (by omega) h3
                have hml := mlen_le (u := u) (a := a) (p := P) (by omega)
                obtain ⟨m, hm⟩ : ∃ m, m = mlen u a P := ⟨_, rfl⟩
                rw [← hm] at HM HY HI2 hml
                clear hm
                have hf1 := mul_fits (m := m) (d := D) (by omega) (by omega)
                have hf2 := mul_fits (m := P) (d := N) (by omega) (by omega)
                obtain ⟨f1, f2⟩ := hf1
                obtain ⟨f3, f4⟩ := hf2
                by_cases hq : (m : Int) * D ≥ (P : Int) * N
                · have HR := Lib.hid (HY.out hq)
                  have hge := decide_eq_true hq
                  clear hq
                  go_wp2_with fail
                  refine HM.out.mono ?_
                  rintro e W1 ⟨rfl, b1⟩
                  have HB1 := Lib.hid (HBs.out.trans (b1.mono HBs.out.size))
                  clear b1 HM
                  go_wp2
                  go_ret
                  exact ⟨ret_b HR.out.symm, HB1.out⟩
                · have HR := Lib.hid (HI2.out (by omega))
                  have hge := decide_eq_false hq
                  clear hq
                  go_wp2_with fail
                  refine HM.out.mono ?_
                  rintro e W1 ⟨rfl, b1⟩
                  have HB1 := Lib.hid (HBs.out.trans (b1.mono HBs.out.size))
                  clear b1 HM
                  go_wp2
                  go_roundw
                  case rel => exact ⟨P + 1, by omega, by omega, by go_num, HR, HB1⟩
                  case measure => simp [intOf]; omega
              · have hcn : ¬ (a : Int) + (P : Int) < (u.length : Int) := by omega
                have HR : Hid (∀ b p, b < a + 1 → 0 < p → b + p < u.length → (mlen u b p : Int) * D < (p : Int) * N) := fun b p h1 h2 h3 => by
                  by_cases e : b = a
                  · subst e; exact HI.out p h2 (by omega) h3
                  · exact HN.out b p (by omega) h2 h3
                go_wp2
                go_roundw
                case rel => exact ⟨a + 1, by omega, by go_num, HR, HBs⟩
                case measure => simp [intOf]; omega
          · obtain rfl : a = u.length := by omega
            have HR := Lib.hid (pow_no (u := u) (num := (N : Int)) (den := (D : Int)) fun b p h1 h2 => by have := HN.out b p (by omega) h1 h2; omega)
            go_wp2
            go_ret
            exact ⟨ret_b HR.out.symm, HBr.out⟩
      · have HR := Lib.hid (pow_out (num := num) (den := den) (fun h => hL h.1))
        have HIN := Lib.hid (l1In_yes num 2 20 · h11 h12)
        have HID := Lib.hid (l1In_yes den 1 (num - 1) · h2.1 h2.2)
        clear h1 h2
        go_enter Try.func23, Try.ntmps23
        go_wp2_with (first | (go_at_call 39; (with_reducible refine (HIN.out _).mono ?_); rintro e w1 ⟨rfl, rfl⟩) | (go_at_call 39; (with_reducible refine (HID.out _).mono ?_); rintro e w1 ⟨rfl, rfl⟩))
        go_loopw [7] (fun a' wr => a' = .int .i64 0 ∧ wr = w) (fun a' _ => 0)
        case atStart => exact ⟨rfl, rfl⟩
        case round =>
          obtain ⟨rfl, rfl⟩ := hrel
          have h0 : 0 < u.length := by omega
          go_wp2
          go_ret
          exact ⟨ret_b HR.out.symm, Below.refl _ _⟩
    · have HR := Lib.hid (pow_out (u := u) (num := num) (den := den) (fun h => h2 ⟨h.2.2.2.1, by omega⟩))
      have HIN := Lib.hid (l1In_yes num 2 20 · h11 h12)
      have HID := Lib.hid (l1In_no den 1 (num - 1) · (by omega))
      clear h1 h2
      go_enter Try.func23, Try.ntmps23
      go_wp2_with (first | (go_at_call 39; (with_reducible refine (HIN.out _).mono ?_); rintro e w1 ⟨rfl, rfl⟩) | (go_at_call 39; (with_reducible refine (HID.out _).mono ?_); rintro e w1 ⟨rfl, rfl⟩))
      go_ret
      exact ⟨ret_b HR.out.symm, Below.refl _ _⟩
  · have HR := Lib.hid (pow_out (u := u) (num := num) (den := den) (fun h => h1 ⟨h.2.1, h.2.2.1⟩))
    have HIN := Lib.hid (l1In_no num 2 20 · (by omega))
    clear h1
    go_enter Try.func23, Try.ntmps23
    go_wp2_with (go_at_call 39; (with_reducible refine (HIN.out _).mono ?_); rintro e w1 ⟨rfl, rfl⟩)
    go_ret
    exact ⟨ret_b HR.out.symm, Below.refl _ _⟩
theorem spec_hsq (v : Value) (u : List Int) (w : World) (h : Lies (Value.int .i64) w v u) (hs : u.length ≤ 4194304) :
    Calls Try.prog 19 #[v] w fun e w' => e = .returned (.bool (powB u 2 1)) ∧ Below w.heap.size w w' := by
  have HC := Lib.hid (spec_pow v u 2 1 w h hs)
  go_enter Try.func19, Try.ntmps19
  go_wp2_with fail
  refine HC.out.mono ?_
  rintro e W1 ⟨rfl, b1⟩
  have HB := Lib.hid b1
  clear b1
  go_wp2
  go_ret
  exact ⟨rfl, HB.out⟩
set_option maxHeartbeats 2000000 in
theorem spec_gcd (x y : Nat) (w : World) (hx : x ≤ 9223372036854775807) (hy : y ≤ 9223372036854775807) :
    Calls Try.prog 42 #[.int .i64 x, .int .i64 y] w fun e w' => e = .returned (.int .i64 (Nat.gcd x y)) ∧ w = w' := by
  go_enter Try.func42, Try.ntmps42
  go_wp2
  go_loop [0, 1] (fun a' b' => ∃ a b : Nat, a ≤ 9223372036854775807 ∧ b ≤ 9223372036854775807 ∧ a' = .int .i64 a ∧ b' = .int .i64 b ∧ Hid (Nat.gcd a b = Nat.gcd x y)) (fun _ b' => (intOf b').toNat)
  case atStart => exact ⟨x, y, hx, hy, rfl, rfl, rfl⟩
  case round =>
    obtain ⟨a, b, ha, hb, rfl, rfl, HG⟩ := hrel
    by_cases h0 : 0 < b
    · have hb0 : ((b : Int) == 0) = false := by simp; omega
      have hm : a % b < b := Nat.mod_lt _ h0
      obtain ⟨r, hr⟩ : ∃ r, r = a % b := ⟨_, rfl⟩
      have e1 : (a : Int) % (b : Int) = (r : Int) := by rw [hr]; rfl
      have e2 : (a : Int).tmod (b : Int) = (r : Int) := by rw [hr]; rfl
      have HG2 : Hid (Nat.gcd b r = Nat.gcd x y) := by show _ = _; rw [hr, gcd_step]; exact HG.out
      rw [← hr] at hm
      clear hr
      go_wp2
      go_round
      case rel => exact ⟨b, r, by omega, by omega, rfl, rfl, HG2⟩
      case measure => simp [intOf]; omega
    · obtain rfl : b = 0 := by omega
      have HE : Hid (a = Nat.gcd x y) := by have := HG.out; rwa [Nat.gcd_zero_right] at this
      go_wp2
      go_ret
      exact ⟨ret_i (by rw [← HE.out]), rfl⟩
end Fac
end Go.Proofs.Ytojmlhcgghaceaa
