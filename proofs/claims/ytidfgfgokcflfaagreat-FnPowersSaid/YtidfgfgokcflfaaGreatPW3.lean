/- Several texts of this proof, one behind the other: each says ahead of it what it shows and under which conditions. -/
import Derived.Test.YtidfgfgokcflfaaGreatPW1
import Derived.Test.YtidfgfgokcflfaaGreatPW2
import Derived.Test.YtidfgfgokcflfaaGreatCommon
import Derived.Test.YtidfgfgokcflfaaGreatSeqs3
import Derived.Deep.RegionHeld3
import Derived.Deep.DeepCutAuto
import Derived.Test.YtidfgfgokcflfaaGreatDigits
import Derived.RangeFuncNested
import Derived.RangeFuncBound
import Derived.RangeFuncCalls
import Derived.RangeFuncBox
import Derived.RangeFuncLeaves
import Derived.Shelf.Abstract
import Derived.Shelf.RegionOpen
import Derived.WalkKit
import Derived.OwnWalkIn
import Derived.TacticsInMore
import Derived.LoopNIn
import Derived.LoopIn
import Derived.Maps.AppendAt
import Derived.Test.YtidfgfgokcflfaaGreatDigits2
import Derived.Laws.CopyOwn
import Derived.Deep.RegionLaw
import Derived.ArgAppend
/- Contracts of the model's l10Match, SquaresOf, HasOverlap, HasPower, HasSquare and l10Gcd. No conditions beyond those that each states. -/
namespace Go.Proofs.YtidfgfgokcflfaaGreat
open Go.ChangeShapes Go.WideShapes Go.ChangeAt Go.RowKit
open Go.PlainAid Plain
set_option linter.unusedVariables false
namespace Fac
set_option maxHeartbeats 2000000 in
theorem spec_ml (v : Value) (u : List Int) (a p : Nat) (w : World) (h : Lies (Value.int .i64) w v u) (hs : u.length ≤ 4194304) (hp : 0 < p) (hap : a + p ≤ u.length) :
    Calls Tryz.prog 27 #[v, .int .i64 a, .int .i64 p] w fun e w' => e = .returned (.int .i64 (mlen u a p)) ∧ Below w.heap.size w w' := by
  obtain ⟨pa, pc, rfl⟩ := lies_shape h
  have HU := Lib.hid h
  clear h
  go_enter Tryz.func27, Tryz.ntmps27
  go_wp2
  go_loopw [7] (fun n' wr => ∃ n : Nat, p ≤ n ∧ a + n ≤ u.length ∧ n' = .int .i64 n ∧ Hid (PerA u a p n) ∧ Hid (Below w.heap.size w wr)) (fun n' _ => u.length - (intOf n').toNat)
  case atStart => exact ⟨p, Nat.le_refl _, hap, rfl, PerA.short hap (Nat.le_refl _), Below.refl _ _⟩
  case round =>
    obtain ⟨n, hpn, han, rfl, HP, HB⟩ := hrel
    obtain ⟨t, ht⟩ : ∃ t : Nat, t = a + n := ⟨_, rfl⟩
    have e1 : (a : Int) + (n : Int) = (t : Int) := by omega
    have HTT := Lib.hid ht
    by_cases hlt : t < u.length
    · obtain ⟨s, hs'⟩ : ∃ s : Nat, s = t - p := ⟨_, rfl⟩
      have e2 : (t : Int) - (p : Int) = (s : Int) := by omega
      obtain ⟨x, hx⟩ : ∃ x, u[t]? = some x := ⟨_, List.getElem?_eq_getElem hlt⟩
      obtain ⟨y, hy⟩ : ∃ y, u[s]? = some y := ⟨_, List.getElem?_eq_getElem (by omega)⟩
      obtain ⟨q, r, hpa, hc1⟩ := lies_cell (HU.out.below HB.out) hx
      subst hpa
      obtain ⟨_, _, hpa, hc2⟩ := lies_cell (HU.out.below HB.out) hy
      cases hpa
      have hsl : s < u.length := by omega
      have hx2 := hx
      have hy2 := hy
      rw [ht] at hx2
      rw [hs', ht] at hy2
      by_cases hxy : x = y
      · have HP2 := Lib.hid (HP.out.more hx2 hy2 hxy)
        have hd : (x == y) = true := by simpa using hxy
        clear hx hy hx2 hy2 hxy hs' ht
        go_wp2_with fail
        go_quiet (fail)
        go_wp2
        go_roundw
        case rel => exact ⟨n + 1, by omega, by have := HTT.out; omega, by go_num, HP2, Lib.hid (below_drewN HB.out _)⟩
        case measure => simp [intOf]; have := HTT.out; omega
      · have HE := Lib.hid (mlen_stop HP.out hpn hx2 hy2 hxy)
        have hd : (x == y) = false := by simpa using hxy
        clear hx hy hx2 hy2 hxy hs' ht
        go_wp2_with fail
        go_quiet (fail)
        go_wp2
        go_ret
        exact ⟨ret_i (by have := HE.out; omega), below_drewN HB.out _⟩
    · have HE := Lib.hid (mlen_end HP.out hpn (by omega))
      clear ht
      go_wp2_with fail
      go_quiet (fail)
      go_wp2
      go_ret
      exact ⟨ret_i (by have := HE.out; omega), below_drewN HB.out _⟩
def sqL (l : List Sqr) : List (List Int) := l.map fun s => [(s.1 : Int), (s.2 : Int), 2 * (s.2 : Int)]
theorem sqL_append (l m : List Sqr) : sqL (l ++ m) = sqL l ++ sqL m := by simp [sqL]
theorem sqL_len (l : List Sqr) : (sqL l).length = l.length := by simp [sqL]
theorem sqL_at {l : List Sqr} {i : Nat} {s : Sqr} (h : l[i]? = some s) : (sqL l)[i]? = some [(s.1 : Int), (s.2 : Int), 2 * (s.2 : Int)] := by simp [sqL, h]
theorem infoP : (Tryz.prog.info? 31).map (fun i => (i.zero, i.size, i.bytes)) = some (some (.agg #[.int .i64 0, .int .i64 0, .int .i64 0]), 3, 24) := by kernel_rfl
theorem sq_len {u : List Int} (h : u.length ≤ 64) {a k : Nat} (ha : a < u.length) (hk : 2 * k ≤ u.length) : (sqL (sqU u a ++ sqI u a k)).length ≤ 10000 := by
  have h1 := sqU_len u a
  have h2 := sqI_len u a k
  have h3 : a * u.length ≤ 64 * 64 := Nat.mul_le_mul (by omega) h
  rw [sqL_len, List.length_append]
  omega
set_option maxRecDepth 100000 in
set_option maxHeartbeats 4000000 in
theorem spec_sq (v : Value) (u : List Int) (w : World) (h : Lies (Value.int .i64) w v u) :
    Calls Tryz.prog 7 #[v] w (GivesT 31 3 (sqL (sqV u)) w) := by
  obtain ⟨i0, hi, hz0, hz1, hz2⟩ := info_parts infoP
  obtain ⟨pa, pc, rfl⟩ := lies_shape h
  have hsm := h.1
  have HU := Lib.hid h
  have HB : Hid (Below w.heap.size w (w.alloc (Obj.cells #[] 31))) := (Below.refl _ _).alloc (Nat.le_refl _) _
  have HO : Hid (OwnT 31 3 (w.alloc (Obj.cells #[] 31)) w.heap.size (.slice (some ⟨w.heap.size, 0, none⟩) 0 0) []) := OwnT.lit0 w (Nat.le_refl _)
  clear h
  by_cases h64 : u.length ≤ 64
  · rw [sqV_in h64]
    go_enter Tryz.func7, Tryz.ntmps7
    go_wp2
    go_loopw [3, 4] (fun o' a' wr => ∃ (a : Nat) (vo : Value), a ≤ u.length ∧ a' = .int .i64 a ∧ vo = o' ∧ Hid (OwnT 31 3 wr w.heap.size vo (sqL (sqU u a))) ∧ Hid (Below w.heap.size w wr)) (fun _ a' _ => u.length - (intOf a').toNat)
    case atStart => exact ⟨0, _, Nat.zero_le _, rfl, rfl, HO, HB⟩
    case round =>
      obtain ⟨a, vo, hal, rfl, rfl, HOr, HBr⟩ := hrel
      obtain ⟨W6, hW6⟩ : ∃ W : World, W = wr := ⟨_, rfl⟩
      rw [← hW6] at HOr HBr ⊢
      clear hW6
      by_cases hlt : a < u.length
      · go_wp2
        go_loopw [3, 5] (fun o' p' wr => ∃ (P : Nat) (vo : Value), 0 < P ∧ a + 2 * (P - 1) ≤ u.length ∧ p' = .int .i64 P ∧ vo = o' ∧ Hid (OwnT 31 3 wr w.heap.size vo (sqL (sqU u a ++ sqI u a (P - 1)))) ∧ Hid (Below w.heap.size w wr)) (fun _ p' _ => u.length - (intOf p').toNat)
        case atStart => exact ⟨1, _, by omega, by omega, rfl, rfl, by show OwnT _ _ _ _ _ _; rw [show sqI u a (1 - 1) = [] from rfl, List.append_nil]; exact HOr, HBr⟩
        case round =>
          obtain ⟨P, vo, hP, haP, rfl, rfl, HOs, HBs⟩ := hrel
          by_cases hin : a + 2 * P ≤ u.length
          · have hcn : (a : Int) + 2 * (P : Int) ≤ (u.length : Int) := by omega
            have HM := Lib.hid (spec_ml _ u a P wr (HU.out.below HBs.out) (by omega) hP (by omega))
            have hiff := sq_iff (u := u) (a := a) (p := P) hin
            obtain ⟨m, hm⟩ : ∃ m, m = mlen u a P := ⟨_, rfl⟩
            rw [← hm] at HM hiff
            clear hm
            obtain ⟨oa, oc, hvo, _⟩ := HOs.out.form
            have HL := Lib.hid (sq_len h64 hlt (k := P - 1) (by omega))
            subst hvo
            cases hq : sqAt u a P with
            | true =>
              have hge := decide_eq_true (show (m : Int) ≥ 2 * (P : Int) by have := hiff.1 hq; omega)
              have HN : Hid (sqL (sqU u a ++ sqI u a (P - 1)) ++ [[(a : Int), (P : Int), 2 * (P : Int)]] = sqL (sqU u a ++ sqI u a (P + 1 - 1))) := by
                show _ = _
                obtain ⟨k, rfl⟩ : ∃ k, P = k + 1 := ⟨P - 1, by omega⟩
                rw [Nat.add_sub_cancel, Nat.add_sub_cancel, sqI_yes hq, ← List.append_assoc, sqL_append _ [_]]
                rfl
              clear hiff hq
              go_wp2_with fail
              refine HM.out.mono ?_
              rintro e W1 ⟨rfl, b1⟩
              have HO1 := Lib.hid (HOs.out.below b1)
              have HB1 := Lib.hid (HBs.out.trans (b1.mono HBs.out.size))
              clear b1 HM
              go_wp2_with (refine append_t (e := 31) (k := 3) rfl _ _ 26 rfl i0 _ 24 Tryz.underlying26 hi hz0 hz1 hz2 rfl (by omega) _ rfl HO1.out [(a : Int), (P : Int), 2 * (P : Int)] rfl _ rfl rfl _ rfl (by have := HL.out; omega) (by omega) HB1.out.size ?_; intro v2 w2 ho hg; have HO2 := Lib.hid ho; have HB2 := Lib.hid (HO1.out.frame HB1.out (Nat.le_refl _) hg); clear ho hg)
              go_roundw
              case rel => exact ⟨P + 1, _, by omega, by omega, by go_num, rfl, by rw [← HN.out]; exact HO2, HB2⟩
              case measure => simp [intOf]; omega
            | false =>
              have hge := decide_eq_false (show ¬ (m : Int) ≥ 2 * (P : Int) by intro e; have := hiff.2 (by omega); rw [hq] at this; cases this)
              have HN : Hid (sqL (sqU u a ++ sqI u a (P - 1)) = sqL (sqU u a ++ sqI u a (P + 1 - 1))) := by
                show _ = _
                obtain ⟨k, rfl⟩ : ∃ k, P = k + 1 := ⟨P - 1, by omega⟩
                rw [Nat.add_sub_cancel, Nat.add_sub_cancel, sqI_no hq]
              clear hiff hq
              go_wp2_with fail
              refine HM.out.mono ?_
              rintro e W1 ⟨rfl, b1⟩
              have HO1 := Lib.hid (HOs.out.below b1)
              have HB1 := Lib.hid (HBs.out.trans (b1.mono HBs.out.size))
              clear b1 HM
              go_wp2
              go_roundw
              case rel => exact ⟨P + 1, _, by omega, by omega, by go_num, rfl, by rw [← HN.out]; exact HO1, HB1⟩
              case measure => simp [intOf]; omega
          · have hcn : ¬ (a : Int) + 2 * (P : Int) ≤ (u.length : Int) := by omega
            have HE : Hid (sqU u a ++ sqI u a (P - 1) = sqU u (a + 1)) := by
              show _ = sqU u a ++ sqI u a ((u.length - a) / 2)
              rw [show (u.length - a) / 2 = P - 1 from by omega]
            go_wp2
            go_roundw
            case rel => exact ⟨a + 1, _, by omega, by go_num, rfl, by rw [← HE.out]; exact HOs, HBs⟩
            case measure => simp [intOf]; omega
      · obtain rfl : a = u.length := by omega
        go_wp2
        go_ret
        exact GivesT.of HOr.out HBr.out
  · rw [sqV_out h64]
    go_enter Tryz.func7, Tryz.ntmps7
    go_wp2
    go_ret
    exact GivesT.of HO.out HB.out
set_option maxHeartbeats 2000000 in
theorem spec_ov (v : Value) (u : List Int) (w : World) (h : Lies (Value.int .i64) w v u) :
    Calls Tryz.prog 11 #[v] w fun e w' => e = .returned (.bool (ovB u)) ∧ Below w.heap.size w w' := by
  obtain ⟨pa, pc, rfl⟩ := lies_shape h
  have hsm := h.1
  have HU := Lib.hid h
  clear h
  by_cases hL : u.length ≤ 128
  · have hLd := decide_eq_true (show (u.length : Int) ≤ 128 by omega)
    go_enter Tryz.func11, Tryz.ntmps11
    go_wp2
    go_loopw [3] (fun a' wr => ∃ a : Nat, a ≤ u.length ∧ a' = .int .i64 a ∧ Hid (∀ b p, b < a → 0 < p → b + 2 * p < u.length → ¬ mlen u b p > 2 * p) ∧ Hid (Below w.heap.size w wr)) (fun a' _ => u.length - (intOf a').toNat)
    case atStart => exact ⟨0, Nat.zero_le _, rfl, fun b p h => by omega, Below.refl _ _⟩
    case round =>
      obtain ⟨a, hal, rfl, HN, HBr⟩ := hrel
      obtain ⟨W6, hW6⟩ : ∃ W : World, W = wr := ⟨_, rfl⟩
      rw [← hW6] at HBr ⊢
      clear hW6
      by_cases hlt : a < u.length
      · go_wp2
        go_loopw [4] (fun p' wr => ∃ P : Nat, 0 < P ∧ P ≤ u.length + 1 ∧ p' = .int .i64 P ∧ Hid (∀ q, 0 < q → q < P → a + 2 * q < u.length → ¬ mlen u a q > 2 * q) ∧ Hid (Below w.heap.size w wr)) (fun p' _ => u.length - (intOf p').toNat)
        case atStart => exact ⟨1, by omega, by omega, rfl, fun q h1 h2 => by omega, HBr⟩
        case round =>
          obtain ⟨P, hP, haP, rfl, HI, HBs⟩ := hrel
          by_cases hin : a + 2 * P < u.length
          · have hcn : (a : Int) + 2 * (P : Int) < (u.length : Int) := by omega
            have HM := Lib.hid (spec_ml _ u a P wr (HU.out.below HBs.out) (by omega) hP (by omega))
            have HY : Hid (mlen u a P > 2 * P → ovB u = true) := fun hq => ov_yes hL hP (by omega) hq
            have HI2 : Hid (¬ mlen u a P > 2 * P → ∀ q, 0 < q → q < P + 1 → a + 2 * q < u.length → ¬ mlen u a q > 2 * q) := fun hn q h1 h2 h3 => by
              by_cases e : q = P
              · subst e; exact hn
              · exact HI.out q h1 (by omega) h3
            obtain ⟨m, hm⟩ : ∃ m, m = mlen u a P := ⟨_, rfl⟩
            rw [← hm] at HM HY HI2
            clear hm
            by_cases hq : m > 2 * P
            · have HR := Lib.hid (HY.out hq)
              have hge := decide_eq_true (show (m : Int) > 2 * (P : Int) by omega)
              go_wp2_with fail
              refine HM.out.mono ?_
              rintro e W1 ⟨rfl, b1⟩
              have HB1 := Lib.hid (HBs.out.trans (b1.mono HBs.out.size))
              clear b1 HM
              go_wp2
              go_ret
              exact ⟨ret_b HR.out.symm, HB1.out⟩
            · have HR := Lib.hid (HI2.out hq)
              have hge := decide_eq_false (show ¬ (m : Int) > 2 * (P : Int) by omega)
              have hge2 := decide_eq_false (show ¬ 2 * (P : Int) < (m : Int) by omega)
              have hge3 : ¬ 2 * (P : Int) < (m : Int) := by omega
              go_wp2_with fail
              refine HM.out.mono ?_
              rintro e W1 ⟨rfl, b1⟩
              have HB1 := Lib.hid (HBs.out.trans (b1.mono HBs.out.size))
              clear b1 HM
              go_wp2
              go_roundw
              case rel => exact ⟨P + 1, by omega, by omega, by go_num, HR, HB1⟩
              case measure => simp [intOf]; omega
          · have hcn : ¬ (a : Int) + 2 * (P : Int) < (u.length : Int) := by omega
            have HR : Hid (∀ b p, b < a + 1 → 0 < p → b + 2 * p < u.length → ¬ mlen u b p > 2 * p) := fun b p h1 h2 h3 => by
              by_cases e : b = a
              · subst e; exact HI.out p h2 (by omega) h3
              · exact HN.out b p (by omega) h2 h3
            go_wp2
            go_roundw
            case rel => exact ⟨a + 1, by omega, by go_num, HR, HBs⟩
            case measure => simp [intOf]; omega
      · obtain rfl : a = u.length := by omega
        have HR := Lib.hid (ov_no (u := u) fun b p h1 h2 => HN.out b p (by omega) h1 h2)
        go_wp2
        go_ret
        exact ⟨ret_b HR.out.symm, HBr.out⟩
  · have HR := Lib.hid (ov_out hL)
    go_enter Tryz.func11, Tryz.ntmps11
    go_wp2
    go_loopw [3] (fun a' wr => a' = .int .i64 0 ∧ wr = w) (fun a' _ => 0)
    case atStart => exact ⟨rfl, rfl⟩
    case round =>
      obtain ⟨rfl, rfl⟩ := hrel
      have h0 : 0 < u.length := by omega
      go_wp2
      go_ret
      exact ⟨ret_b HR.out.symm, Below.refl _ _⟩
theorem mul_fits {m d : Nat} (h1 : m ≤ 100000) (h2 : d ≤ 100000) : (m : Int) * (d : Int) ≤ 10000000000 ∧ 0 ≤ (m : Int) * (d : Int) := by
  have h3 : (m : Int) * (d : Int) ≤ 100000 * 100000 := Int.mul_le_mul (by omega) (by omega) (by omega) (by omega)
  exact ⟨by omega, Int.mul_nonneg (by omega) (by omega)⟩
set_option maxHeartbeats 2000000 in
theorem spec_pow (v : Value) (u : List Int) (num den : Int) (w : World) (h : Lies (Value.int .i64) w v u) (hs : u.length ≤ 4194304) :
    Calls Tryz.prog 23 #[v, .int .i64 num, .int .i64 den] w fun e w' => e = .returned (.bool (powB u num den)) ∧ Below w.heap.size w w' := by
  obtain ⟨pa, pc, rfl⟩ := lies_shape h
  have HU := Lib.hid h
  clear h
  by_cases h1 : 2 ≤ num ∧ num ≤ 20
  · have h11 := h1.1
    have h12 := h1.2
    by_cases h2 : 1 ≤ den ∧ den ≤ num - 1
    · by_cases hL : u.length ≤ 128
      · obtain ⟨N, rfl⟩ : ∃ N : Nat, num = N := ⟨num.toNat, by omega⟩
        obtain ⟨D, rfl⟩ : ∃ D : Nat, den = D := ⟨den.toNat, by omega⟩
        have HIN := Lib.hid (l1In_yes (N : Int) 2 20 · h11 h12)
        have HID := Lib.hid (l1In_yes (D : Int) 1 ((N : Int) - 1) · h2.1 h2.2)
        have HC : Hid (u.length ≤ 128 ∧ 2 ≤ (N : Int) ∧ (N : Int) ≤ 20 ∧ 1 ≤ (D : Int) ∧ (D : Int) < N) := ⟨hL, h11, h12, h2.1, by omega⟩
        have hD1 := h2.1
        have hD2 := h2.2
        clear h1 h2
        have hLd := decide_eq_true (show (u.length : Int) ≤ 128 by omega)
        go_enter Tryz.func23, Tryz.ntmps23
        go_wp2_with (first | (go_at_call 43; (with_reducible refine (HIN.out _).mono ?_); rintro e w1 ⟨rfl, rfl⟩) | (go_at_call 43; (with_reducible refine (HID.out _).mono ?_); rintro e w1 ⟨rfl, rfl⟩))
        go_loopw [7] (fun a' wr => ∃ a : Nat, a ≤ u.length ∧ a' = .int .i64 a ∧ Hid (∀ b p, b < a → 0 < p → b + p < u.length → (mlen u b p : Int) * D < (p : Int) * N) ∧ Hid (Below w.heap.size w wr)) (fun a' _ => u.length - (intOf a').toNat)
        case atStart => exact ⟨0, Nat.zero_le _, rfl, fun b p h => by omega, Below.refl _ _⟩
        case round =>
          obtain ⟨a, hal, rfl, HN, HBr⟩ := hrel
          obtain ⟨W6, hW6⟩ : ∃ W : World, W = wr := ⟨_, rfl⟩
          rw [← hW6] at HBr ⊢
          clear hW6
          by_cases hlt : a < u.length
          · go_wp2
            go_loopw [8] (fun p' wr => ∃ P : Nat, 0 < P ∧ P ≤ u.length + 1 ∧ p' = .int .i64 P ∧ Hid (∀ q, 0 < q → q < P → a + q < u.length → (mlen u a q : Int) * D < (q : Int) * N) ∧ Hid (Below w.heap.size w wr)) (fun p' _ => u.length - (intOf p').toNat)
            case atStart => exact ⟨1, by omega, by omega, rfl, fun q h1 h2 => by omega, HBr⟩
            case round =>
              obtain ⟨P, hP, haP, rfl, HI, HBs⟩ := hrel
              by_cases hin : a + P < u.length
              · have hcn : (a : Int) + (P : Int) < (u.length : Int) := by omega
                have HM := Lib.hid (spec_ml _ u a P wr (HU.out.below HBs.out) (by omega) hP (by omega))
                have HY : Hid ((mlen u a P : Int) * D ≥ (P : Int) * N → powB u N D = true) := fun hq => pow_yes HC.out hP (by omega) hq
                have HI2 : Hid ((mlen u a P : Int) * D < (P : Int) * N → ∀ q, 0 < q → q < P + 1 → a + q < u.length → (mlen u a q : Int) * D < (q : Int) * N) := fun hn q h1 h2 h3 => by
                  by_cases e : q = P
                  · subst e; exact hn
                  · exact HI.out q h1 (by omega) h3
                have hml := mlen_le (u := u) (a := a) (p := P) (by omega)
                obtain ⟨m, hm⟩ : ∃ m, m = mlen u a P := ⟨_, rfl⟩
                rw [← hm] at HM HY HI2 hml
                clear hm
                have hf1 := mul_fits (m := m) (d := D) (by omega) (by omega)
                have hf2 := mul_fits (m := P) (d := N) (by omega) (by omega)
                obtain ⟨f1, f2⟩ := hf1
                obtain ⟨f3, f4⟩ := hf2
                by_cases hq : (m : Int) * D ≥ (P : Int) * N
                · have HR := Lib.hid (HY.out hq)
                  have hge := decide_eq_true hq
                  clear hq
                  go_wp2_with fail
                  refine HM.out.mono ?_
                  rintro e W1 ⟨rfl, b1⟩
                  have HB1 := Lib.hid (HBs.out.trans (b1.mono HBs.out.size))
                  clear b1 HM
                  go_wp2
                  go_ret
                  exact ⟨ret_b HR.out.symm, HB1.out⟩
                · have HR := Lib.hid (HI2.out (by omega))
                  have hge := decide_eq_false hq
                  clear hq
                  go_wp2_with fail
                  refine HM.out.mono ?_
                  rintro e W1 ⟨rfl, b1⟩
                  have HB1 := Lib.hid (HBs.out.trans (b1.mono HBs.out.size))
                  clear b1 HM
                  go_wp2
                  go_roundw
                  case rel => exact ⟨P + 1, by omega, by omega, by go_num, HR, HB1⟩
                  case measure => simp [intOf]; omega
              · have hcn : ¬ (a : Int) + (P : Int) < (u.length : Int) := by omega
                have HR : Hid (∀ b p, b < a + 1 → 0 < p → b + p < u.length → (mlen u b p : Int) * D < (p : Int) * N) := fun b p h1 h2 h3 => by
                  by_cases e : b = a
                  · subst e; exact HI.out p h2 (by omega) h3
                  · exact HN.out b p (by omega) h2 h3
                go_wp2
                go_roundw
                case rel => exact ⟨a + 1, by omega, by go_num, HR, HBs⟩
                case measure => simp [intOf]; omega
          · obtain rfl : a = u.length := by omega
            have HR := Lib.hid (pow_no (u := u) (num := (N : Int)) (den := (D : Int)) fun b p h1 h2 => by have := HN.out b p (by omega) h1 h2; omega)
            go_wp2
            go_ret
            exact ⟨ret_b HR.out.symm, HBr.out⟩
      · have HR := Lib.hid (pow_out (num := num) (den := den) (fun h => hL h.1))
        have HIN := Lib.hid (l1In_yes num 2 20 · h11 h12)
        have HID := Lib.hid (l1In_yes den 1 (num - 1) · h2.1 h2.2)
        clear h1 h2
        go_enter Tryz.func23, Tryz.ntmps23
        go_wp2_with (first | (go_at_call 43; (with_reducible refine (HIN.out _).mono ?_); rintro e w1 ⟨rfl, rfl⟩) | (go_at_call 43; (with_reducible refine (HID.out _).mono ?_); rintro e w1 ⟨rfl, rfl⟩))
        go_loopw [7] (fun a' wr => a' = .int .i64 0 ∧ wr = w) (fun a' _ => 0)
        case atStart => exact ⟨rfl, rfl⟩
        case round =>
          obtain ⟨rfl, rfl⟩ := hrel
          have h0 : 0 < u.length := by omega
          go_wp2
          go_ret
          exact ⟨ret_b HR.out.symm, Below.refl _ _⟩
    · have HR := Lib.hid (pow_out (u := u) (num := num) (den := den) (fun h => h2 ⟨h.2.2.2.1, by omega⟩))
      have HIN := Lib.hid (l1In_yes num 2 20 · h11 h12)
      have HID := Lib.hid (l1In_no den 1 (num - 1) · (by omega))
      clear h1 h2
      go_enter Tryz.func23, Tryz.ntmps23
      go_wp2_with (first | (go_at_call 43; (with_reducible refine (HIN.out _).mono ?_); rintro e w1 ⟨rfl, rfl⟩) | (go_at_call 43; (with_reducible refine (HID.out _).mono ?_); rintro e w1 ⟨rfl, rfl⟩))
      go_ret
      exact ⟨ret_b HR.out.symm, Below.refl _ _⟩
  · have HR := Lib.hid (pow_out (u := u) (num := num) (den := den) (fun h => h1 ⟨h.2.1, h.2.2.1⟩))
    have HIN := Lib.hid (l1In_no num 2 20 · (by omega))
    clear h1
    go_enter Tryz.func23, Tryz.ntmps23
    go_wp2_with (go_at_call 43; (with_reducible refine (HIN.out _).mono ?_); rintro e w1 ⟨rfl, rfl⟩)
    go_ret
    exact ⟨ret_b HR.out.symm, Below.refl _ _⟩
theorem spec_hsq (v : Value) (u : List Int) (w : World) (h : Lies (Value.int .i64) w v u) (hs : u.length ≤ 4194304) :
    Calls Tryz.prog 9 #[v] w fun e w' => e = .returned (.bool (powB u 2 1)) ∧ Below w.heap.size w w' := by
  have HC := Lib.hid (spec_pow v u 2 1 w h hs)
  go_enter Tryz.func9, Tryz.ntmps9
  go_wp2_with fail
  refine HC.out.mono ?_
  rintro e W1 ⟨rfl, b1⟩
  have HB := Lib.hid b1
  clear b1
  go_wp2
  go_ret
  exact ⟨rfl, HB.out⟩
set_option maxHeartbeats 2000000 in
theorem spec_gcd (x y : Nat) (w : World) (hx : x ≤ 9223372036854775807) (hy : y ≤ 9223372036854775807) :
    Calls Tryz.prog 36 #[.int .i64 x, .int .i64 y] w fun e w' => e = .returned (.int .i64 (Nat.gcd x y)) ∧ w = w' := by
  go_enter Tryz.func36, Tryz.ntmps36
  go_wp2
  go_loop [0, 1] (fun a' b' => ∃ a b : Nat, a ≤ 9223372036854775807 ∧ b ≤ 9223372036854775807 ∧ a' = .int .i64 a ∧ b' = .int .i64 b ∧ Hid (Nat.gcd a b = Nat.gcd x y)) (fun _ b' => (intOf b').toNat)
  case atStart => exact ⟨x, y, hx, hy, rfl, rfl, rfl⟩
  case round =>
    obtain ⟨a, b, ha, hb, rfl, rfl, HG⟩ := hrel
    by_cases h0 : 0 < b
    · have hb0 : ((b : Int) == 0) = false := by simp; omega
      have hm : a % b < b := Nat.mod_lt _ h0
      obtain ⟨r, hr⟩ : ∃ r, r = a % b := ⟨_, rfl⟩
      have e1 : (a : Int) % (b : Int) = (r : Int) := by rw [hr]; rfl
      have e2 : (a : Int).tmod (b : Int) = (r : Int) := by rw [hr]; rfl
      have HG2 : Hid (Nat.gcd b r = Nat.gcd x y) := by show _ = _; rw [hr, gcd_step]; exact HG.out
      rw [← hr] at hm
      clear hr
      go_wp2
      go_round
      case rel => exact ⟨b, r, by omega, by omega, rfl, rfl, HG2⟩
      case measure => simp [intOf]; omega
    · obtain rfl : b = 0 := by omega
      have HE : Hid (a = Nat.gcd x y) := by have := HG.out; rwa [Nat.gcd_zero_right] at this
      go_wp2
      go_ret
      exact ⟨ret_i (by rw [← HE.out]), rfl⟩
end Fac
end Go.Proofs.YtidfgfgokcflfaaGreat
/- Contracts of the model's BordersOf, PeriodsOf, LeastPeriod, IsPrimitive and RootOf. No conditions beyond those that each states. -/
namespace Go.Proofs.YtidfgfgokcflfaaGreat
open Go.ChangeShapes Go.WideShapes Go.ChangeAt Go.RowKit
open Go.PlainAid Plain
set_option linter.unusedVariables false
namespace Fac
theorem brs_more {u xs : List Int} {k m : Nat} (h : brs u k ++ xs = brV u) (hk : 0 < k) (hm : bd u k = m) : brs u m ++ ([(m : Int)] ++ xs) = brV u := by
  rw [brs_pos u hk, hm, Int.toNat_natCast, List.append_assoc] at h
  exact h
theorem brs_left {u xs : List Int} {k : Nat} (h : brs u k ++ xs = brV u) : xs.length ≤ u.length := by
  have h1 := congrArg List.length h
  rw [List.length_append] at h1
  have := brV_len u
  omega
set_option maxHeartbeats 2000000 in
theorem spec_bor (v : Value) (u : List Int) (w : World) (h : Lies (Value.int .i64) w v u) (hs : u.length ≤ 4194304) :
    Calls Tryz.prog 69 #[v] w (Gives (Value.int .i64) 3 (brV u) w) := by
  obtain ⟨i0, hi, hz0, hz1, hz2⟩ := info_parts Ints.infoI
  obtain ⟨pa, pc, rfl⟩ := lies_shape h
  have HU := Lib.hid h
  have HB : Hid (Below w.heap.size w (w.alloc (Obj.cells #[] 3))) := (Below.refl _ _).alloc (Nat.le_refl _) _
  have HO : Hid (Has (Value.int .i64) 3 (w.alloc (Obj.cells #[] 3)) w.heap.size (.slice (some ⟨w.heap.size, 0, none⟩) 0 0) []) := has_lit0 rfl (Nat.le_refl _)
  clear h
  go_enter Tryz.func69, Tryz.ntmps69
  go_wp2_with fail
  refine (spec_l9 _ u _ (HU.out.below HB.out) hs).mono ?_
  rintro e W1 ⟨vb, rfl, hv, b1⟩
  obtain ⟨ba, bc, hvb, _⟩ := hv.form
  rw [blT_len] at hvb
  subst hvb
  have HV := Lib.hid hv.lies
  have HO1 := Lib.hid (HO.out.below b1)
  have HB1 := Lib.hid (HB.out.trans (b1.mono HB.out.size))
  clear hv b1 HO HB
  go_wp2
  go_loopw [3, 5] (fun o' k' wr => ∃ (k : Nat) (vo : Value) (xs : List Int), k ≤ u.length ∧ k' = .int .i64 k ∧ vo = o' ∧ Hid (brs u k ++ xs = brV u) ∧ Hid (Has (Value.int .i64) 3 wr w.heap.size vo xs) ∧ Hid (Below W1.heap.size W1 wr)) (fun _ k' _ => (intOf k').toNat)
  case atStart => exact ⟨u.length, _, [], Nat.le_refl _, rfl, rfl, List.append_nil _, HO1, Below.refl _ _⟩
  case round =>
    obtain ⟨k, vo, xs, hk, rfl, rfl, HX, HOr, HBr⟩ := hrel
    obtain ⟨oa, oc, rfl, _⟩ := HOr.out.form
    by_cases h0 : 0 < k
    · obtain ⟨j, rfl⟩ : ∃ j, k = j + 1 := ⟨k - 1, by omega⟩
      obtain ⟨m, hm⟩ : ∃ m : Nat, bd u (j + 1) = m := ⟨(bd u (j + 1)).toNat, by have := bd_pos u h0; omega⟩
      have hmk : m < j + 1 := by have := bd_ge u (j + 1); omega
      have HX2 := Lib.hid (brs_more HX.out h0 hm)
      have HL := Lib.hid (brs_left HX.out)
      have hat := blT_at u (i := u.length) (j := j) (by omega)
      rw [hm] at hat
      obtain ⟨q, r, hba, hc⟩ := lies_cell (HV.out.below HBr.out) hat
      have HBA := Lib.hid hba
      subst hba
      have e1 : ((j + 1 : Nat) : Int) - 1 = (j : Int) := by omega
      have hjl : j < u.length := by omega
      have hlit := Lib.hid (Has.lit (enc := (Value.int .i64)) (e := 3) wr [(m : Int)] HBr.out.size (by simp))
      have hl := Lib.hid (HOr.out.lies.below ((Below.refl wr.heap.size wr).alloc (Nat.le_refl _) (.cells #[.int .i64 (m : Int)] 3)))
      clear hm hat
      go_wp2_with (at_builtin; refine append_lies (enc := (Value.int .i64)) (e := 3) _ rfl _ _ 24 rfl W1.heap.size i0 (.int .i64 0) 8 Tryz.underlying24 hi hz0 hz1 hz2 rfl _ [(m : Int)] rfl hlit.out (.slice oa xs.length oc) xs rfl hl.out (fun _ => rfl) (by have := HL.out; simp; omega) (by have := HL.out; simp; omega) (by have := HBr.out.size; simp; omega) ?_; intro v' w' hown' hgrow')
      have hb' : Hid (Below W1.heap.size W1 w') := hlit.out.frame (HBr.out.alloc HBr.out.size _) (Nat.le_refl _) hgrow'
      have HO' := Lib.hid (hown'.mono HB1.out.size)
      clear hown' hgrow' hlit hl
      go_wp2
      go_roundw
      case rel => exact ⟨m, _, _, by omega, rfl, rfl, HX2, HO', hb'⟩
      case measure => simp [intOf]; omega
    · obtain rfl : k = 0 := by omega
      have HE : Hid (Has (Value.int .i64) 3 wr w.heap.size (.slice oa xs.length oc) (brV u)) := by
        have h := HOr.out
        rw [← HX.out, brs_zero]
        exact h
      go_wp2
      go_ret
      exact ⟨_, rfl, HE.out, HB1.out.trans (HBr.out.mono HB1.out.size)⟩
def prT (u : List Int) (k : Nat) : List Int := ((brV u).drop k).reverse.map fun b => (u.length : Int) - b
theorem prT_end (u : List Int) : prT u (brV u).length = [] := by simp [prT]
theorem prT_zero (u : List Int) : prT u 0 = prV u := rfl
theorem prT_succ {u : List Int} {k : Nat} {x : Int} (h : (brV u)[k]? = some x) : prT u k = prT u (k + 1) ++ [(u.length : Int) - x] := by
  obtain ⟨h1, rfl⟩ := List.getElem?_eq_some_iff.1 h
  unfold prT
  rw [List.drop_eq_getElem_cons h1, List.reverse_cons, List.map_append]
  rfl
theorem prT_len (u : List Int) (k : Nat) : (prT u k).length ≤ u.length := by
  have := brV_len u
  simp [prT]
  omega
/-- 'v = append(v, x)', x an int; where the slice lies then. -/
theorem append_blk {P : Program} (wr : World) {ops : Array Oper} {rest : List Oper} {o : Oper} {a : Act} {Q : Exit → Act → World → Prop} (hgd : o.guard = none) (s x : Operand) (t : TypeId)
    (ho : o.op = .call { callee := .builtin .append, args := #[s, x], argTypes := #[t, t] })
    (base : Nat) (i : TypeInfo) (ht : P.underlying t = some (.slice 3)) (hi : P.info? 3 = some i) (hz : i.zero = some (.int .i64 0))
    (hsize : i.size = 1) (hby : i.bytes = 8)
    (v : Value) (xs : List Int) (hs : a.eval s = v) (hown : Has (Value.int .i64) 3 wr base v xs) (y : Int) (hx : a.eval x = .slice (some ⟨wr.heap.size, 0, none⟩) 1 1)
    (hlen : xs.length ≤ 100000000) (hb2 : base ≤ wr.heap.size)
    (h : ∀ v' w', Has (Value.int .i64) 3 w' base v' (xs ++ [y]) → wr.grownBy w' v.ownBlock → (∀ k, v'.ownBlock = some k → v.ownBlock = some k ∨ wr.heap.size ≤ k) → wpList P ops Q rest (a.put o.dst v') w') :
    wpList P ops Q (o :: rest) a (wr.alloc (.cells #[.int .i64 y] 3)) := by
  refine wpList_append_list (enc := (Value.int .i64)) (e := 3) hgd s x t ho base i (.int .i64 0) 8 ht hi hz hsize hby rfl v xs hs (has_alloc hown _) (.slice (some ⟨wr.heap.size, 0, none⟩) 1 1) [y] hx (lies_lit1 (enc := (Value.int .i64)) y rfl) (fun _ _ => rfl) (by simp; omega) (by simp; omega) (by simp; omega) ?_
  intro v' w' hv' hg hbk
  exact h v' w' hv' (grown_alloc hg) (fun k hk => (hbk k hk).imp id fun h => by simp at h; omega)
/-- A slice ahead of another one's making, or made behind it, shares no block with it. -/
def Beside (lo hi : Nat) (v : Value) : Prop := ∀ k, v.ownBlock = some k → k < lo ∨ hi ≤ k
theorem Beside.step {lo hi : Nat} {v v' : Value} {W : World} (h : Beside lo hi v) (hk : ∀ k, v'.ownBlock = some k → v.ownBlock = some k ∨ W.heap.size ≤ k) (hW : hi ≤ W.heap.size) : Beside lo hi v' := fun k h1 =>
  (hk k h1).elim (fun h2 => h k h2) fun h2 => .inr (by omega)
theorem Has.keep {e : TypeId} {α : Type} {enc : α → Value} {w w' : World} {lo hi : Nat} {v vo : Value} {xs : List α} (h : Has enc e w lo v xs) (hh : ∀ k, v.ownBlock = some k → k < hi) (hb : Beside lo hi vo) (hg : w.grownBy w' vo.ownBlock) : Has enc e w' lo v xs := by
  refine h.grown hg ?_
  cases hk : v.ownBlock with
  | none => exact .inl rfl
  | some k =>
    refine .inr fun e => ?_
    have h1 := (h.lt k hk).1
    have h2 := hh k hk
    have h3 := hb k e.symm
    omega
set_option maxHeartbeats 2000000 in
theorem spec_per (v : Value) (u : List Int) (w : World) (h : Lies (Value.int .i64) w v u) (hs : u.length ≤ 4194304) :
    Calls Tryz.prog 56 #[v] w (Gives (Value.int .i64) 3 (prV u) w) := by
  obtain ⟨i0, hi, hz0, hz1, hz2⟩ := info_parts Ints.infoI
  obtain ⟨pa, pc, rfl⟩ := lies_shape h
  have HU := Lib.hid h
  have HB : Hid (Below w.heap.size w (w.alloc (Obj.cells #[] 3))) := (Below.refl _ _).alloc (Nat.le_refl _) _
  have HO : Hid (Has (Value.int .i64) 3 (w.alloc (Obj.cells #[] 3)) w.heap.size (.slice (some ⟨w.heap.size, 0, none⟩) 0 0) []) := has_lit0 rfl (Nat.le_refl _)
  clear h
  go_enter Tryz.func56, Tryz.ntmps56
  go_wp2_with fail
  refine (spec_bor _ u _ (HU.out.below HB.out) hs).mono ?_
  rintro e W1 ⟨vb, rfl, hv, b1⟩
  obtain ⟨ba, bc, rfl, _⟩ := hv.form
  have HV := Lib.hid hv
  have HVL : Hid (∀ k, Value.ownBlock (.slice ba (brV u).length bc) = some k → k < W1.heap.size) := fun k hk => (hv.lt k hk).2
  have HS1 := Lib.hid b1.size
  have HO1 := Lib.hid (HO.out.below b1)
  have HB1 := Lib.hid (HB.out.trans (b1.mono HB.out.size))
  have HBL := Lib.hid (brV_len u)
  have HBG : Hid (∀ x, x ∈ brV u → 0 ≤ x ∧ x < u.length) := fun x hx => brs_range u _ x hx
  have HS : Hid (∀ (k : Nat) (x : Int), (brV u)[k]? = some x → prT u k = prT u (k + 1) ++ [(u.length : Int) - x]) := fun k x hx => prT_succ hx
  have HZ := Lib.hid (prT_end u)
  have HBS : Hid (Beside (w.heap.size + 1) W1.heap.size (.slice (some ⟨w.heap.size, 0, none⟩) 0 0)) := fun k hk => .inl (by simp [Value.ownBlock] at hk; omega)
  obtain ⟨L, hL⟩ : ∃ L, L = brV u := ⟨_, rfl⟩
  rw [← hL] at HV HVL HBL HBG HS HZ ⊢
  rw [size_alloc'] at HV
  have hlv : L.length ≤ 4194304 := by have := HBL.out; omega
  clear hv b1 HO HB hL
  go_wp2
  go_loopw [3, 5] (fun o' k' wr => ∃ (k : Nat) (vo : Value), k ≤ L.length ∧ k' = .int .i64 ((k : Int) - 1) ∧ vo = o' ∧ Hid (Has (Value.int .i64) 3 wr w.heap.size vo (prT u k)) ∧ Hid (Has (Value.int .i64) 3 wr (w.heap.size + 1) (.slice ba L.length bc) L) ∧ Hid (Beside (w.heap.size + 1) W1.heap.size vo) ∧ Hid (Below w.heap.size w wr) ∧ Hid (W1.heap.size ≤ wr.heap.size)) (fun _ k' _ => (intOf k' + 1).toNat)
  case atStart => exact ⟨L.length, _, Nat.le_refl _, by go_num, rfl, by show Has _ _ _ _ _ _; rw [HZ.out]; exact HO1.out, HV, HBS, HB1, Nat.le_refl _⟩
  case round =>
    obtain ⟨k, vo, hk, rfl, rfl, HOr, HVr, HBSr, HBr, HSr⟩ := hrel
    obtain ⟨oa, oc, rfl, _⟩ := HOr.out.form
    by_cases h0 : 0 < k
    · obtain ⟨j, rfl⟩ : ∃ j, k = j + 1 := ⟨k - 1, by omega⟩
      have hj : j < L.length := by omega
      obtain ⟨x, hx⟩ : ∃ x, L[j]? = some x := ⟨_, List.getElem?_eq_getElem hj⟩
      obtain ⟨q, r, hba, hc⟩ := lies_cell HVr.out.lies hx
      have HBA := Lib.hid hba
      subst hba
      have hxr := HBG.out x (List.mem_of_getElem? hx)
      have HE := Lib.hid (HS.out j x hx)
      have HL := Lib.hid (prT_len u (j + 1))
      clear hx
      go_wp2_with (at_builtin; go_loud (refine append_blk wr rfl _ _ 24 rfl w.heap.size i0 Tryz.underlying24 hi hz0 hz1 hz2 (.slice oa (prT u (j + 1)).length oc) (prT u (j + 1)) rfl HOr.out ((u.length : Int) - x) rfl (by have := HL.out; omega) HBr.out.size ?_; intro v' w' hown' hgrow' hblk'))
      have HO' := Lib.hid hown'
      have HB' := Lib.hid (HOr.out.frame HBr.out (Nat.le_refl _) hgrow')
      have HV' := Lib.hid (Has.keep HVr.out HVL.out HBSr.out hgrow')
      have HBS' := Lib.hid (HBSr.out.step hblk' HSr.out)
      have HS' := Lib.hid (Nat.le_trans HSr.out hgrow'.size)
      clear hown' hgrow' hblk'
      go_roundw
      case rel => exact ⟨j, _, by omega, by go_num, rfl, by show Has _ _ _ _ _ _; rw [HE.out]; exact HO'.out, HV', HBS', HB', HS'⟩
      case measure => simp [intOf] <;> omega
    · obtain rfl : k = 0 := by omega
      go_wp2
      go_ret
      exact ⟨_, rfl, HOr.out, HBr.out⟩
set_option maxHeartbeats 2000000 in
theorem spec_lp (v : Value) (u : List Int) (w : World) (h : Lies (Value.int .i64) w v u) (hs : u.length ≤ 4194304) :
    Calls Tryz.prog 38 #[v] w fun e w' => e = .returned (.int .i64 (lpV u)) ∧ Below w.heap.size w w' := by
  have HC := Lib.hid (spec_per v u w h hs)
  have HPL := Lib.hid (prV_len u)
  by_cases h0 : 0 < u.length
  · have hp := prV_pos h0
    have HF := Lib.hid (prV_first h0)
    obtain ⟨L, hL⟩ : ∃ L, L = prV u := ⟨_, rfl⟩
    obtain ⟨y, hy⟩ : ∃ y, y = lpV u := ⟨_, rfl⟩
    rw [← hL] at HC HPL hp HF
    rw [← hy] at HF ⊢
    have hlv : L.length ≤ 4194304 := by have := HPL.out; omega
    clear hL hy h
    have hd := decide_eq_false (show ¬ L.length = 0 by omega)
    go_enter Tryz.func38, Tryz.ntmps38
    go_wp2_with fail
    refine HC.out.mono ?_
    rintro e W1 ⟨vb, rfl, hv, b1⟩
    obtain ⟨ba, bc, rfl, _⟩ := hv.form
    obtain ⟨q, r, hba, hc⟩ := lies_cell hv.lies HF.out
    rw [Nat.add_zero] at hc
    subst hba
    have hd0 : ((L.length : Int) == 0) = false := by simp; exact fun e => by rw [e] at hp; simp at hp
    have HB := Lib.hid b1
    clear hv b1
    go_wp2
    go_ret
    exact ⟨rfl, HB.out⟩
  · have HN := Lib.hid (prV_nil (u := u) (by omega))
    have HV := Lib.hid (lpV_nil (u := u) (by omega))
    rw [HN.out] at HC
    rw [HV.out]
    clear h
    go_enter Tryz.func38, Tryz.ntmps38
    go_wp2_with fail
    refine HC.out.mono ?_
    rintro e W1 ⟨vb, rfl, hv, b1⟩
    obtain ⟨ba, bc, rfl, _⟩ := hv.form
    have HB := Lib.hid b1
    clear hv b1
    go_wp2
    go_ret
    exact ⟨rfl, HB.out⟩
theorem tmod_nat (n p : Nat) : (n : Int).tmod (p : Int) = ((n % p : Nat) : Int) := rfl
theorem LiesC.to {w : World} {a : Option Addr} {c : Nat} {xs : List Int} {h : Nat} {H : Int} (hl : LiesC w (.slice a xs.length c) xs) (h2 : h ≤ xs.length) (hH : H = h) :
    ∃ a' c', (∀ W : World, (Instr.slice 24 (.slice a xs.length c) none (some (.int .i64 H)) none).run Tryz.prog W = .ok (.slice a' h c') W) ∧ LiesC w (.slice a' h c') (xs.take h) := by
  have hcut := hl.cut (Nat.zero_le h) h2
  have hcap := hl.2 _ _ _ rfl
  rw [Nat.sub_zero, List.drop_zero] at hcut
  subst hH
  refine ⟨_, _, fun W => ?_, hcut⟩
  have := run_slice_h (P := Tryz.prog) (w := W) (t := 24) (a := a) (len := xs.length) (cap := c) (by rw [elem_tr]; exact Tryz.underlying24) .i64 (h : Int) (by omega) (by omega)
  rw [this, elem_tr]
  simp [go_sem, Result.andThen]
end Fac
end Go.Proofs.YtidfgfgokcflfaaGreat
/- Contracts of the program's search for a part, OccurrencesOf and IsFactor. No conditions beyond those that each states. -/
namespace Go.Proofs.YtidfgfgokcflfaaGreat
open Go.ChangeShapes Go.WideShapes Go.ChangeAt Go.RowKit
open Go.PlainAid Plain
set_option linter.unusedVariables false
namespace Fac
open Seqs
theorem has_set {α : Type} {enc : α → Value} {e : TypeId} {w : World} {base b o : Nat} {v : Value} {xs : List α} (h : Has enc e w base v xs) (hn : v.ownBlock ≠ some b) (x : Value) : Has enc e (w.setCell ⟨b, o, none⟩ x) base v xs :=
  h.of_same fun k hk => by
    have : b ≠ k := fun e => hn (by rw [hk, e])
    simp [World.setCell, Array.getElem?_modify, this]
/-- The borders of the first letters. -/
def bdT (u : List Int) (i : Nat) : List Int := (List.range (i + 1)).map (bd u)
theorem bdT_at (u : List Int) {i j : Nat} (h : j ≤ i) : (bdT u i)[j]? = some (bd u j) := by simp [bdT, show j < i + 1 from by omega]
theorem bdT_len (u : List Int) (i : Nat) : (bdT u i).length = i + 1 := by simp [bdT]
theorem bdT_succ (u : List Int) (i : Nat) : bdT u (i + 1) = bdT u i ++ [bd u (i + 1)] := by simp [bdT, List.range_succ (n := i + 1)]
theorem lies_some {w : World} {a : Option Addr} {n c : Nat} {xs : List Int} {i : Nat} {x : Int} (h : Lies (Value.int .i64) w (.slice a n c) xs) (hx : xs[i]? = some x) : ∃ b off, a = some ⟨b, off, none⟩ ∧ w.cell? ⟨b, off + i, none⟩ = some (.int .i64 x) := by
  obtain ⟨_, a', c', hv, _, hc⟩ := h
  injection hv with e1 e2 e3
  subst e1
  exact hc i x hx
theorem lies_form {w : World} {v : Value} {xs : List Int} (h : Lies (Value.int .i64) w v xs) : ∃ a c, v = .slice a xs.length c := by
  obtain ⟨_, a, c, rfl, _⟩ := h
  exact ⟨a, c, rfl⟩
set_option maxRecDepth 100000 in
set_option maxHeartbeats 2000000 in
theorem fit (vp vb : Value) (u : List Int) (n : Nat) (k c : Int) (w : World) (h1 : Lies (Value.int .i64) w vp u) (h2 : Lies (Value.int .i64) w vb (bdT u n)) (hk0 : -1 ≤ k) (hk1 : k < u.length) (hk2 : k ≤ n) :
    Calls Tryz.prog 100 #[.agg #[vp, vb], .int .i64 k, .int .i64 c] w fun e w' => e = .returned (.int .i64 (fa u k c)) ∧ Below w.heap.size w w' := by
  obtain ⟨pa, pc, rfl⟩ := lies_form h1
  obtain ⟨ba, bc, rfl⟩ := lies_form h2
  have hul := h1.1
  have HB : Hid (Below w.heap.size w (w.alloc (Obj.cells #[.slice pa u.length pc, .slice ba (bdT u n).length bc] 114))) := (Below.refl _ _).alloc (Nat.le_refl _) _
  have HP := Lib.hid (h1.below HB.out)
  have HD := Lib.hid (h2.below HB.out)
  have HC := Lib.hid (CellsN.new w 114 [.slice pa u.length pc, .slice ba (bdT u n).length bc])
  have HL := Lib.hid (bdT_len u n)
  clear h1 h2
  go_enter Tryz.func100, Tryz.ntmps100
  go_wp2_with fail
  obtain ⟨W, hW⟩ : ∃ W, W = w.alloc (Obj.cells #[.slice pa u.length pc, .slice ba (bdT u n).length bc] 114) := ⟨_, rfl⟩
  have e0 : [Value.slice pa u.length pc, Value.slice ba (bdT u n).length bc].toArray = #[Value.slice pa u.length pc, Value.slice ba (bdT u n).length bc] := rfl
  rw [e0] at HC
  rw [← hW] at HB HP HD HC ⊢
  have k0 := HC.out.at_ (i := 0) rfl
  have k1 := HC.out.at_ (i := 1) rfl
  clear hW e0
  go_loop [1] (fun f' => ∃ f : Int, f' = .int .i64 f ∧ -1 ≤ f ∧ f ≤ k ∧ Hid (fa u f c = fa u k c)) (fun f' => (intOf f' + 1).toNat)
  case atStart => exact ⟨k, rfl, hk0, by omega, rfl⟩
  case round =>
    obtain ⟨f, rfl, hf0, hfk, HF⟩ := hrel
    by_cases hf : f < 0
    · obtain rfl : f = -1 := by omega
      have HV : Hid (0 = fa u k c) := HF.out
      go_wp2
      go_ret
      exact ⟨ret_i HV.out, HB.out⟩
    · obtain ⟨m, hm⟩ : ∃ m : Nat, f = m := ⟨f.toNat, by omega⟩
      subst hm
      have hmu : m < u.length := by omega
      obtain ⟨x, hx⟩ : ∃ x, u[m]? = some x := ⟨_, List.getElem?_eq_getElem hmu⟩
      obtain ⟨p, o, hpa, hc1⟩ := lies_some HP.out hx
      obtain ⟨q, r, hba, hc2⟩ := lies_some HD.out (bdT_at u (i := n) (j := m) (by omega))
      subst hpa; subst hba
      have HX := Lib.hid hx
      clear hx
      have hbl : m < (bdT u n).length := by have := HL.out; omega
      by_cases hxc : x = c
      · subst hxc
        have HV : Hid ((m : Int) + 1 = fa u k x) := by rw [← HF.out, fa_hit HX.out]; rfl
        go_wp2
        go_ret
        exact ⟨ret_i HV.out, HB.out⟩
      · have HN : Hid (fa u (bd u m) c = fa u k c) := by
          rw [← HF.out]
          exact (fa_miss (fun h => hxc (Option.some.inj (HX.out.symm.trans h)))).symm
        have hbg := bd_ge u m
        have hd : (x != c) = true := by simpa using hxc
        clear hxc
        obtain ⟨g, hg⟩ : ∃ g, g = bd u m := ⟨_, rfl⟩
        rw [← hg] at hc2 HN hbg
        clear hg
        go_wp2
        go_round
        case rel => exact ⟨g, rfl, by omega, by omega, HN⟩
        case measure => simp [intOf]; omega
/-- What newFinder hands back: the part itself and its borders in a slice of the call's own. -/
def GivesF (vp : Value) (u : List Int) (w : World) (e : Ending) (w' : World) : Prop := ∃ vb, e = .returned (.agg #[vp, vb]) ∧ Has (Value.int .i64) 3 w' w.heap.size vb (bdT u u.length) ∧ Below w.heap.size w w'
set_option maxRecDepth 100000 in
set_option maxHeartbeats 2000000 in
theorem finder (v : Value) (u : List Int) (w : World) (h : Lies (Value.int .i64) w v u) (hs : u.length ≤ 4194304) :
    Calls Tryz.prog 87 #[v] w (GivesF v u w) := by
  obtain ⟨i0, hi, hz0, hz1, hz2⟩ := info_parts Ints.infoI
  obtain ⟨pa, pc, rfl⟩ := lies_form h
  have HU := Lib.hid h
  clear h
  have hb1 : Below w.heap.size w (((w.alloc (Obj.cells #[Value.slice none 0 0, Value.slice none 0 0] 114)).alloc (Obj.cells #[Value.int .i64 (-1)] 3)).alloc (Obj.cells #[Value.slice pa u.length pc, Value.slice (some ⟨w.heap.size + 1, 0, none⟩) 1 1] 114)) :=
    (((Below.refl _ _).alloc (Nat.le_refl _) _).alloc (by simp) _).alloc (by simp; omega) _
  have ho1 : Has (Value.int .i64) 3 (((w.alloc (Obj.cells #[Value.slice none 0 0, Value.slice none 0 0] 114)).alloc (Obj.cells #[Value.int .i64 (-1)] 3)).alloc (Obj.cells #[Value.slice pa u.length pc, Value.slice (some ⟨w.heap.size + 1, 0, none⟩) 1 1] 114)) w.heap.size (.slice (some ⟨w.heap.size + 1, 0, none⟩) 1 1) [-1] :=
    (has_lit1 (enc := (Value.int .i64)) (e := 3) (-1) (by simp) (Nat.le_succ _)).below ((Below.refl _ _).alloc (Nat.le_refl _) _)
  have hz1' := ((CellsN.new w 114 [Value.slice none 0 0, Value.slice none 0 0]).alloc (Obj.cells #[Value.int .i64 (-1)] 3)).alloc (Obj.cells #[Value.slice pa u.length pc, Value.slice (some ⟨w.heap.size + 1, 0, none⟩) 1 1] 114)
  have hf1 := CellsN.new ((w.alloc (Obj.cells #[Value.slice none 0 0, Value.slice none 0 0] 114)).alloc (Obj.cells #[Value.int .i64 (-1)] 3)) 114 [Value.slice pa u.length pc, Value.slice (some ⟨w.heap.size + 1, 0, none⟩) 1 1]
  rw [size_alloc', size_alloc'] at hf1
  have HB := Lib.hid hb1
  have HO := Lib.hid ho1
  have HZ := Lib.hid hz1'
  have HF := Lib.hid hf1
  clear hb1 ho1 hz1' hf1
  go_enter Tryz.func87, Tryz.ntmps87
  go_wp2
  go_loopw [4, 12] (fun f' i' wr => ∃ (i : Nat) (ba : Option Addr) (bc : Nat), i ≤ u.length ∧ f' = .int .i64 (bd u i) ∧ i' = .int .i64 i ∧ Hid (Has (Value.int .i64) 3 wr w.heap.size (.slice ba (i + 1) bc) (bdT u i)) ∧ Hid (CellsN wr (w.heap.size + 1 + 1) 114 [.slice pa u.length pc, .slice ba (i + 1) bc]) ∧ Hid (CellsN wr w.heap.size 114 [.slice none 0 0, .slice none 0 0]) ∧ Hid (Below w.heap.size w wr)) (fun _ i' _ => u.length - (intOf i').toNat)
  case atStart => exact ⟨0, _, _, Nat.zero_le _, rfl, rfl, HO, HF, HZ, HB⟩
  case round =>
    obtain ⟨i, ba, bc, hi', rfl, rfl, HOr, HFr, HZr, HBr⟩ := hrel
    by_cases hlt : i < u.length
    · obtain ⟨x, hx⟩ : ∃ x, u[i]? = some x := ⟨_, List.getElem?_eq_getElem hlt⟩
      obtain ⟨p, o, hpa, hc1⟩ := lies_some (HU.out.below HBr.out) hx
      subst hpa
      have hbg := bd_ge u i
      have hfit := fit _ _ u i (bd u i) x _ (HU.out.below HBr.out) HOr.out.lies hbg.1 (by omega) (by omega)
      rw [← bd_succ hx] at hfit
      have HFT := Lib.hid hfit
      clear hx hfit
      have k0 := HFr.out.at_ (i := 0) rfl
      have k1 := HFr.out.at_ (i := 1) rfl
      go_wp2_with fail
      refine HFT.out.mono ?_
      rintro e W1 ⟨rfl, b1⟩
      have HO1 := Lib.hid (HOr.out.below b1)
      have HF1 := Lib.hid (HFr.out.below b1)
      have HZ1 := Lib.hid (HZr.out.below b1)
      have HB1 := Lib.hid (HBr.out.trans (b1.mono HBr.out.size))
      have HL := Lib.hid (bdT_len u i)
      have HS := Lib.hid (bdT_succ u i)
      obtain ⟨g, hg⟩ : ∃ g, g = bd u (i + 1) := ⟨_, rfl⟩
      rw [← hg] at HS ⊢
      have HG := Lib.hid hg
      clear b1 HOr HFr HZr HBr HFT k0 k1 hbg hc1 hg
      have k1 := HF1.out.at_ (i := 1) rfl
      go_wp2_with (refine append_one (enc := (Value.int .i64)) (e := 3) W1 rfl _ _ 24 rfl w.heap.size i0 (.int .i64 0) 8 Tryz.underlying24 hi hz0 hz1 hz2 rfl (.slice ba (i + 1) bc) (bdT u i) rfl HO1.out g rfl (fun _ => rfl) (by have := HL.out; omega) (by have := HL.out; omega) HB1.out.size ?_; intro v' w1 ho hg; have hne := HF1.out.ne_has HO1.out (by decide); have HF2 := Lib.hid (HF1.out.grown hg hne); have HZ2 := Lib.hid (HZ1.out.grown hg (HZ1.out.ne_has HO1.out (by decide))); have HO2 := Lib.hid ho; have HB2 := Lib.hid (HO1.out.frame HB1.out (Nat.le_refl _) hg); obtain ⟨a', c', hv, _⟩ := ho.form; rw [show (bdT u i ++ [g]).length = i + 1 + 1 from by rw [List.length_append, HL.out]; rfl] at hv; subst hv; have m1 := HF2.out.at_ (i := 1) rfl; have m3 := HF2.out.f 1; clear hg ho hne)
      have HF3 := Lib.hid (HF2.out.set 1 (.slice a' (i + 1 + 1) c'))
      have HZ3 := Lib.hid (HZ2.out.other (a := ⟨w.heap.size + 1 + 1, 1, none⟩) (by simp; omega) (.slice a' (i + 1 + 1) c'))
      have HO3 := Lib.hid (has_set (b := w.heap.size + 1 + 1) (o := 1) HO2.out (HF2.out.ne_has HO2.out (by decide)) (.slice a' (i + 1 + 1) c'))
      have HB3 : Hid (Below w.heap.size w (w1.setCell ⟨w.heap.size + 1 + 1, 1, none⟩ (.slice a' (i + 1 + 1) c'))) := HB2.out.setCell (by show w.heap.size ≤ w.heap.size + 1 + 1; omega) _
      clear m1 m3 k1
      go_roundw
      case rel => exact ⟨i + 1, _, _, by omega, by rw [← HG.out], by go_num, by show Has _ _ _ _ _ _; rw [HS.out]; exact HO3.out, HF3, HZ3, HB3⟩
      case measure => simp [intOf]; omega
    · obtain rfl : i = u.length := by omega
      have k0 := HFr.out.at_ (i := 0) rfl
      have k1 := HFr.out.at_ (i := 1) rfl
      have z0 := HZr.out.at_ (i := 0) rfl
      have z1 := HZr.out.at_ (i := 1) rfl
      have z2 := HZr.out.f
      go_wp2
      have m0 := ((HZr.out.set 0 (.slice pa u.length pc)).set 1 (.slice ba (u.length + 1) bc)).at_ (i := 0) rfl
      have m1 := ((HZr.out.set 0 (.slice pa u.length pc)).set 1 (.slice ba (u.length + 1) bc)).at_ (i := 1) rfl
      have hne := HZr.out.ne_has HOr.out (by decide)
      refine bodyPost_ret (v := .agg #[.slice pa u.length pc, .slice ba (u.length + 1) bc]) (by simp [results, Tryz.results87, go_sem, m0, m1]) rfl ⟨_, rfl, has_set (has_set HOr.out hne _) hne _, ?_⟩
      exact (HBr.out.setCell (Nat.le_refl w.heap.size) _).setCell (Nat.le_refl w.heap.size) _
end Fac
end Go.Proofs.YtidfgfgokcflfaaGreat
/- Contracts of the program's OccurrencesOf and IsFactor. No conditions beyond those that each states. -/
namespace Go.Proofs.YtidfgfgokcflfaaGreat
open Go.ChangeShapes Go.WideShapes Go.ChangeAt Go.RowKit
open Go.PlainAid Plain
set_option linter.unusedVariables false
namespace Fac
open Seqs
/-- The part stands at the end of the first e letters: one more place. -/
theorem mt_case {u t : List Int} : (mt u t (u.length + 1) = u.length ∧ u <:+ t ∧ mt u t u.length = bd u u.length) ∨ (mt u t (u.length + 1) < u.length ∧ ¬ u <:+ t ∧ mt u t u.length = mt u t (u.length + 1)) := by
  have h := mt_range u t
  by_cases hu : u <:+ t
  · exact .inl ⟨(mt_full hu).1, hu, (mt_full hu).2⟩
  · refine .inr ⟨?_, hu, (mt_not hu).symm⟩
    rcases Int.lt_or_eq_of_le h.2 with h1 | h1
    · exact h1
    · exact absurd (mt_is h1) hu
theorem mt_lt (u t : List Int) : -1 ≤ mt u t u.length ∧ mt u t u.length < u.length := gr_ge _ _
theorem mt_step {u w : List Int} {e : Nat} {x : Int} (hx : w[e]? = some x) : fa u (mt u (w.take e) u.length) x = mt u (w.take (e + 1)) (u.length + 1) := by
  obtain ⟨h1, h2⟩ := List.getElem?_eq_some_iff.1 hx
  rw [List.take_succ_eq_append_getElem h1, h2, mt_snoc]
theorem suf_len {u w : List Int} {e : Nat} (h : u <:+ w.take e) : u.length ≤ e := by
  have := h.length_le
  rw [List.length_take] at this
  omega
end Fac
end Go.Proofs.YtidfgfgokcflfaaGreat
/- Contract of the program's BordersOf. No conditions beyond those that it states. -/
namespace Go.Proofs.YtidfgfgokcflfaaGreat
open Go.ChangeShapes Go.WideShapes Go.ChangeAt Go.RowKit
open Go.PlainAid Plain
set_option linter.unusedVariables false
namespace Fac
set_option maxRecDepth 100000 in
theorem finder_field (x y : Value) (W : World) : (Instr.field 114 (.agg #[x, y]) 1).run Tryz.prog W = .ok y W := rfl
/-- The borders of a word and its length: a list that the search goes down. -/
theorem brs_step {u D : List Int} {k m : Nat} (h : brs u k ++ D.reverse = brV u) (hk : bd u k = m) : brs u m ++ (D ++ [(m : Int)]).reverse = brV u := by
  have h0 : 0 < k := by
    rcases Nat.eq_zero_or_pos k with e | e
    · subst e; rw [bd_zero] at hk; omega
    · exact e
  rw [List.reverse_append]
  exact brs_more h h0 hk
theorem brs_done {u D : List Int} {k : Nat} (h : brs u k ++ D.reverse = brV u) (hk : bd u k < 0) : D.reverse = brV u := by
  have h0 : k = 0 := by
    rcases Nat.eq_zero_or_pos k with e | e
    · exact e
    · have := bd_pos u e; omega
  subst h0
  rw [brs_zero] at h
  exact h
theorem brs_rest {u D : List Int} {k : Nat} (h : brs u k ++ D.reverse = brV u) : D.length ≤ u.length := by
  have := brs_left h
  rw [List.length_reverse] at this
  exact this
set_option maxRecDepth 100000 in
set_option maxHeartbeats 2000000 in
theorem impl_bor (v : Value) (u : List Int) (w : World) (h : Lies (Value.int .i64) w v u) (hs : u.length ≤ 4194303) :
    Calls Tryz.prog 68 #[v] w (Gives (Value.int .i64) 3 (brV u) w) := by
  obtain ⟨i0, hi, hz0, hz1, hz2⟩ := info_parts Ints.infoI
  have HF := Lib.hid (finder v u w h (by omega))
  obtain ⟨pa, pc, rfl⟩ := lies_form h
  have HU := Lib.hid h
  clear h
  go_enter Tryz.func68, Tryz.ntmps68
  go_wp2_with fail
  refine HF.out.mono ?_
  rintro e W1 ⟨vb, rfl, hv, b1⟩
  obtain ⟨ba, bc, hvb, _⟩ := hv.form
  rw [bdT_len] at hvb
  subst hvb
  have HV := Lib.hid hv.lies
  have HB1 := Lib.hid b1
  obtain ⟨q, r, hba, hc⟩ := lies_some hv.lies (bdT_at u (i := u.length) (j := u.length) (Nat.le_refl _))
  have HBA := Lib.hid hba
  subst hba
  have HBD := Lib.hid (fun k => bd_ge u k)
  obtain ⟨b0, hb0⟩ : ∃ b0, b0 = bd u u.length := ⟨_, rfl⟩
  rw [← hb0] at hc
  have HB0 := Lib.hid hb0
  clear hv b1 HF hb0
  have hfield := fun W => finder_field (.slice pa u.length pc) (.slice (some ⟨q, r, none⟩) (u.length + 1) bc) W
  go_wp2
  go_loopw [4, 5] (fun o' k' wr => ∃ (k : Nat) (b : Int) (vo : Value) (D : List Int), k ≤ u.length ∧ Hid (bd u k = b) ∧ k' = .int .i64 b ∧ vo = o' ∧ Hid (brs u k ++ D.reverse = brV u) ∧ Hid (Has (Value.int .i64) 3 wr W1.heap.size vo D) ∧ Hid (Below W1.heap.size W1 wr)) (fun _ k' _ => (intOf k' + 1).toNat)
  case atStart => exact ⟨u.length, b0, _, [], Nat.le_refl _, HB0.out.symm, rfl, rfl, List.append_nil _, World.ownsRow_nil _ _ _ _, Below.refl _ _⟩
  case round =>
    obtain ⟨k, b, vo, D, hk, HK, rfl, rfl, HX, HOr, HBr⟩ := hrel
    obtain ⟨oa, oc, rfl, _⟩ := HOr.out.form
    have HL := Lib.hid (brs_rest HX.out)
    by_cases h0 : b < 0
    · have HE := Lib.hid (brs_done HX.out (by rw [HK.out]; exact h0))
      go_wp2_with fail
      refine (Digits.reverse_has _ D _ _ HOr.out).mono ?_
      rintro e W5 ⟨rfl, ho5, hg5⟩
      have HO5 : Hid (Has (Value.int .i64) 3 W5 w.heap.size (.slice oa D.length oc) (brV u)) := by rw [← HE.out]; exact ho5.mono HB1.out.size
      have HB5 := Lib.hid (HB1.out.trans ((HOr.out.frame HBr.out (Nat.le_refl _) hg5).mono HB1.out.size))
      clear ho5 hg5
      go_wp2
      go_ret
      exact ⟨_, rfl, HO5.out, HB5.out⟩
    · obtain ⟨m, hm⟩ : ∃ m : Nat, b = m := ⟨b.toNat, by omega⟩
      subst hm
      have HX2 := Lib.hid (brs_step HX.out HK.out)
      have hmk : m < k := by have := HBD.out k; rw [HK.out] at this; omega
      have hc2 := bdT_at u (i := u.length) (j := m) (by omega)
      obtain ⟨_, _, hba, hc3⟩ := lies_some HV.out hc2
      cases hba
      obtain ⟨b2, hb2⟩ : ∃ b2, b2 = bd u m := ⟨_, rfl⟩
      rw [← hb2] at hc3
      have HB2 := Lib.hid hb2
      have hbm : b2 < m := by have := HBD.out m; rw [← hb2] at this; omega
      clear hc2 hb2
      have HC3 := Lib.hid hc3
      clear hc3 hc
      have hml : m < u.length + 1 := by omega
      go_upto_region 5 with (at_builtin; refine append_one (enc := (Value.int .i64)) (e := 3) wr rfl _ _ 24 rfl W1.heap.size i0 (.int .i64 0) 8 Tryz.underlying24 hi hz0 hz1 hz2 rfl (.slice oa D.length oc) D rfl HOr.out (m : Int) rfl (fun _ => rfl) (by have := HL.out; omega) (by have := HL.out; omega) HBr.out.size ?_; intro v' w4 ho hg; have HO4 := Lib.hid ho; have HB4 := Lib.hid (HOr.out.frame HBr.out (Nat.le_refl _) hg); clear hg ho)
      have hc4 := (HB4.out.cell (p := ⟨q, r + m, none⟩) (World.block_lt_of_cell? _ _ HC3.out)).trans HC3.out
      go_wp2
      go_roundw
      case rel => exact ⟨m, b2, _, _, by omega, HB2.out.symm, rfl, rfl, HX2, HO4, HB4⟩
      case measure => simp [intOf] <;> omega
end Fac
end Go.Proofs.YtidfgfgokcflfaaGreat
/- Contracts of the program's PeriodsOf and LeastPeriod: a range over slices.Backward. No conditions beyond those that each states. -/
namespace Go.Proofs.YtidfgfgokcflfaaGreat
open Go.ChangeShapes Go.WideShapes Go.ChangeAt Go.RowKit Go.Shelf
open Go.PlainAid Plain
attribute [local go_sem] Oper.semAt_some
set_option linter.unusedVariables false
namespace Fac
/-- The blocks from lo up to hi lie as they lay. -/
def Span (lo hi : Nat) (W W' : World) : Prop := W.heap.size ≤ W'.heap.size ∧ ∀ k, lo ≤ k → k < hi → W'.heap[k]? = W.heap[k]?
theorem Span.refl (lo hi : Nat) (W : World) : Span lo hi W W := ⟨Nat.le_refl _, fun _ _ _ => rfl⟩
theorem Span.trans {lo hi : Nat} {A B C : World} (h : Span lo hi A B) (k : Span lo hi B C) : Span lo hi A C := ⟨Nat.le_trans h.1 k.1, fun i h1 h2 => (k.2 i h1 h2).trans (h.2 i h1 h2)⟩
theorem span_b {lo hi : Nat} {w : World} (hn : hi ≤ w.heap.size) (W : World) (l : Nat) (o o' : Obj) (hl : w.heap.size ≤ l) (h : W.heap[l]? = some o) (_ : o.isCells = false) (_ : o.isWalk = false) : Span lo hi W (W.putObj l o') :=
  ⟨(grownBy_putObj' W l o').size, fun k h1 h2 => by
    have hlt := (Array.getElem?_eq_some_iff.1 h).1
    exact (grownBy_putObj' W l o').block k (by omega) (fun e => by cases e; omega)⟩
/-- What comes out of a list from its end on: index and element. -/
def upB (zs : List Int) (k : Nat) : List (Nat × Int) := (List.range k).map fun j => (zs.length - 1 - j, zs[zs.length - 1 - j]?.getD 0)
theorem upB_succ (zs : List Int) {j : Nat} {x : Int} (hx : zs[j]? = some x) : upB zs (zs.length - j) = upB zs (zs.length - (j + 1)) ++ [(j, x)] := by
  have hj : j < zs.length := (List.getElem?_eq_some_iff.1 hx).1
  unfold upB
  rw [show zs.length - j = (zs.length - (j + 1)) + 1 from by omega, List.range_succ, List.map_append, List.map_cons, List.map_nil, show zs.length - 1 - (zs.length - (j + 1)) = j from by omega, hx]
  rfl
theorem upB_len (zs : List Int) (k : Nat) : (upB zs k).length = k := by simp [upB]
theorem upB_all (zs : List Int) : (upB zs zs.length).map (·.2) = zs.reverse := by
  refine List.ext_getElem (by simp [upB]) fun i h1 h2 => ?_
  have hi : i < zs.length := by simpa [upB] using h1
  simp [upB, show zs.length - 1 - i < zs.length from by omega]
set_option maxRecDepth 100000 in
set_option maxHeartbeats 2000000 in
/-- slices.Backward's closure, for every loop body that keeps the slice and the variable that it has captured. -/
theorem back1_in (F : Fence) (n : Nat) (hf : F.fn 86) (hro : F.round = none) (hn : 1 ≤ n) (l Bs lo hi : Nat) (a : Option Addr) (cap : Nat) (zs : List Int) (hz : zs.length ≤ 4194304) (J Jx : List (Nat × Int) → World → Prop)
    (hY : ∀ pre x W, J pre W → pre.length < zs.length → YieldAt F (n - 1) Tryz.prog l #[.int .i64 (x.1 : Int), .int .i64 x.2] W fun e W' =>
      (e = .returned (.bool true) ∧ J (pre ++ [x]) W' ∧ Span lo hi W W') ∨ (e = .returned (.bool false) ∧ Jx (pre ++ [x]) W'))
    (W : World) (hS : ∀ W', Span lo hi W W' → W'.cell? ⟨Bs, 0, none⟩ = some (.slice a zs.length cap) ∧ Lies (Value.int .i64) W' (.slice a zs.length cap) zs) (h0 : J [] W) :
    CallsIn F n Tryz.prog 86 #[.func (.yield l) #[] #[], .pointer (some ⟨Bs, 0, none⟩)] W fun e W' => (∃ v, e = .returned v) ∧
      ((∃ ys, ys = upB zs zs.length ∧ J ys W') ∨ (∃ pre, (∃ k, k ≤ zs.length ∧ pre = upB zs k) ∧ Jx pre W')) := by
  have hc0 := (hS W (Span.refl _ _ _)).1
  refine callsIn_of_wp Tryz.func86 rfl hf ?_ hro
  simp only [Tryz.ntmps86, List.size_toArray, List.length_cons, List.length_nil, Nat.reduceAdd, Nat.reduceSub, Array.replicate_succ, Array.replicate_zero, List.push_toArray, List.append_toArray, List.nil_append, List.cons_append]
  gi_wp2
  gi_loopw [3] (fun i wr => ∃ m : Nat, m ≤ zs.length ∧ i = .int .i64 ((m : Int) - 1) ∧ J (upB zs (zs.length - m)) wr ∧ Span lo hi W wr)
    (fun i _ => (intOf i + 1).toNat)
  case atStart => exact ⟨zs.length, Nat.le_refl _, by go_num, by rw [Nat.sub_self]; exact h0, Span.refl _ _ _⟩
  case round =>
    obtain ⟨m, hm, rfl, hJs, hsp⟩ := hrel
    by_cases hlt : 0 < m
    · obtain ⟨j, rfl⟩ : ∃ j, m = j + 1 := ⟨m - 1, by omega⟩
      obtain ⟨x, hx⟩ : ∃ x, zs[j]? = some x := ⟨_, List.getElem?_eq_getElem (by omega)⟩
      obtain ⟨hcb, hli⟩ := hS wr hsp
      obtain ⟨b, o, rfl, hcx⟩ := lies_cell hli hx
      obtain ⟨fn, tmps, assign, body, hy, hR⟩ := hY _ (j, x) wr hJs (by rw [upB_len]; omega)
      dsimp only at hy
      rw [← upB_succ zs hx] at hR
      clear hx hli
      have hjl : j < zs.length := by omega
      gi_wp2
      refine hR.mono ?_
      rintro e W3 (⟨rfl, hJ3, hk3⟩ | ⟨rfl, hJx3⟩)
      · gi_wp2
        go_roundw
        case rel => exact ⟨j, by omega, by go_num, hJ3, hsp.trans hk3⟩
        case measure => simp [intOf] <;> omega
      · gi_wp2
        refine bodyPost_ret (results_none rfl _ _ _) rfl ?_
        exact ⟨⟨_, rfl⟩, .inr ⟨_, ⟨zs.length - j, by omega, rfl⟩, hJx3⟩⟩
    · obtain rfl : m = 0 := by omega
      gi_wp2
      go_end0
      exact ⟨⟨_, rfl⟩, .inl ⟨_, rfl, hJs⟩⟩
set_option maxRecDepth 100000 in
set_option maxHeartbeats 1000000 in
theorem back_in (F : Fence) (n : Nat) (hf : F.fn 67) (hro : F.round = none) (a : Option Addr) (len cap : Nat) (w : World) :
    CallsIn F n Tryz.prog 67 #[.slice a len cap] w fun e w' => e = .returned (.func (.func 86) #[] #[.pointer (some ⟨w.heap.size, 0, none⟩)]) ∧ w' = w.alloc (.cells #[.slice a len cap] 24) := by
  refine callsIn_of_wp Tryz.func67 rfl hf ?_ hro
  simp only [Tryz.ntmps67, List.size_toArray, List.length_cons, List.length_nil, Nat.reduceAdd, Nat.reduceSub, Array.replicate_succ, Array.replicate_zero, List.push_toArray, List.append_toArray, List.nil_append, List.cons_append]
  gi_wp2
  go_ret
  exact ⟨rfl, rfl⟩
theorem back_stops (F : Fence) (n : Nat) (hf : F.fn 86) (hro : F.round = none) (hn : 1 ≤ n) (Bs lo hi : Nat) (a : Option Addr) (cap : Nat) (zs : List Int) (hz : zs.length ≤ 4194304) (w : World) (hhi : hi ≤ w.heap.size) (hS : ∀ W', Span lo hi w W' → W'.cell? ⟨Bs, 0, none⟩ = some (.slice a zs.length cap) ∧ Lies (Value.int .i64) W' (.slice a zs.length cap) zs) :
    SeqStopsK F n Tryz.prog 86 #[.pointer (some ⟨Bs, 0, none⟩)] (fun x : Nat × Int => #[Value.int .i64 (x.1 : Int), Value.int .i64 x.2]) (Span lo hi) (fun ys => ys = upB zs zs.length)
      (fun pre => ∃ k, k ≤ zs.length ∧ pre = upB zs k) zs.length w := fun l J Jx W hW _ _ hY h0 =>
  back1_in F n hf hro hn l Bs lo hi a cap zs hz J Jx hY W (fun W' h => hS W' (Span.trans ⟨hW.size, fun k _ h2 => hW.block k (by omega)⟩ h)) h0
/-- What the periods are when some borders have come. -/
def prB (n : Nat) (pre : List (Nat × Int)) : List Int := pre.map fun p => wrap64 ((n : Int) - p.2)
theorem prB_snoc (n : Nat) (pre : List (Nat × Int)) (x : Nat × Int) : prB n (pre ++ [x]) = prB n pre ++ [wrap64 ((n : Int) - x.2)] := by simp [prB]
theorem prB_len (n : Nat) (pre : List (Nat × Int)) : (prB n pre).length = pre.length := by simp [prB]
theorem prB_all {u : List Int} (hs : u.length ≤ 4194304) : prB u.length (upB (brV u) (brV u).length) = prV u := by
  have h := upB_all (brV u)
  unfold prV prB
  rw [← h, List.map_map]
  refine List.map_congr_left fun p hp => ?_
  have hm : p.2 ∈ brV u := by
    have : p.2 ∈ (upB (brV u) (brV u).length).map (·.2) := List.mem_map_of_mem hp
    rw [h] at this
    simpa using this
  have := brs_range u _ p.2 hm
  show wrap64 ((u.length : Int) - p.2) = (u.length : Int) - p.2
  unfold wrap64
  omega
/-- A box holds a slice of the call's own, others lie as they lay: one more element. -/
theorem box_grown {W w1 : World} {H B lo : Nat} {v v' : Value} {xs ys : List Int} {tmp : Obj} (hv : Boxed W B 24 v) (hrow : Has (Value.int .i64) 3 W H v xs) (hH : H ≤ W.heap.size) (hB : B < lo) (hown' : Has (Value.int .i64) 3 w1 H v' ys) (hgrow : (W.alloc tmp).grownBy w1 v.ownBlock) :
    Boxed w1 B 24 v ∧ Boxed (w1.setCell ⟨B, 0, none⟩ v') B 24 v' ∧ Has (Value.int .i64) 3 (w1.setCell ⟨B, 0, none⟩ v') H v' ys ∧ KeepsOthers W (w1.setCell ⟨B, 0, none⟩ v') ∧ Span lo H W (w1.setCell ⟨B, 0, none⟩ v') ∧
      (∀ (b0 : Nat) (u : Value), Boxed W b0 24 u → b0 ≠ B → Boxed (w1.setCell ⟨B, 0, none⟩ v') b0 24 u) ∧ (∀ w0 : World, Below w0.heap.size w0 W → w0.heap.size ≤ B → w0.heap.size ≤ H → Below w0.heap.size w0 (w1.setCell ⟨B, 0, none⟩ v')) := by
  have hte : (24 : TypeId) ≠ 3 := by decide
  have h0 := hv.appended hte (hrow.mono (Nat.zero_le _)) (Nat.zero_le _) (Nat.zero_le _) (hown'.mono (Nat.zero_le _)) hgrow
  have hk : ∀ k, v.ownBlock = some k → H ≤ k := fun k e => (hrow.lt k e).1
  have hsz : W.heap.size ≤ w1.heap.size := Nat.le_trans (by simp) hgrow.size
  refine ⟨h0.1, h0.2.1, World.ownsRow.kept hown' (grownBy_setCell' w1 B v') (.inr (h0.1.not_row hte hown').symm), h0.2.2.2.1, ⟨Nat.le_trans hsz (grownBy_setCell' w1 B v').size, fun k h1 h2 => ?_⟩, fun b0 u hb hne => ?_, fun w0 hb h1 h2 => ?_⟩
  · have e1 := (grownBy_setCell' w1 B v').block k (by omega) (fun e => by cases e; omega)
    have e2 := hgrow.block k (by simp; omega) (fun e => by have := hk k e.symm; omega)
    rw [e1, e2]
    first | exact heap_alloc_old W tmp k (by omega) | exact heap_alloc_old W tmp (by omega)
  · refine Boxed.kept ?_ (grownBy_setCell' w1 B v') (fun e => hne (by cases e; rfl))
    exact (hb.alloc tmp).kept hgrow ((hb.alloc tmp).not_row hte (World.ownsRow.alloc hrow tmp))
  · exact ((hb.alloc hb.size tmp).grown hgrow (Nat.le_trans hb.size (by simp)) (fun k e => Nat.le_trans h2 (hk k e))).setCell h1 v'
theorem holds_own {β : Type} (H B : Nat) (f : β → List Int) : Own (fun s W => ∃ v, Boxed W B 24 v ∧ Has (Value.int .i64) 3 W H v (f s)) := by
  rintro s X Y row ⟨v, hv, hr⟩ hg hrow
  obtain ⟨v2, h1, h2, _⟩ := holdsRow_own H B 24 3 1 (fun s => (f s).length) (fun s => (f s).map (Value.int .i64)) (fun _ _ => True) s X Y row ⟨v, hv, hr, trivial⟩ hg hrow
  exact ⟨v2, h1, h2⟩
theorem boxed_own' {β : Type} (B : Nat) (u : Value) : Own (fun (_ : β) W => Boxed W B 24 u) := fun s X Y row hv hg hrow => by
  refine Boxed.kept hv hg fun e' => ?_
  obtain ⟨o, ho, hc⟩ := hrow B e'.symm
  rw [show X.heap[B]? = _ from hv] at ho; cases ho; cases hc
set_option maxRecDepth 100000 in
set_option maxHeartbeats 4000000 in
theorem impl_per (v : Value) (u : List Int) (w : World) (h : Lies (Value.int .i64) w v u) (hs : u.length ≤ 4194303) :
    Calls Tryz.prog 55 #[v] w (Gives (Value.int .i64) 3 (prV u) w) := by
  obtain ⟨i0, hi, hz0, hz1, hz2⟩ := info_parts Ints.infoI
  obtain ⟨pa, pc, rfl⟩ := lies_form h
  refine (callsIn_wide (n := 6)).1 ?_
  refine callsIn_of_wp_marks Tryz.func55 rfl trivial ?_ rfl
  simp only [Tryz.ntmps55, List.size_toArray, List.length_cons, List.length_nil, Nat.reduceAdd, Nat.reduceSub, Array.replicate_succ, Array.replicate_zero, List.push_toArray, List.append_toArray, List.nil_append, List.cons_append]
  have b0 := Boxed.new w 24 (.slice pa u.length pc)
  have b1 := Boxed.new (w.alloc (.cells #[.slice pa u.length pc] 24)) 24 (.slice none 0 0)
  have b0' := b0.alloc (.cells #[.slice none 0 0] 24)
  rw [World.size_alloc] at b1
  have hB0 : Below w.heap.size w ((w.alloc (.cells #[.slice pa u.length pc] 24)).alloc (.cells #[.slice none 0 0] 24)) := ((Below.refl _ w).alloc (Nat.le_refl _) _).alloc (by simp) _
  obtain ⟨W2, hW2⟩ : ∃ W2, (w.alloc (.cells #[.slice pa u.length pc] 24)).alloc (.cells #[.slice none 0 0] 24) = W2 := ⟨_, rfl⟩
  have hsz2 : W2.heap.size = w.heap.size + 2 := by rw [← hW2]; simp
  rw [hW2] at b0' b1 hB0
  have hBC := Lib.hid (impl_bor _ u W2 (h.below hB0) hs)
  have hc1 := b0'.cell
  gi_wp2_with (first | (refine ⟨trivial, ?_⟩; gi_at_call 68; refine (callsIn_wide.2 hBC.out).mono ?_; rintro e W3 ⟨vb, rfl, hv, bb3⟩; obtain ⟨ba, bc, rfl, _⟩ := hv.form) | (refine ⟨trivial, ?_⟩; gi_at_call 67; refine (back_in Fence.wide _ trivial rfl _ _ _ _).mono ?_; rintro e w' ⟨rfl, rfl⟩))
  have hbl : (brV u).length ≤ 4194304 := by have := brV_len u; omega
  obtain ⟨L, hL⟩ : ∃ L, L = brV u := ⟨_, rfl⟩
  have HPA : Hid (prB u.length (upB L L.length) = prV u) := by show _ = _; rw [hL]; exact prB_all (by omega)
  rw [← hL] at hv hbl ⊢
  clear hL hBC
  have hs3 := bb3.size
  have hB4 : Below w.heap.size w (W3.alloc (.cells #[.slice ba L.length bc] 24)) := (hB0.trans (bb3.mono hB0.size)).alloc (Nat.le_trans hB0.size hs3) _
  have h4b := Boxed.new W3 24 (.slice ba L.length bc)
  have hB34 : Below W3.heap.size W3 (W3.alloc (.cells #[.slice ba L.length bc] 24)) := (Below.refl _ _).alloc (Nat.le_refl _) _
  have b04 : Boxed (W3.alloc (.cells #[.slice ba L.length bc] 24)) w.heap.size 24 (.slice pa u.length pc) := Boxed.alloc ((bb3.block _ b0'.lt).trans b0') _
  have b14 : Boxed (W3.alloc (.cells #[.slice ba L.length bc] 24)) (w.heap.size + 1) 24 (.slice none 0 0) := Boxed.alloc ((bb3.block _ b1.lt).trans b1) _
  have hli := hv.lies.below hB34
  have hlo : ∀ k, (Value.slice ba L.length bc).ownBlock = some k → W2.heap.size ≤ k := fun k e => (hv.lt k e).1
  obtain ⟨H, hH⟩ : ∃ H, H = (W3.alloc (.cells #[.slice ba L.length bc] 24)).heap.size := ⟨_, rfl⟩
  have hH3 : H = W3.heap.size + 1 := by rw [hH]; simp
  obtain ⟨W4, hW4⟩ : ∃ W4, W3.alloc (.cells #[.slice ba L.length bc] 24) = W4 := ⟨_, rfl⟩
  rw [hW4] at hB4 h4b b04 b14 hli hH ⊢
  clear hW4 hc1 hB34
  have hS : ∀ W', Span W2.heap.size H W4 W' → W'.cell? ⟨W3.heap.size, 0, none⟩ = some (.slice ba L.length bc) ∧ Lies (Value.int .i64) W' (.slice ba L.length bc) L := fun W' h => by
    refine ⟨?_, hli.keep fun k hk hlt => h.2 k (hlo k hk) (by omega)⟩
    rw [← h4b.cell]
    exact World.cell?_of_block (h.2 W3.heap.size hs3 (by omega))
  refine wpIn_rangeFunc_ownG rfl (by omega) (gf := 86) (lb := #[.pointer (some ⟨W3.heap.size, 0, none⟩)]) rfl trivial (enters_of Tryz.func86 (by kernel_rfl) rfl)
    (back_stops Fence.wide _ trivial rfl (by omega) W3.heap.size W2.heap.size H ba bc L hbl _ (by omega) hS) Span.trans (span_b (by omega)) (Below.refl _ _) (fun _ => rfl)
    (fun pre W => (((∃ v, Boxed W (w.heap.size + 1) 24 v ∧ Has (Value.int .i64) 3 W H v (prB u.length pre)) ∧ Boxed W w.heap.size 24 (.slice pa u.length pc)) ∧ H ≤ W.heap.size) ∧ Below w.heap.size w W)
    (fun _ _ _ => False)
    (OwnFrom.and (OwnFrom.and (OwnFrom.and (Own.from (holds_own H (w.heap.size + 1) (prB u.length)) _) (Own.from (boxed_own' _ _) _)) (fun s X Y row h hg _ => Nat.le_trans h hg.size)) (ownFrom_below (Nat.le_refl _) (by omega)))
    (fun _ _ _ _ _ hs _ _ => hs)
    ⟨⟨⟨⟨_, b14, World.ownsRow_nil _ _ _ _⟩, b04⟩, by omega⟩, hB4⟩
    (fun x => { tmps := #[.slice pa u.length pc, .pointer (some ⟨w.heap.size, 0, none⟩), .slice none 0 0, .pointer (some ⟨w.heap.size + 1, 0, none⟩), undef, .int .i64 x.2, .slice pa u.length pc, .slice ba L.length bc, .func (.func 86) #[] #[.pointer (some ⟨W3.heap.size, 0, none⟩)], .int .i64 (x.1 : Int), .int .i64 x.2, undef, undef, undef, undef, undef, undef, undef, undef], defers := [] }) ?assign ?body ?done ?stop
  case assign =>
    intro l x W K hK
    gi_wp2
    exact hK
  case body =>
    rintro l pre x W ⟨⟨⟨⟨v, hv, hrow⟩, hb⟩, hsz⟩, hB⟩ hlt
    obtain ⟨va, vc, rfl, _⟩ := hrow.form
    have hc := hv.cell
    have hcb := hb.cell
    have HPL := Lib.hid (prB_len u.length pre)
    gi_wp2_with (gi_at_builtin; refine wpListIn_append_own _ rfl _ _ 24 rfl H 3 i0 (.int .i64 0) 1 8 Tryz.underlying24 hi hz0 hz1 hz2 rfl (by decide) _ _ _ rfl (World.ownsRow.alloc hrow _) ⟨W.heap.size, 0, none⟩ 1 1 [.int .i64 (wrap64 ((u.length : Int) - x.2))] rfl rfl (cell_one_new _ _ _) (by simp [Value.oneCell']) (by have := HPL.out; unfold maxLen; omega) (by have := HPL.out; omega) (by simp; omega) ?_; intro v' w1 hown' hgrow _; have hown2 : Has (Value.int .i64) 3 w1 H v' (prB u.length (pre ++ [x])) := by { rw [prB_snoc]; show World.ownsRow _ _ _ _ _ _ _; rw [List.length_append, List.map_append]; exact hown' }; obtain ⟨hv1, hv2, hr2, hk2, hsp2, hoth, hbl2⟩ := box_grown hv hrow hsz (show w.heap.size + 1 < W2.heap.size by omega) hown2 hgrow; have hc1 := hv1.cell; have hf1 := hv1.frozen; obtain ⟨g', cap', rfl⟩ := ownsRow_succ hown')
    exact ⟨hk2.from _, hsp2, ⟨⟨⟨_, hv2, hr2⟩, hoth _ _ hb (by omega)⟩, Nat.le_trans hsz hsp2.1⟩, hbl2 w hB (by omega) (by omega)⟩
  case done =>
    rintro D ys W hD rfl ⟨⟨⟨⟨v, hv, hrow⟩, hb⟩, hsz⟩, hB⟩ hK
    rw [HPA.out] at hrow
    have hc := hv.cell
    gi_wp2
    refine ⟨by simp, .inl ⟨_, _, rfl, run_takeDeferred hK, ?_⟩⟩
    refine ⟨_, results_tmp rfl _ _ _, v, rfl, ?_, hB.trans (belowK_b (w := w) (Nat.le_refl _) W D _ _ (by omega) hK rfl rfl)⟩
    exact Has.mono (ownsRow_putObj hrow _ hK rfl) (by omega)
  case stop =>
    rintro D c pre W _ _ h _
    exact h.elim
end Fac
end Go.Proofs.YtidfgfgokcflfaaGreat
/- Contracts of DigitSum, AreDigits, ValueOf, PadDigits and ReverseDigits, of the program and of the model. No conditions beyond those that each states. -/
namespace Go.Proofs.YtidfgfgokcflfaaGreat
open Go.ChangeShapes Go.WideShapes Go.ChangeAt Go.RowKit
open Go.PlainAid Plain
set_option linter.unusedVariables false
namespace Digits
open Ints

theorem ret_b {a b : Bool} (h : a = b) : Ending.returned (.bool a) = Ending.returned (.bool b) := by rw [h]
theorem spec_are (v : Value) (xs : List Int) (b : Int) (w : World) (h : Lies (Value.int .i64) w v xs) :
    Calls Tryz.prog 101 #[v, .int .i64 b] w fun e w' => e = .returned (.bool (areD b xs)) ∧ w = w' := by
  obtain ⟨hl, a, ca, rfl, _, hc⟩ := h
  have HC := Lib.hid hc
  clear hc
  go_enter Tryz.func101, Tryz.ntmps101
  go_wp2
  go_loop [5] (fun i' => ∃ i : Nat, i ≤ xs.length ∧ i' = .int .i64 i ∧ Hid (∀ j, (hj : j < xs.length) → j < i → 0 ≤ xs[j] ∧ xs[j] < b)) (fun i' => xs.length - (intOf i').toNat)
  case atStart => exact ⟨0, Nat.zero_le _, rfl, fun j hj h => by omega⟩
  case round =>
    obtain ⟨i, hi, rfl, HI⟩ := hrel
    by_cases hlt : i < xs.length
    · obtain ⟨q, r, rfl, hc2⟩ := HC.out i _ (List.getElem?_eq_getElem hlt)
      obtain ⟨x, hx⟩ : ∃ x, x = xs[i] := ⟨_, rfl⟩
      have HX := Lib.hid hx
      rw [← hx] at hc2
      clear hx
      by_cases h0 : x < 0
      · have HE := Lib.hid (areD_at (b := b) i hlt (by rw [← HX.out]; exact .inl h0))
        have hd := decide_eq_true h0
        go_wp2
        go_ret
        exact ⟨ret_b HE.out.symm, rfl⟩
      · by_cases h1 : b ≤ x
        · have HE := Lib.hid (areD_at (b := b) i hlt (by rw [← HX.out]; exact .inr h1))
          have hd := decide_eq_false h0
          have hd1 := decide_eq_true h1
          go_wp2
          go_ret
          exact ⟨ret_b HE.out.symm, rfl⟩
        · have HN : Hid (∀ j, (hj : j < xs.length) → j < i + 1 → 0 ≤ xs[j] ∧ xs[j] < b) := fun j hj h => by
            by_cases e : j = i
            · subst e; rw [← HX.out]; omega
            · exact HI.out j hj (by omega)
          have hd := decide_eq_false h0
          have hd1 := decide_eq_false h1
          go_wp2
          go_round
          case rel => exact ⟨i + 1, by omega, by go_num, HN⟩
          case measure => simp [intOf]; omega
    · by_cases hb : 2 ≤ b ∧ b ≤ 4
      · obtain ⟨hb1, hb2⟩ := hb
        by_cases h16 : xs.length ≤ 16
        · have HE := Lib.hid (areD_yes hb1 hb2 h16 (mem_of_all (fun j hj => HI.out j hj (by omega))))
          have hd := decide_eq_true (show (xs.length : Int) ≤ 16 by omega)
          go_wp2_with (go_at_call 43; refine (l1In_yes _ _ _ _ hb1 hb2).mono ?_; rintro e w' ⟨rfl, rfl⟩)
          go_ret
          exact ⟨ret_b HE.out.symm, rfl⟩
        · have HE := Lib.hid (areD_long (b := b) (xs := xs) (by omega))
          have hd := decide_eq_false (show ¬ (xs.length : Int) ≤ 16 by omega)
          go_wp2_with (go_at_call 43; refine (l1In_yes _ _ _ _ hb1 hb2).mono ?_; rintro e w' ⟨rfl, rfl⟩)
          go_ret
          exact ⟨ret_b HE.out.symm, rfl⟩
      · have hb3 : b < 2 ∨ 4 < b := by omega
        have HE := Lib.hid (areD_base xs hb3)
        have HB := Lib.hid hb3
        clear hb hb3
        go_wp2_with (go_at_call 43; refine (l1In_no _ _ _ _ HB.out).mono ?_; rintro e w' ⟨rfl, rfl⟩)
        go_ret
        exact ⟨ret_b HE.out.symm, rfl⟩
/-- The number of some digits, -1 where they are none. -/
def valV (b : Int) (xs : List Int) : Int := if areD b xs = true then valD b.toNat xs else -1
theorem valV_yes {b : Nat} {xs : List Int} (h : areD b xs = true) : valV b xs = valD b xs := by rw [valV, if_pos h]; rfl
theorem valV_no {b : Int} {xs : List Int} (h : areD b xs = false) : valV b xs = -1 := by rw [valV, if_neg (by simp [h])]
theorem val_bounds {b : Nat} {xs : List Int} (h : areD b xs = true) (i : Nat) (hi : i < xs.length) : (0 ≤ valD b (xs.take i) ∧ valD b (xs.take i) ≤ 4294967296) ∧ (0 ≤ valD b (xs.take i) * (b : Int) ∧ valD b (xs.take i) * (b : Int) ≤ 4294967296) ∧ 0 ≤ xs[i] ∧ xs[i] ≤ 4 := by
  obtain ⟨h1, h2, h3, h4⟩ := areD_out h
  have ha := valD_bd b (by omega) i xs (by omega) h4
  have hp := pow_bd b i (by omega) (by omega) (by omega)
  have hb := valD_bd b (by omega) (i + 1) xs (by omega) h4
  have hq := pow_bd b (i + 1) (by omega) (by omega) (by omega)
  have hx := h4 xs[i] (List.getElem_mem _)
  rw [List.take_succ_eq_append_getElem hi, valD_snoc] at hb
  have : 0 ≤ valD b (xs.take i) * (b : Int) := Int.mul_nonneg ha.1 (by omega)
  omega
end Digits
end Go.Proofs.YtidfgfgokcflfaaGreat
/- Contracts of ReverseDigits and PadDigits, of the program and of the model. No conditions beyond those that each states. -/
namespace Go.Proofs.YtidfgfgokcflfaaGreat
open Go.ChangeShapes Go.WideShapes Go.ChangeAt Go.RowKit
open Go.PlainAid Plain
set_option linter.unusedVariables false
namespace Digits
open Ints

theorem drop_rev (xs : List Int) (j : Nat) (h : j < xs.length) : (xs.drop j).reverse = (xs.drop (j + 1)).reverse ++ [xs[j]] := by
  rw [List.drop_eq_getElem_cons h, List.reverse_cons]
theorem padD_same {b : Int} {xs : List Int} (h : b ≤ xs.length ∨ 16 < b) : padD b xs = xs := if_pos h
theorem padD_more {n : Nat} {xs : List Int} (h0 : xs.length < n) (h : n ≤ 16) : padD n xs = List.replicate (n - xs.length) 0 ++ xs := by
  rw [padD, if_neg (by omega)]
  rfl
theorem rep_snoc (i : Nat) : List.replicate (i + 1) (0 : Int) = List.replicate i 0 ++ [0] := List.replicate_succ'
theorem zeros_copied (n : Nat) (xs : List Int) (h : xs.length ≤ n) : (List.replicate n (0 : Int)).take (n - xs.length) ++ (xs.take xs.length ++ (List.replicate n (0 : Int)).drop (n - xs.length + xs.length)) = List.replicate (n - xs.length) 0 ++ xs := by
  rw [List.take_replicate, List.take_length, List.drop_replicate, show min (n - xs.length) n = n - xs.length from by omega, show n - (n - xs.length + xs.length) = 0 from by omega]
  simp
theorem padD_len (b : Int) (xs : List Int) : (padD b xs).length ≤ 16 + xs.length := by
  unfold padD
  split
  · omega
  · rw [List.length_append, List.length_replicate]; omega
end Digits
end Go.Proofs.YtidfgfgokcflfaaGreat
/- Contracts of the program's LeastPeriod, IsPrimitive and RootOf. No conditions beyond those that each states. -/
namespace Go.Proofs.YtidfgfgokcflfaaGreat
open Go.ChangeShapes Go.WideShapes Go.ChangeAt Go.RowKit
open Go.PlainAid Plain
set_option linter.unusedVariables false
namespace Fac
set_option maxHeartbeats 2000000 in
theorem impl_lp (v : Value) (u : List Int) (w : World) (h : Lies (Value.int .i64) w v u) (hs : u.length ≤ 4194303) :
    Calls Tryz.prog 37 #[v] w fun e w' => e = .returned (.int .i64 (lpV u)) ∧ Below w.heap.size w w' := by
  have HC := Lib.hid (impl_per v u w h hs)
  have HPL := Lib.hid (prV_len u)
  obtain ⟨pa, pc, rfl⟩ := lies_form h
  by_cases h0 : 0 < u.length
  · have hp := prV_pos h0
    have HF := Lib.hid (prV_first h0)
    obtain ⟨L, hL⟩ : ∃ L, L = prV u := ⟨_, rfl⟩
    obtain ⟨y, hy⟩ : ∃ y, y = lpV u := ⟨_, rfl⟩
    rw [← hL] at HC HPL hp HF
    rw [← hy] at HF ⊢
    have hlv : L.length ≤ 4194304 := by have := HPL.out; omega
    clear hL hy h
    have hd0 : ((u.length : Int) == 0) = false := by simp; intro e; rw [e] at h0; simp at h0
    go_enter Tryz.func37, Tryz.ntmps37
    go_wp2_with fail
    refine HC.out.mono ?_
    rintro e W1 ⟨vb, rfl, hv, b1⟩
    obtain ⟨ba, bc, rfl, _⟩ := hv.form
    obtain ⟨q, r, hba, hc⟩ := lies_cell hv.lies HF.out
    rw [Nat.add_zero] at hc
    subst hba
    have HB := Lib.hid b1
    clear hv b1
    go_wp2
    go_ret
    exact ⟨rfl, HB.out⟩
  · cases u with
    | cons x l => simp at h0
    | nil =>
      rw [lpV_nil rfl]
      clear h0 hs HC HPL h
      go_enter Tryz.func37, Tryz.ntmps37
      go_wp2
      go_ret
      exact ⟨rfl, Below.refl _ _⟩
/-- A slice cut to its own length. -/
theorem LiesC.full {w : World} {b off c : Nat} {xs : List Int} (hl : LiesC w (.slice (some ⟨b, off, none⟩) xs.length c) xs) (h0 : 0 < xs.length) :
    (∀ W : World, (Instr.slice 24 (.slice (some ⟨b, off, none⟩) xs.length c) none (some (.int .i64 (xs.length : Int))) (some (.int .i64 (xs.length : Int)))).run Tryz.prog W = .ok (.slice (some ⟨b, off, none⟩) xs.length xs.length) W) ∧ Lies (Value.int .i64) w (.slice (some ⟨b, off, none⟩) xs.length xs.length) xs := by
  have hcap := hl.2 _ _ _ rfl
  refine ⟨fun W => ?_, ?_⟩
  · have := run_slice_hm (P := Tryz.prog) (w := W) (t := 24) (a := some ⟨b, off, none⟩) (len := xs.length) (cap := c) (by rw [elem_tr]; exact Tryz.underlying24) .i64 .i64 (xs.length : Int) (xs.length : Int) (by omega) (by omega) (by omega)
    rw [this, elem_tr]
    have hne : ¬ xs.length = 0 := by omega
    simp [go_sem, Result.andThen, sliced, hne]
  · obtain ⟨⟨hs, a', c', hv, hn, hc⟩, _⟩ := hl
    injection hv with e1 e2 e3
    subst e1
    exact ⟨hs, _, _, rfl, (fun h => by cases h), hc⟩
/-- 'append(v, u...)', v a slice without room: what is handed back lies in a new block. -/
theorem append_full {P : Program} (w : World) {ops : Array Oper} {rest : List Oper} {o : Oper} {a : Act} {Q : Exit → Act → World → Prop} (hgd : o.guard = none) (s x : Operand) (t : TypeId)
    (ho : o.op = .call { callee := .builtin .append, args := #[s, x], argTypes := #[t, t] })
    (i : TypeInfo) (ht : P.underlying t = some (.slice 3)) (hi : P.info? 3 = some i) (hz : i.zero = some (.int .i64 0)) (hsize : i.size = 1) (hby : i.bytes = 8)
    (b off b2 off2 c : Nat) (xs ys : List Int) (hs : a.eval s = .slice (some ⟨b, off, none⟩) xs.length xs.length) (hx : a.eval x = .slice (some ⟨b2, off2, none⟩) ys.length c)
    (h1 : Lies (Value.int .i64) w (.slice (some ⟨b, off, none⟩) xs.length xs.length) xs) (h2 : Lies (Value.int .i64) w (.slice (some ⟨b2, off2, none⟩) ys.length c) ys) (hm : 0 < ys.length) (hl : xs.length + ys.length ≤ 100000000)
    (h : ∀ v' w', Has (Value.int .i64) 3 w' w.heap.size v' (xs ++ ys) → w.grownBy w' none → wpList P ops Q rest (a.put o.dst v') w') :
    wpList P ops Q (o :: rest) a w := by
  have cells : ∀ {b off c n : Nat} {zs : List Int}, Lies (Value.int .i64) w (.slice (some ⟨b, off, none⟩) n c) zs → ∀ j u, (zs.map (Value.int .i64))[j]? = some u → w.cell? ((⟨b, off, none⟩ : Addr).add j) = some u := fun hL j u hj => by
    rw [List.getElem?_map, Option.map_eq_some_iff] at hj
    obtain ⟨x', hx', rfl⟩ := hj
    obtain ⟨b', o', he, hcell⟩ := lies_cell hL hx'
    cases he
    rw [addr_plus]
    exact hcell
  refine wpList_append_grows w hgd s x t ho 3 i (.int .i64 0) 1 8 ht hi hz hsize hby rfl (by decide) (some ⟨b, off, none⟩) xs.length xs.length (xs.map (Value.int .i64)) hs (fun h => by cases h) (by simp) (fun p hp j u hj => by cases hp; exact cells h1 j u hj) ⟨b2, off2, none⟩ ys.length c (ys.map (Value.int .i64)) hx (by simp) (cells h2) (fun u hu => by obtain ⟨_, _, rfl⟩ := List.mem_map.1 hu; rfl) (by omega) (by unfold maxLen; omega) (by omega) fun v' w' hr hg => h v' w' ?_ hg
  show World.ownsRow _ _ _ _ _ _ _
  rw [List.length_append, List.map_append]
  exact hr
end Fac
end Go.Proofs.YtidfgfgokcflfaaGreat
