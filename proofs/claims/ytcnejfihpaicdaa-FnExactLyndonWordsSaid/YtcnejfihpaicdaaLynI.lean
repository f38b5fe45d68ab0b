/- Contracts of the program's firstFactor and IsLyndon; parts of a slice. No conditions beyond those that each states. -/
import Derived.Test.YtcnejfihpaicdaaLynMore
import Derived.Test.YtcnejfihpaicdaaCmp
import Derived.Test.YtcnejfihpaicdaaSeqMark
import Derived.BigQuiet
namespace Go.Proofs.Ytcnejfihpaicdaa
open Go.ChangeShapes Go.WideShapes Go.ChangeAt Go.RowKit
open Go.PlainAid Plain
set_option linter.unusedVariables false
namespace Lynd
open Fac
/-- The rest of a slice from l on. -/
theorem cut_from {w : World} {a : Option Addr} {c : Nat} {xs : List Int} {l : Nat} {L : Int} (hl : LiesC w (.slice a xs.length c) xs) (h1 : l ≤ xs.length) (hL : L = l) :
    ∃ a' c', (∀ W : World, (Instr.slice 22 (.slice a xs.length c) (some (.int .i64 L)) none none).run Try.prog W = .ok (.slice a' (xs.drop l).length c') W) ∧ LiesC w (.slice a' (xs.drop l).length c') (xs.drop l) := by
  have hcut := hl.cut h1 (Nat.le_refl _)
  have hcap := hl.2 _ _ _ rfl
  have e : (xs.drop l).take (xs.length - l) = xs.drop l := List.take_of_length_le (by rw [List.length_drop]; exact Nat.le_refl _)
  rw [e] at hcut
  subst hL
  rw [List.length_drop]
  refine ⟨_, _, fun W => ?_, hcut⟩
  have := run_slice_l (P := Try.prog) (w := W) (t := 22) (a := a) (len := xs.length) (cap := c) (by rw [elem_tr]; exact Try.underlying22) .i64 (l : Int) (by omega) (by omega)
  rw [this, elem_tr]
  simp [go_sem, Result.andThen]
/-- The beginning of a slice up to h. -/
theorem cut_to {w : World} {a : Option Addr} {c : Nat} {xs : List Int} {h : Nat} {H : Int} (hl : LiesC w (.slice a xs.length c) xs) (h2 : h ≤ xs.length) (hH : H = h) :
    ∃ a' c', (∀ W : World, (Instr.slice 22 (.slice a xs.length c) none (some (.int .i64 H)) none).run Try.prog W = .ok (.slice a' h c') W) ∧ LiesC w (.slice a' h c') (xs.take h) := by
  have hcut := hl.cut (Nat.zero_le h) h2
  have hcap := hl.2 _ _ _ rfl
  rw [Nat.sub_zero, List.drop_zero] at hcut
  subst hH
  refine ⟨_, _, fun W => ?_, hcut⟩
  have := run_slice_h (P := Try.prog) (w := W) (t := 22) (a := a) (len := xs.length) (cap := c) (by rw [elem_tr]; exact Try.underlying22) .i64 (h : Int) (by omega) (by omega)
  rw [this, elem_tr]
  simp [go_sem, Result.andThen]
theorem ret_pt {p t p' t' : Nat} (h1 : p = p') (h2 : t = t') : Ending.returned (.tuple #[.int .i64 (p : Int), .int .i64 (t : Int)]) = Ending.returned (.tuple #[.int .i64 (p' : Int), .int .i64 (t' : Int)]) := by rw [h1, h2]
set_option maxRecDepth 100000 in
set_option maxHeartbeats 2000000 in
theorem first (v : Value) (u : List Int) (w : World) (h : Lies (Value.int .i64) w v u) (hs : u.length ≤ 4194304) :
    Calls Try.prog 35 #[v] w fun e w' => ∃ p t : Nat, e = .returned (.tuple #[.int .i64 p, .int .i64 t]) ∧ FF u p t ∧ Below w.heap.size w w' := by
  obtain ⟨hl, a, ca, rfl, _, hca⟩ := h
  have HA := Lib.hid hca
  clear hca
  by_cases h0 : 0 < u.length
  · have HD0 := Lib.hid (Duv.start (w := u) (i := 0) h0)
    go_enter Try.func35, Try.ntmps35
    go_wp2
    go_loopw [4, 5] (fun p' j' wr => ∃ (p j k : Nat), j = k + p ∧ 0 < p ∧ j ≤ u.length ∧ p' = .int .i64 p ∧ j' = .int .i64 j ∧ Hid (Duv u 0 j k) ∧ Hid (∃ n, wr = w.drewN n)) (fun _ j' _ => u.length - (intOf j').toNat)
    case atStart => exact ⟨1, 1, 0, rfl, by omega, by omega, rfl, rfl, HD0, 0, rfl⟩
    case round =>
      obtain ⟨p, j, k, hj, hp, hjl, rfl, rfl, HD, HW⟩ := hrel
      have hw : IntKind.i64.wrap ((j : Int) - (p : Int)) = (k : Int) := by rw [IntKind.wrap_i64]; omega
      have hjk : (j : Int) - (p : Int) = (k : Int) := by omega
      have hpk : j - k = p := by omega
      have hp0 : ¬ (p : Int) = 0 := by omega
      have hp1 : ((p : Int) == 0) = false := by simp; omega
      have hkj : k < j := by omega
      have HJ := Lib.hid hj
      have HPK := Lib.hid hpk
      clear hj hpk
      by_cases hlt : j < u.length
      · obtain ⟨x, hx⟩ : ∃ x, u[j]? = some x := ⟨_, List.getElem?_eq_getElem hlt⟩
        obtain ⟨y, hy⟩ : ∃ y, u[k]? = some y := ⟨_, List.getElem?_eq_getElem (by omega)⟩
        obtain ⟨g, o, rfl, hc1⟩ := HA.out j x hx
        obtain ⟨_, _, e, hc2⟩ := HA.out k y hy
        cases e
        have hkl : k < u.length := by omega
        rcases Int.lt_trichotomy x y with hxy | hxy | hxy
        · have HF := Lib.hid (HD.out.ff (.inr ⟨y, x, hy, hx, hxy⟩))
          rw [HPK.out] at HF
          obtain ⟨t, ht⟩ : ∃ t, t = j / p := ⟨_, rfl⟩
          rw [← ht] at HF
          have htj : t ≤ j := by rw [ht]; exact Nat.div_le_self _ _
          have e1 : (j : Int) / (p : Int) = (t : Int) := by rw [ht]; rfl
          have e2 : (j : Int).tdiv (p : Int) = (t : Int) := by rw [ht]; rfl
          have hwt : IntKind.i64.wrap (t : Int) = (t : Int) := by rw [IntKind.wrap_i64]; omega
          obtain ⟨n, hn⟩ := HW.out
          subst hn
          clear hx hy ht HD HA
          go_wp2
          go_quiet (fail)
          go_wp2
          go_quiet (fail)
          go_wp2
          go_ret2
          exact ⟨p, t, rfl, HF.out, by repeat (first | exact Below.refl _ _ | apply below_drewN)⟩
        · subst hxy
          have HD2 := Lib.hid (HD.out.same hlt (hy.trans hx.symm))
          obtain ⟨n, hn⟩ := HW.out
          subst hn
          clear hx hy HD
          go_wp2
          go_quiet (fail)
          go_wp2
          go_quiet (fail)
          go_wp2
          go_roundw
          case rel => exact ⟨p, j + 1, k + 1, by have := HJ.out; omega, hp, by omega, rfl, by go_num, HD2, ⟨_, rfl⟩⟩
          case measure => simp [intOf]; omega
        · have HD2 := Lib.hid (HD.out.more hy hx hxy)
          obtain ⟨n, hn⟩ := HW.out
          subst hn
          clear hx hy HD
          go_wp2
          go_quiet (fail)
          go_wp2
          go_quiet (fail)
          go_wp2
          go_roundw
          case rel => exact ⟨j + 1, j + 1, 0, by omega, by omega, by omega, by go_num, by go_num, HD2, ⟨_, rfl⟩⟩
          case measure => simp [intOf]; omega
      · have HF := Lib.hid (HD.out.ff (.inl (by omega)))
        rw [HPK.out] at HF
        obtain rfl : j = u.length := by omega
        obtain ⟨L, hL⟩ : ∃ L, L = u.length := ⟨_, rfl⟩
        obtain ⟨t, ht⟩ : ∃ t, t = L / p := ⟨_, rfl⟩
        rw [← hL] at HF hw hjk hlt hl ⊢
        rw [← ht] at HF
        have htj : t ≤ L := by rw [ht]; exact Nat.div_le_self _ _
        have hLs : L ≤ 4194304 := by rw [hL]; exact hs
        have e1 : (L : Int) / (p : Int) = (t : Int) := by rw [ht]; rfl
        have e2 : (L : Int).tdiv (p : Int) = (t : Int) := by rw [ht]; rfl
        have hwt : IntKind.i64.wrap (t : Int) = (t : Int) := by rw [IntKind.wrap_i64]; omega
        obtain ⟨n, hn⟩ := HW.out
        subst hn
        clear ht HD HA hL hjl hs HJ HPK hkj
        go_wp2
        go_quiet (fail)
        go_wp2
        go_ret2
        exact ⟨p, t, rfl, HF.out, by repeat (first | exact Below.refl _ _ | apply below_drewN)⟩
  · have HF : Hid (FF u 1 0) := ⟨fun _ => ⟨rfl, rfl⟩, fun h => absurd h h0⟩
    obtain rfl : u = [] := List.eq_nil_of_length_eq_zero (by omega)
    clear h0 HA
    go_enter Try.func35, Try.ntmps35
    go_wp2
    refine wp_loop_rounds 1 ?_
    rw [rounds_succ]
    go_wp2
    go_quiet (fail)
    go_wp2
    go_ret2
    exact ⟨1, 0, rfl, HF.out, by repeat (first | exact Below.refl _ _ | apply below_drewN)⟩
theorem impl_lyn (v : Value) (u : List Int) (w : World) (h : Lies (Value.int .i64) w v u) (hs : u.length ≤ 4194304) :
    Calls Try.prog 13 #[v] w fun e w' => e = .returned (.bool (lyB u)) ∧ Below w.heap.size w w' := by
  have HC := Lib.hid (first v u w h hs)
  obtain ⟨hl, a, ca, rfl, _, _⟩ := h
  obtain ⟨c, hc⟩ : ∃ c, c = lyB u := ⟨_, rfl⟩
  rw [← hc]
  have HCC := Lib.hid hc
  clear hc
  go_enter Try.func13, Try.ntmps13
  go_wp2_with fail
  refine HC.out.mono ?_
  rintro e W1 ⟨p, t, rfl, hf, hb⟩
  have HF := Lib.hid (ff_ly hf)
  have HB := Lib.hid hb
  clear hf hb HC
  by_cases h0 : 0 < u.length
  · have hd := decide_eq_true (show (u.length : Int) > 0 by omega)
    obtain ⟨q, hq⟩ : ∃ q, ((p : Int) == (u.length : Int)) = q := ⟨_, rfl⟩
    have HE : Hid (q = c) := by
      show _ = _
      rw [HCC.out, ← HF.out, decide_eq_true h0, Bool.true_and, ← hq, Bool.eq_iff_iff]
      simp
      omega
    go_wp2
    go_ret
    exact ⟨Fac.ret_b HE.out, HB.out⟩
  · have hd := decide_eq_false (show ¬ (u.length : Int) > 0 by omega)
    have HE : Hid (false = c) := by
      show _ = _
      rw [HCC.out, ← HF.out, decide_eq_false h0, Bool.false_and]
    go_wp2
    go_ret
    exact ⟨Fac.ret_b HE.out, HB.out⟩
end Lynd
end Go.Proofs.Ytcnejfihpaicdaa
