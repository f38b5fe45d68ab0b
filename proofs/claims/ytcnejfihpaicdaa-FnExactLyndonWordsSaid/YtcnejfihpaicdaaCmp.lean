/- Contracts of CompareWords, of the model and of the program; a slice with room for what it holds, and parts of it. No conditions beyond those that each states. -/
import Derived.Test.YtcnejfihpaicdaaSeqEqual
import Derived.Test.YtcnejfihpaicdaaFacVal
import Derived.Test.YtcnejfihpaicdaaShelf
import Derived.Test.YtcnejfihpaicdaaSeqs2
import Derived.BigQuiet
namespace Go.Proofs.Ytcnejfihpaicdaa
open Go.ChangeShapes Go.WideShapes Go.ChangeAt Go.RowKit
open Go.PlainAid Plain
set_option linter.unusedVariables false
namespace Fac
open Seqs
theorem ret_i {a b : Int} (h : a = b) : Ending.returned (.int .i64 a) = Ending.returned (.int .i64 b) := by rw [h]
theorem ret_b {a b : Bool} (h : a = b) : Ending.returned (.bool a) = Ending.returned (.bool b) := by rw [h]
/-- A slice that reads as a list, its capacity no less than its length. -/
def LiesC (w : World) (v : Value) (xs : List Int) : Prop := Lies (Value.int .i64) w v xs ∧ ∀ a n c, v = .slice a n c → n ≤ c
theorem LiesC.lies {w : World} {v : Value} {xs : List Int} (h : LiesC w v xs) : Lies (Value.int .i64) w v xs := h.1
theorem LiesC.below {w w' : World} {v : Value} {xs : List Int} (h : LiesC w v xs) (hb : Below w.heap.size w w') : LiesC w' v xs := ⟨h.1.below hb, h.2⟩
theorem LiesC.form {w : World} {v : Value} {xs : List Int} (h : LiesC w v xs) : ∃ a c, v = .slice a xs.length c ∧ xs.length ≤ c := by
  obtain ⟨⟨_, a, c, rfl, _⟩, h2⟩ := h
  exact ⟨a, c, rfl, h2 _ _ _ rfl⟩
theorem LiesC.of_has {w : World} {base : Nat} {v : Value} {xs : List Int} (h : Has (Value.int .i64) 3 w base v xs) : LiesC w v xs := by
  refine ⟨h.lies, fun a n c hv => ?_⟩
  rcases h.2 with ⟨rfl, hn⟩ | ⟨g, cap, cur, rfl, _, _, hc, _⟩
  · injection hv with e1 e2 e3
    omega
  · injection hv with e1 e2 e3
    omega
theorem size_ti : (Try.prog.info? 3).map (·.size) = some 1 := by kernel_rfl
theorem elem_tr : Try.prog.elem 22 = 3 := by kernel_rfl
/-- A part of such a slice. -/
theorem LiesC.cut {w : World} {a : Option Addr} {c : Nat} {xs : List Int} {l h : Nat} (hl : LiesC w (.slice a xs.length c) xs) (h1 : l ≤ h) (h2 : h ≤ xs.length) :
    LiesC w (sliced a l h c 1) ((xs.drop l).take (h - l)) := by
  obtain ⟨⟨hs, a', c', hv, hn, hc⟩, hcap⟩ := hl
  have hcap := hcap _ _ _ rfl
  injection hv with e1 e2 e3
  subst e1; subst e3
  have hlen : ((xs.drop l).take (h - l)).length = h - l := by rw [List.length_take, List.length_drop]; omega
  have hm : ∀ (i : Nat) (x : Int), ((xs.drop l).take (h - l))[i]? = some x → i < h - l ∧ xs[l + i]? = some x := fun i x hx => by
    rw [List.getElem?_take] at hx
    split at hx
    · rw [List.getElem?_drop] at hx
      exact ⟨by assumption, hx⟩
    · cases hx
  refine ⟨⟨by omega, ?_⟩, fun p n q hv => ?_⟩
  · unfold sliced
    rw [hlen]
    by_cases hcl : c = l
    · rw [if_pos hcl]
      refine ⟨a, c - l, rfl, fun _ => by omega, fun i x hx => ?_⟩
      have := (hm i x hx).1
      omega
    · rw [if_neg hcl]
      refine ⟨a.map (·.add (l * 1)), c - l, rfl, fun hnone => ?_, fun i x hx => ?_⟩
      · cases a with
        | none => have := hn rfl; omega
        | some _ => cases hnone
      · obtain ⟨b, off, rfl, hcell⟩ := hc _ _ (hm i x hx).2
        refine ⟨b, off + l, ?_, ?_⟩
        · rw [Option.map_some, addr_plus, Nat.mul_one]
        · rw [Nat.add_assoc]
          exact hcell
  · unfold sliced at hv
    injection hv with e1 e2 e3
    omega
/-- What the operation makes of it, under a name of its own. -/
theorem LiesC.slice {w : World} {a : Option Addr} {c : Nat} {xs : List Int} {l h : Nat} {L H : Int} (hl : LiesC w (.slice a xs.length c) xs) (h1 : l ≤ h) (h2 : h ≤ xs.length) (hL : L = l) (hH : H = h) :
    ∃ a' c', (∀ W : World, (Instr.slice 22 (.slice a xs.length c) (some (.int .i64 L)) (some (.int .i64 H)) none).run Try.prog W = .ok (.slice a' (h - l) c') W) ∧ LiesC w (.slice a' (h - l) c') ((xs.drop l).take (h - l)) := by
  have hcut := hl.cut h1 h2
  have hcap := hl.2 _ _ _ rfl
  subst hL; subst hH
  refine ⟨_, _, fun W => ?_, hcut⟩
  have := run_slice_lh (P := Try.prog) (w := W) (t := 22) (a := a) (len := xs.length) (cap := c) (by rw [elem_tr]; exact Try.underlying22) .i64 .i64 (l : Int) (h : Int) (by omega) (by omega) (by omega)
  rw [this, elem_tr]
  simp [go_sem, Result.andThen]
theorem cmp_int (x y : Int) (w : World) : Calls Try.prog 74 #[.int .i64 x, .int .i64 y] w fun e w' => e = .returned (.int .i64 (Lib.compareInt x y)) ∧ w = w' :=
  (Try.cmp_Compare_int x y w).mono fun _ _ h => ⟨h.1, h.2.symm⟩
theorem cmp_lt (x y : Int) (w : World) (h : x < y) : Calls Try.prog 74 #[.int .i64 x, .int .i64 y] w fun e w' => e = .returned (.int .i64 (-1)) ∧ w = w' := by
  have := cmp_int x y w
  rwa [show Lib.compareInt x y = -1 from by simp [Lib.compareInt, h]] at this
theorem cmp_gt (x y : Int) (w : World) (h : y < x) : Calls Try.prog 74 #[.int .i64 x, .int .i64 y] w fun e w' => e = .returned (.int .i64 1) ∧ w = w' := by
  have := cmp_int x y w
  have h' : ¬ x < y := by omega
  rwa [show Lib.compareInt x y = 1 from by simp [Lib.compareInt, h, h']] at this
theorem cmp_same (x : Int) (w : World) : Calls Try.prog 74 #[.int .i64 x, .int .i64 x] w fun e w' => e = .returned (.int .i64 0) ∧ w = w' := by
  have := cmp_int x x w
  rwa [show Lib.compareInt x x = 0 from by simp [Lib.compareInt]] at this
theorem sl_cmp (u v : Value) (xs ys : List Int) (w : World) (h1 : Lies (Value.int .i64) w u xs) (h2 : Lies (Value.int .i64) w v ys) :
    Calls Try.prog 63 #[u, v] w fun e w' => e = .returned (.int .i64 (cmpW xs ys)) ∧ w = w' := by
  obtain ⟨hl, a, ca, rfl, _, hca⟩ := h1
  obtain ⟨hl2, b, cb, rfl, _, hcb⟩ := h2
  have HA := Lib.hid hca
  have HB := Lib.hid hcb
  clear hca hcb
  go_enter Try.func63, Try.ntmps63
  go_wp2
  go_loop [11] (fun i' => ∃ i : Nat, i ≤ xs.length ∧ i' = .int .i64 i ∧ Hid (cmpW (xs.drop i) (ys.drop i) = cmpW xs ys)) (fun i' => xs.length - (intOf i').toNat)
  case atStart => exact ⟨0, Nat.zero_le _, rfl, rfl⟩
  case round =>
    obtain ⟨i, hi, rfl, HI⟩ := hrel
    by_cases hlt : i < xs.length
    · obtain ⟨x, hx⟩ : ∃ x, xs[i]? = some x := ⟨_, List.getElem?_eq_getElem hlt⟩
      obtain ⟨p, o, rfl, hc1⟩ := HA.out i x hx
      have HX := Lib.hid hx
      clear hx
      by_cases hy : i < ys.length
      · obtain ⟨y, hy'⟩ : ∃ y, ys[i]? = some y := ⟨_, List.getElem?_eq_getElem hy⟩
        obtain ⟨q, r, rfl, hc2⟩ := HB.out i y hy'
        have HE := Lib.hid (cmpW_at HX.out hy')
        clear hy'
        rcases Int.lt_trichotomy x y with hxy | hxy | hxy
        · have HV : Hid (-1 = cmpW xs ys) := by
            have := HI.out
            rw [HE.out, if_pos hxy] at this
            exact this
          go_wp2_with (go_at_call 74; refine (cmp_lt x y _ hxy).mono ?_; rintro e w' ⟨rfl, rfl⟩)
          go_ret
          exact ⟨ret_i HV.out, rfl⟩
        · subst hxy
          have HN : Hid (cmpW (xs.drop (i + 1)) (ys.drop (i + 1)) = cmpW xs ys) := by
            have := HI.out
            rw [HE.out, if_neg (by omega), if_neg (by omega)] at this
            exact this
          go_wp2_with (go_at_call 74; refine (cmp_same x _).mono ?_; rintro e w' ⟨rfl, rfl⟩)
          go_round
          case rel => exact ⟨i + 1, by omega, by go_num, HN⟩
          case measure => simp [intOf]; omega
        · have HV : Hid (1 = cmpW xs ys) := by
            have := HI.out
            rw [HE.out, if_neg (by omega), if_pos hxy] at this
            exact this
          go_wp2_with (go_at_call 74; refine (cmp_gt x y _ hxy).mono ?_; rintro e w' ⟨rfl, rfl⟩)
          go_ret
          exact ⟨ret_i HV.out, rfl⟩
      · have HV : Hid (1 = cmpW xs ys) := by
          have := HI.out
          rw [cmpW_short hlt (by omega)] at this
          exact this
        go_wp2
        go_ret
        exact ⟨ret_i HV.out, rfl⟩
    · by_cases hl3 : xs.length < ys.length
      · have HV : Hid (-1 = cmpW xs ys) := by
          have := HI.out
          rw [cmpW_long (by omega) (by omega)] at this
          exact this
        go_wp2
        go_ret
        exact ⟨ret_i HV.out, rfl⟩
      · have HV : Hid (0 = cmpW xs ys) := by
          have := HI.out
          rw [cmpW_both (by omega) (by omega)] at this
          exact this
        go_wp2
        go_ret
        exact ⟨ret_i HV.out, rfl⟩
theorem impl_cmp (u v : Value) (xs ys : List Int) (w : World) (h1 : Lies (Value.int .i64) w u xs) (h2 : Lies (Value.int .i64) w v ys) :
    Calls Try.prog 58 #[u, v] w fun e w' => e = .returned (.int .i64 (cmpW xs ys)) ∧ w = w' := by
  go_enter Try.func58, Try.ntmps58
  go_wp2_with (go_at_call 63; refine (sl_cmp u v xs ys _ h1 h2).mono ?_; rintro e w' ⟨rfl, rfl⟩)
  go_ret
  exact ⟨rfl, rfl⟩
theorem impl_cmp_b (u v : Value) (xs ys : List Int) (w : World) (h1 : Lies (Value.int .i64) w u xs) (h2 : Lies (Value.int .i64) w v ys) :
    Calls Try.prog 58 #[u, v] w fun e w' => e = .returned (.int .i64 (cmpW xs ys)) ∧ Below w.heap.size w w' :=
  (impl_cmp u v xs ys w h1 h2).mono fun _ _ h => ⟨h.1, h.2 ▸ Below.refl _ _⟩
theorem spec_cmp (u v : Value) (xs ys : List Int) (w : World) (h1 : Lies (Value.int .i64) w u xs) (h2 : Lies (Value.int .i64) w v ys) :
    Calls Try.prog 34 #[u, v] w fun e w' => e = .returned (.int .i64 (cmpW xs ys)) ∧ Below w.heap.size w w' := by
  obtain ⟨hl, a, ca, rfl, _, hca⟩ := h1
  obtain ⟨hl2, b, cb, rfl, _, hcb⟩ := h2
  have HA := Lib.hid hca
  have HB := Lib.hid hcb
  clear hca hcb
  go_enter Try.func34, Try.ntmps34
  go_wp2
  go_loopw [5] (fun i' wr => ∃ i : Nat, i ≤ xs.length ∧ i ≤ ys.length ∧ i' = .int .i64 i ∧ Hid (cmpW (xs.drop i) (ys.drop i) = cmpW xs ys) ∧ Hid (∃ n, wr = w.drewN n)) (fun i' _ => xs.length - (intOf i').toNat)
  case atStart => exact ⟨0, Nat.zero_le _, Nat.zero_le _, rfl, rfl, 0, rfl⟩
  case round =>
    obtain ⟨i, hi, hi2, rfl, HI, HW⟩ := hrel
    by_cases hlt : i < xs.length
    · by_cases hy : i < ys.length
      · obtain ⟨x, hx⟩ : ∃ x, xs[i]? = some x := ⟨_, List.getElem?_eq_getElem hlt⟩
        obtain ⟨y, hy'⟩ : ∃ y, ys[i]? = some y := ⟨_, List.getElem?_eq_getElem hy⟩
        obtain ⟨p, o, rfl, hc1⟩ := HA.out i x hx
        obtain ⟨q, r, rfl, hc2⟩ := HB.out i y hy'
        have HE := Lib.hid (cmpW_at hx hy')
        clear hx hy'
        obtain ⟨n, hn⟩ := HW.out
        subst hn
        rcases Int.lt_trichotomy x y with hxy | hxy | hxy
        · have HV : Hid (-1 = cmpW xs ys) := by
            have := HI.out
            rw [HE.out, if_pos hxy] at this
            exact this
          go_wp2
          go_quiet (fail)
          go_wp2
          go_ret
          exact ⟨ret_i HV.out, below_drewN (below_drewN (Below.refl _ _) _) _⟩
        · subst hxy
          have HN : Hid (cmpW (xs.drop (i + 1)) (ys.drop (i + 1)) = cmpW xs ys) := by
            have := HI.out
            rw [HE.out, if_neg (by omega), if_neg (by omega)] at this
            exact this
          go_wp2
          go_quiet (fail)
          go_wp2
          go_quiet (fail)
          go_wp2
          go_roundw
          case rel => exact ⟨i + 1, by omega, by omega, by go_num, HN, ⟨_, rfl⟩⟩
          case measure => simp [intOf]; omega
        · have HV : Hid (1 = cmpW xs ys) := by
            have := HI.out
            rw [HE.out, if_neg (by omega), if_pos hxy] at this
            exact this
          go_wp2
          go_quiet (fail)
          go_wp2
          go_quiet (fail)
          go_wp2
          go_ret
          exact ⟨ret_i HV.out, below_drewN (below_drewN (below_drewN (Below.refl _ _) _) _) _⟩
      · have HV : Hid (1 = cmpW xs ys) := by
          have := HI.out
          rw [cmpW_short hlt (by omega)] at this
          exact this
        obtain ⟨n, hn⟩ := HW.out
        subst hn
        go_wp2
        go_ret
        exact ⟨ret_i HV.out, below_drewN (Below.refl _ _) _⟩
    · obtain ⟨n, hn⟩ := HW.out
      subst hn
      by_cases hl3 : xs.length < ys.length
      · have HV : Hid (-1 = cmpW xs ys) := by
          have := HI.out
          rw [cmpW_long (by omega) (by omega)] at this
          exact this
        go_wp2
        go_ret
        exact ⟨ret_i HV.out, below_drewN (Below.refl _ _) _⟩
      · have HV : Hid (0 = cmpW xs ys) := by
          have := HI.out
          rw [cmpW_both (by omega) (by omega)] at this
          exact this
        go_wp2
        go_ret
        exact ⟨ret_i HV.out, below_drewN (Below.refl _ _) _⟩
end Fac
end Go.Proofs.Ytcnejfihpaicdaa
